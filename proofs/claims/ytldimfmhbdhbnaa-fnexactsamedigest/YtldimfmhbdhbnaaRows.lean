/-
  No cell of these rows narrows 'for every input' (looked for: loops, veiled, ifaces, maps, wideKeys, modest, calm, conditions, laid).
  DERIVED. THE GIVEN ROWS OF THIS SEAT. 7 by the template 'for every input the law returns true; each argument reads behind the call as it read before'; 0 by the template 'total and deterministic' (their statements: YtldimfmhbdhbnaaTotals.lean).
  GIVEN WITH THE SEED: the statements are not yours to turn. If you find one false, say at which input.
  Laid BY PROGRAM, IN A SANDBOX (cutbox-rows.mjs): the forced cells as the released guide's own fill.sh prints them over the translation 4c6f49b5674dbd78… (all of the seat's roots in one cut). By AI agents, Wed Nov 11 2026. No macro, syntax, notation, axiom, sorry.
-/
import Derived.Test.YtldimfmhbdhbnaaChecked
import GoSem.Claim
import GoSem.ClaimJoined
import GoSem.ClaimMapViews
import Derived.JoinedTies
import Derived.KernelRfl
namespace Go.Proofs.Ytldimfmhbdhbnaa
/- THE CELL 'sum', in the pinned program and in every row, IS THE sha256 OF THE DUMP (.gsa) THAT YtldimfmhbdhbnaaProg.lean LOADS. Nothing in Lean hashes anything: it is a label: what it is worth is what the hold of that sum in a sandbox is worth. -/
noncomputable def Try.pinned : Pinned := { name := "ytldimfmhbdhbnaa", sum := "4c6f49b5674dbd785ba765bae3355df5a96de56c8d58870d972bcca204d2c79b", checked := Try.checked }
namespace Rows
def none {H : Type} : Left H := { results := [], args := [] }

/-- 'laws.FnPlaces': WHATEVER THE INPUT: true; the input reads as it did. -/
def fnPlacesSpec : ChangeSpec := { name := "fnPlaces", fn := fun _ => fun
  | [d] => { results := [.lit (.bool true)], args := [d] }
  | _ => none }
def fnPlacesRow : OpenClaim := { program := "ytldimfmhbdhbnaa", sum := "4c6f49b5674dbd785ba765bae3355df5a96de56c8d58870d972bcca204d2c79b", func := "loop.example/g00623/laws.FnPlaces", spec := "fnPlaces", unfollowed := true, recurses := true, apart := false }
def FnPlacesSaid : Prop := fnPlacesRow.holds Try.pinned (OpenSpec.ofChange fnPlacesSpec)

/-- ITS FALSE NEIGHBOUR: 'it returns false'. Refute it at one input. -/
def fnPlacesWrong : ChangeSpec := { name := "fnPlaces", fn := fun _ => fun
  | [d] => { results := [.lit (.bool false)], args := [d] }
  | _ => none }
def FnPlacesWrongFalsely : Prop := fnPlacesRow.holds Try.pinned (OpenSpec.ofChange fnPlacesWrong)

/-- 'laws.FnExactRowSum': WHATEVER THE INPUT: true; the input reads as it did. -/
def fnExactRowSumSpec : ChangeSpec := { name := "fnExactRowSum", fn := fun _ => fun
  | [d] => { results := [.lit (.bool true)], args := [d] }
  | _ => none }
def fnExactRowSumRow : OpenClaim := { program := "ytldimfmhbdhbnaa", sum := "4c6f49b5674dbd785ba765bae3355df5a96de56c8d58870d972bcca204d2c79b", func := "loop.example/g00623/laws.FnExactRowSum", spec := "fnExactRowSum", apart := false }
def FnExactRowSumSaid : Prop := fnExactRowSumRow.holds Try.pinned (OpenSpec.ofChange fnExactRowSumSpec)

/-- ITS FALSE NEIGHBOUR: 'it returns false'. Refute it at one input. -/
def fnExactRowSumWrong : ChangeSpec := { name := "fnExactRowSum", fn := fun _ => fun
  | [d] => { results := [.lit (.bool false)], args := [d] }
  | _ => none }
def FnExactRowSumWrongFalsely : Prop := fnExactRowSumRow.holds Try.pinned (OpenSpec.ofChange fnExactRowSumWrong)

/-- 'laws.FnExactDigestOf': WHATEVER THE INPUT: true; the input reads as it did. -/
def fnExactDigestOfSpec : ChangeSpec := { name := "fnExactDigestOf", fn := fun _ => fun
  | [d] => { results := [.lit (.bool true)], args := [d] }
  | _ => none }
def fnExactDigestOfRow : OpenClaim := { program := "ytldimfmhbdhbnaa", sum := "4c6f49b5674dbd785ba765bae3355df5a96de56c8d58870d972bcca204d2c79b", func := "loop.example/g00623/laws.FnExactDigestOf", spec := "fnExactDigestOf", unfollowed := true, recurses := true, apart := false }
def FnExactDigestOfSaid : Prop := fnExactDigestOfRow.holds Try.pinned (OpenSpec.ofChange fnExactDigestOfSpec)

/-- ITS FALSE NEIGHBOUR: 'it returns false'. Refute it at one input. -/
def fnExactDigestOfWrong : ChangeSpec := { name := "fnExactDigestOf", fn := fun _ => fun
  | [d] => { results := [.lit (.bool false)], args := [d] }
  | _ => none }
def FnExactDigestOfWrongFalsely : Prop := fnExactDigestOfRow.holds Try.pinned (OpenSpec.ofChange fnExactDigestOfWrong)

/-- 'laws.FnExactRangeDigest': WHATEVER THE INPUT: true; the input reads as it did. -/
def fnExactRangeDigestSpec : ChangeSpec := { name := "fnExactRangeDigest", fn := fun _ => fun
  | [d1, d2, d3] => { results := [.lit (.bool true)], args := [d1, d2, d3] }
  | _ => none }
def fnExactRangeDigestRow : OpenClaim := { program := "ytldimfmhbdhbnaa", sum := "4c6f49b5674dbd785ba765bae3355df5a96de56c8d58870d972bcca204d2c79b", func := "loop.example/g00623/laws.FnExactRangeDigest", spec := "fnExactRangeDigest", unfollowed := true, recurses := true, apart := false }
def FnExactRangeDigestSaid : Prop := fnExactRangeDigestRow.holds Try.pinned (OpenSpec.ofChange fnExactRangeDigestSpec)

/-- ITS FALSE NEIGHBOUR: 'it returns false'. Refute it at one input. -/
def fnExactRangeDigestWrong : ChangeSpec := { name := "fnExactRangeDigest", fn := fun _ => fun
  | [d1, d2, d3] => { results := [.lit (.bool false)], args := [d1, d2, d3] }
  | _ => none }
def FnExactRangeDigestWrongFalsely : Prop := fnExactRangeDigestRow.holds Try.pinned (OpenSpec.ofChange fnExactRangeDigestWrong)

/-- 'laws.FnExactSameDigest': WHATEVER THE INPUT: true; the input reads as it did. -/
def fnExactSameDigestSpec : ChangeSpec := { name := "fnExactSameDigest", fn := fun _ => fun
  | [d1, d2] => { results := [.lit (.bool true)], args := [d1, d2] }
  | _ => none }
def fnExactSameDigestRow : OpenClaim := { program := "ytldimfmhbdhbnaa", sum := "4c6f49b5674dbd785ba765bae3355df5a96de56c8d58870d972bcca204d2c79b", func := "loop.example/g00623/laws.FnExactSameDigest", spec := "fnExactSameDigest", unfollowed := true, recurses := true, apart := false }
def FnExactSameDigestSaid : Prop := fnExactSameDigestRow.holds Try.pinned (OpenSpec.ofChange fnExactSameDigestSpec)

/-- ITS FALSE NEIGHBOUR: 'it returns false'. Refute it at one input. -/
def fnExactSameDigestWrong : ChangeSpec := { name := "fnExactSameDigest", fn := fun _ => fun
  | [d1, d2] => { results := [.lit (.bool false)], args := [d1, d2] }
  | _ => none }
def FnExactSameDigestWrongFalsely : Prop := fnExactSameDigestRow.holds Try.pinned (OpenSpec.ofChange fnExactSameDigestWrong)

/-- 'laws.FnExactDifferAt': WHATEVER THE INPUT: true; the input reads as it did. -/
def fnExactDifferAtSpec : ChangeSpec := { name := "fnExactDifferAt", fn := fun _ => fun
  | [d1, d2] => { results := [.lit (.bool true)], args := [d1, d2] }
  | _ => none }
def fnExactDifferAtRow : OpenClaim := { program := "ytldimfmhbdhbnaa", sum := "4c6f49b5674dbd785ba765bae3355df5a96de56c8d58870d972bcca204d2c79b", func := "loop.example/g00623/laws.FnExactDifferAt", spec := "fnExactDifferAt", unfollowed := true, recurses := true, apart := false }
def FnExactDifferAtSaid : Prop := fnExactDifferAtRow.holds Try.pinned (OpenSpec.ofChange fnExactDifferAtSpec)

/-- ITS FALSE NEIGHBOUR: 'it returns false'. Refute it at one input. -/
def fnExactDifferAtWrong : ChangeSpec := { name := "fnExactDifferAt", fn := fun _ => fun
  | [d1, d2] => { results := [.lit (.bool false)], args := [d1, d2] }
  | _ => none }
def FnExactDifferAtWrongFalsely : Prop := fnExactDifferAtRow.holds Try.pinned (OpenSpec.ofChange fnExactDifferAtWrong)

/-- 'laws.FnExactAddDigest': WHATEVER THE INPUT: true; the input reads as it did. -/
def fnExactAddDigestSpec : ChangeSpec := { name := "fnExactAddDigest", fn := fun _ => fun
  | [d1, d2] => { results := [.lit (.bool true)], args := [d1, d2] }
  | _ => none }
def fnExactAddDigestRow : OpenClaim := { program := "ytldimfmhbdhbnaa", sum := "4c6f49b5674dbd785ba765bae3355df5a96de56c8d58870d972bcca204d2c79b", func := "loop.example/g00623/laws.FnExactAddDigest", spec := "fnExactAddDigest", apart := false }
def FnExactAddDigestSaid : Prop := fnExactAddDigestRow.holds Try.pinned (OpenSpec.ofChange fnExactAddDigestSpec)

/-- ITS FALSE NEIGHBOUR: 'it returns false'. Refute it at one input. -/
def fnExactAddDigestWrong : ChangeSpec := { name := "fnExactAddDigest", fn := fun _ => fun
  | [d1, d2] => { results := [.lit (.bool false)], args := [d1, d2] }
  | _ => none }
def FnExactAddDigestWrongFalsely : Prop := fnExactAddDigestRow.holds Try.pinned (OpenSpec.ofChange fnExactAddDigestWrong)

/- THE SECOND FORM. 'bulk': how many values and letters a reading holds, each counted each time it is reached (what is shared counts as often as it is met; a slice's spare places count too). A statement '..UptoSaid' is the law's where the arguments, and the package variables that the reading takes, are together of bulk at most 1048576: NARROWER than '..Said'. Prove '..Said' where nothing that the law and all that it calls make is longer than what came in: it says more and counts as full. Else prove '..UptoSaid'. A law counts once. -/
mutual
def uptoBulk {H : Type} : DataW H → Nat
  | .lit (.string bytes) => bytes.length + 1
  | .lit _ => 1
  | .nil => 1
  | .ptr d => uptoBulk d + 1
  | .slice elems spare => uptoBulkAll elems + uptoBulkAll spare + 1
  | .agg parts => uptoBulkAll parts + 1
  | .iface _ d => uptoBulk d + 1
  | .map entries => uptoBulkEntries entries + 1
  | .held _ => 1
def uptoBulkAll {H : Type} : List (DataW H) → Nat
  | [] => 0
  | d :: r => uptoBulk d + uptoBulkAll r
def uptoBulkEntries {H : Type} : List (Lit × DataW H) → Nat
  | [] => 0
  | x :: r => uptoBulkEntry x + uptoBulkEntries r
def uptoBulkEntry {H : Type} : Lit × DataW H → Nat
  | (.string bytes, d) => bytes.length + uptoBulk d + 1
  | (_, d) => uptoBulk d + 1
 end
def uptoSmall : (H : Type) → List (DataW H) → Bool := fun _ ds => decide (uptoBulkAll ds ≤ 1048576)
def OpenSpec.upto (s : _root_.Go.ChangeSpec) : _root_.Go.OpenSpec := { _root_.Go.OpenSpec.ofChange s with cond := some uptoSmall }

/-- 'laws.FnPlaces', WHERE WHAT IT READS IS OF BULK AT MOST 1048576: true; the input reads as it did. -/
def fnPlacesUptoRow : OpenClaim := { program := "ytldimfmhbdhbnaa", sum := "4c6f49b5674dbd785ba765bae3355df5a96de56c8d58870d972bcca204d2c79b", func := "loop.example/g00623/laws.FnPlaces", spec := "fnPlaces", unfollowed := true, recurses := true, apart := false, narrowed := true }
def FnPlacesUptoSaid : Prop := fnPlacesUptoRow.holds Try.pinned (OpenSpec.upto fnPlacesSpec)

/-- 'laws.FnExactRowSum', WHERE WHAT IT READS IS OF BULK AT MOST 1048576: true; the input reads as it did. -/
def fnExactRowSumUptoRow : OpenClaim := { program := "ytldimfmhbdhbnaa", sum := "4c6f49b5674dbd785ba765bae3355df5a96de56c8d58870d972bcca204d2c79b", func := "loop.example/g00623/laws.FnExactRowSum", spec := "fnExactRowSum", apart := false, narrowed := true }
def FnExactRowSumUptoSaid : Prop := fnExactRowSumUptoRow.holds Try.pinned (OpenSpec.upto fnExactRowSumSpec)

/-- 'laws.FnExactDigestOf', WHERE WHAT IT READS IS OF BULK AT MOST 1048576: true; the input reads as it did. -/
def fnExactDigestOfUptoRow : OpenClaim := { program := "ytldimfmhbdhbnaa", sum := "4c6f49b5674dbd785ba765bae3355df5a96de56c8d58870d972bcca204d2c79b", func := "loop.example/g00623/laws.FnExactDigestOf", spec := "fnExactDigestOf", unfollowed := true, recurses := true, apart := false, narrowed := true }
def FnExactDigestOfUptoSaid : Prop := fnExactDigestOfUptoRow.holds Try.pinned (OpenSpec.upto fnExactDigestOfSpec)

/-- 'laws.FnExactRangeDigest', WHERE WHAT IT READS IS OF BULK AT MOST 1048576: true; the input reads as it did. -/
def fnExactRangeDigestUptoRow : OpenClaim := { program := "ytldimfmhbdhbnaa", sum := "4c6f49b5674dbd785ba765bae3355df5a96de56c8d58870d972bcca204d2c79b", func := "loop.example/g00623/laws.FnExactRangeDigest", spec := "fnExactRangeDigest", unfollowed := true, recurses := true, apart := false, narrowed := true }
def FnExactRangeDigestUptoSaid : Prop := fnExactRangeDigestUptoRow.holds Try.pinned (OpenSpec.upto fnExactRangeDigestSpec)

/-- 'laws.FnExactSameDigest', WHERE WHAT IT READS IS OF BULK AT MOST 1048576: true; the input reads as it did. -/
def fnExactSameDigestUptoRow : OpenClaim := { program := "ytldimfmhbdhbnaa", sum := "4c6f49b5674dbd785ba765bae3355df5a96de56c8d58870d972bcca204d2c79b", func := "loop.example/g00623/laws.FnExactSameDigest", spec := "fnExactSameDigest", unfollowed := true, recurses := true, apart := false, narrowed := true }
def FnExactSameDigestUptoSaid : Prop := fnExactSameDigestUptoRow.holds Try.pinned (OpenSpec.upto fnExactSameDigestSpec)

/-- 'laws.FnExactDifferAt', WHERE WHAT IT READS IS OF BULK AT MOST 1048576: true; the input reads as it did. -/
def fnExactDifferAtUptoRow : OpenClaim := { program := "ytldimfmhbdhbnaa", sum := "4c6f49b5674dbd785ba765bae3355df5a96de56c8d58870d972bcca204d2c79b", func := "loop.example/g00623/laws.FnExactDifferAt", spec := "fnExactDifferAt", unfollowed := true, recurses := true, apart := false, narrowed := true }
def FnExactDifferAtUptoSaid : Prop := fnExactDifferAtUptoRow.holds Try.pinned (OpenSpec.upto fnExactDifferAtSpec)

/-- 'laws.FnExactAddDigest', WHERE WHAT IT READS IS OF BULK AT MOST 1048576: true; the input reads as it did. -/
def fnExactAddDigestUptoRow : OpenClaim := { program := "ytldimfmhbdhbnaa", sum := "4c6f49b5674dbd785ba765bae3355df5a96de56c8d58870d972bcca204d2c79b", func := "loop.example/g00623/laws.FnExactAddDigest", spec := "fnExactAddDigest", apart := false, narrowed := true }
def FnExactAddDigestUptoSaid : Prop := fnExactAddDigestUptoRow.holds Try.pinned (OpenSpec.upto fnExactAddDigestSpec)

end Rows
end Go.Proofs.Ytldimfmhbdhbnaa
