/-
  No cell of these rows narrows 'for every input' (looked for: loops, veiled, ifaces, maps, wideKeys, modest, calm, conditions, laid).
  DERIVED. THE GIVEN ROWS OF THIS SEAT. 7 by the template 'for every input the law returns true; each argument reads behind the call as it read before'; 0 by the template 'total and deterministic' (their statements: YtdohgpdkfdbenaaTotals.lean).
  GIVEN WITH THE SEED: the statements are not yours to turn. If you find one false, say at which input.
  Laid BY PROGRAM, IN A SANDBOX (cutbox-rows.mjs): the forced cells as the released guide's own fill.sh prints them over the translation a49c4d7f004a3e84… (all of the seat's roots in one cut). By AI agents, Wed Nov 11 2026. No macro, syntax, notation, axiom, sorry.
-/
import Derived.Test.YtdohgpdkfdbenaaChecked
import GoSem.Claim
import GoSem.ClaimJoined
import GoSem.ClaimMapViews
import Derived.JoinedTies
import Derived.KernelRfl
namespace Go.Proofs.Ytdohgpdkfdbenaa
/- THE CELL 'sum', in the pinned program and in every row, IS THE sha256 OF THE DUMP (.gsa) THAT YtdohgpdkfdbenaaProg.lean LOADS. Nothing in Lean hashes anything: it is a label: what it is worth is what the hold of that sum in a sandbox is worth. -/
noncomputable def Try.pinned : Pinned := { name := "ytdohgpdkfdbenaa", sum := "a49c4d7f004a3e84f551081081ec0a0cbe8e01ee14cbd0a2115b27e122622152", checked := Try.checked }
namespace Rows
def none {H : Type} : Left H := { results := [], args := [] }

/-- 'laws.FnScans': WHATEVER THE INPUT: true; the input reads as it did. -/
def fnScansSpec : ChangeSpec := { name := "fnScans", fn := fun _ => fun
  | [d] => { results := [.lit (.bool true)], args := [d] }
  | _ => none }
def fnScansRow : OpenClaim := { program := "ytdohgpdkfdbenaa", sum := "a49c4d7f004a3e84f551081081ec0a0cbe8e01ee14cbd0a2115b27e122622152", func := "loop.example/g00623/laws.FnScans", spec := "fnScans", unfollowed := true, recurses := true, apart := false }
def FnScansSaid : Prop := fnScansRow.holds Try.pinned (OpenSpec.ofChange fnScansSpec)

/-- ITS FALSE NEIGHBOUR: 'it returns false'. Refute it at one input. -/
def fnScansWrong : ChangeSpec := { name := "fnScans", fn := fun _ => fun
  | [d] => { results := [.lit (.bool false)], args := [d] }
  | _ => none }
def FnScansWrongFalsely : Prop := fnScansRow.holds Try.pinned (OpenSpec.ofChange fnScansWrong)

/-- 'laws.FnExactPlacesFault': WHATEVER THE INPUT: true; the input reads as it did. -/
def fnExactPlacesFaultSpec : ChangeSpec := { name := "fnExactPlacesFault", fn := fun _ => fun
  | [d] => { results := [.lit (.bool true)], args := [d] }
  | _ => none }
def fnExactPlacesFaultRow : OpenClaim := { program := "ytdohgpdkfdbenaa", sum := "a49c4d7f004a3e84f551081081ec0a0cbe8e01ee14cbd0a2115b27e122622152", func := "loop.example/g00623/laws.FnExactPlacesFault", spec := "fnExactPlacesFault", apart := false }
def FnExactPlacesFaultSaid : Prop := fnExactPlacesFaultRow.holds Try.pinned (OpenSpec.ofChange fnExactPlacesFaultSpec)

/-- ITS FALSE NEIGHBOUR: 'it returns false'. Refute it at one input. -/
def fnExactPlacesFaultWrong : ChangeSpec := { name := "fnExactPlacesFault", fn := fun _ => fun
  | [d] => { results := [.lit (.bool false)], args := [d] }
  | _ => none }
def FnExactPlacesFaultWrongFalsely : Prop := fnExactPlacesFaultRow.holds Try.pinned (OpenSpec.ofChange fnExactPlacesFaultWrong)

/-- 'laws.FnExactPlacesOf': WHATEVER THE INPUT: true; the input reads as it did. -/
def fnExactPlacesOfSpec : ChangeSpec := { name := "fnExactPlacesOf", fn := fun _ => fun
  | [d1, d2] => { results := [.lit (.bool true)], args := [d1, d2] }
  | _ => none }
def fnExactPlacesOfRow : OpenClaim := { program := "ytdohgpdkfdbenaa", sum := "a49c4d7f004a3e84f551081081ec0a0cbe8e01ee14cbd0a2115b27e122622152", func := "loop.example/g00623/laws.FnExactPlacesOf", spec := "fnExactPlacesOf", unfollowed := true, recurses := true, apart := false }
def FnExactPlacesOfSaid : Prop := fnExactPlacesOfRow.holds Try.pinned (OpenSpec.ofChange fnExactPlacesOfSpec)

/-- ITS FALSE NEIGHBOUR: 'it returns false'. Refute it at one input. -/
def fnExactPlacesOfWrong : ChangeSpec := { name := "fnExactPlacesOf", fn := fun _ => fun
  | [d1, d2] => { results := [.lit (.bool false)], args := [d1, d2] }
  | _ => none }
def FnExactPlacesOfWrongFalsely : Prop := fnExactPlacesOfRow.holds Try.pinned (OpenSpec.ofChange fnExactPlacesOfWrong)

/-- 'laws.FnExactRowsIn': WHATEVER THE INPUT: true; the input reads as it did. -/
def fnExactRowsInSpec : ChangeSpec := { name := "fnExactRowsIn", fn := fun _ => fun
  | [d] => { results := [.lit (.bool true)], args := [d] }
  | _ => none }
def fnExactRowsInRow : OpenClaim := { program := "ytdohgpdkfdbenaa", sum := "a49c4d7f004a3e84f551081081ec0a0cbe8e01ee14cbd0a2115b27e122622152", func := "loop.example/g00623/laws.FnExactRowsIn", spec := "fnExactRowsIn", apart := false }
def FnExactRowsInSaid : Prop := fnExactRowsInRow.holds Try.pinned (OpenSpec.ofChange fnExactRowsInSpec)

/-- ITS FALSE NEIGHBOUR: 'it returns false'. Refute it at one input. -/
def fnExactRowsInWrong : ChangeSpec := { name := "fnExactRowsIn", fn := fun _ => fun
  | [d] => { results := [.lit (.bool false)], args := [d] }
  | _ => none }
def FnExactRowsInWrongFalsely : Prop := fnExactRowsInRow.holds Try.pinned (OpenSpec.ofChange fnExactRowsInWrong)

/-- 'laws.FnExactWritePlace': WHATEVER THE INPUT: true; the input reads as it did. -/
def fnExactWritePlaceSpec : ChangeSpec := { name := "fnExactWritePlace", fn := fun _ => fun
  | [d1, d2, d3] => { results := [.lit (.bool true)], args := [d1, d2, d3] }
  | _ => none }
def fnExactWritePlaceRow : OpenClaim := { program := "ytdohgpdkfdbenaa", sum := "a49c4d7f004a3e84f551081081ec0a0cbe8e01ee14cbd0a2115b27e122622152", func := "loop.example/g00623/laws.FnExactWritePlace", spec := "fnExactWritePlace", unfollowed := true, recurses := true, apart := false }
def FnExactWritePlaceSaid : Prop := fnExactWritePlaceRow.holds Try.pinned (OpenSpec.ofChange fnExactWritePlaceSpec)

/-- ITS FALSE NEIGHBOUR: 'it returns false'. Refute it at one input. -/
def fnExactWritePlaceWrong : ChangeSpec := { name := "fnExactWritePlace", fn := fun _ => fun
  | [d1, d2, d3] => { results := [.lit (.bool false)], args := [d1, d2, d3] }
  | _ => none }
def FnExactWritePlaceWrongFalsely : Prop := fnExactWritePlaceRow.holds Try.pinned (OpenSpec.ofChange fnExactWritePlaceWrong)

/-- 'laws.FnExactScanPlaces': WHATEVER THE INPUT: true; the input reads as it did. -/
def fnExactScanPlacesSpec : ChangeSpec := { name := "fnExactScanPlaces", fn := fun _ => fun
  | [d1, d2, d3] => { results := [.lit (.bool true)], args := [d1, d2, d3] }
  | _ => none }
def fnExactScanPlacesRow : OpenClaim := { program := "ytdohgpdkfdbenaa", sum := "a49c4d7f004a3e84f551081081ec0a0cbe8e01ee14cbd0a2115b27e122622152", func := "loop.example/g00623/laws.FnExactScanPlaces", spec := "fnExactScanPlaces", unfollowed := true, recurses := true, apart := false }
def FnExactScanPlacesSaid : Prop := fnExactScanPlacesRow.holds Try.pinned (OpenSpec.ofChange fnExactScanPlacesSpec)

/-- ITS FALSE NEIGHBOUR: 'it returns false'. Refute it at one input. -/
def fnExactScanPlacesWrong : ChangeSpec := { name := "fnExactScanPlaces", fn := fun _ => fun
  | [d1, d2, d3] => { results := [.lit (.bool false)], args := [d1, d2, d3] }
  | _ => none }
def FnExactScanPlacesWrongFalsely : Prop := fnExactScanPlacesRow.holds Try.pinned (OpenSpec.ofChange fnExactScanPlacesWrong)

/-- 'laws.FnExactSamePlaces': WHATEVER THE INPUT: true; the input reads as it did. -/
def fnExactSamePlacesSpec : ChangeSpec := { name := "fnExactSamePlaces", fn := fun _ => fun
  | [d1, d2] => { results := [.lit (.bool true)], args := [d1, d2] }
  | _ => none }
def fnExactSamePlacesRow : OpenClaim := { program := "ytdohgpdkfdbenaa", sum := "a49c4d7f004a3e84f551081081ec0a0cbe8e01ee14cbd0a2115b27e122622152", func := "loop.example/g00623/laws.FnExactSamePlaces", spec := "fnExactSamePlaces", unfollowed := true, recurses := true, apart := false }
def FnExactSamePlacesSaid : Prop := fnExactSamePlacesRow.holds Try.pinned (OpenSpec.ofChange fnExactSamePlacesSpec)

/-- ITS FALSE NEIGHBOUR: 'it returns false'. Refute it at one input. -/
def fnExactSamePlacesWrong : ChangeSpec := { name := "fnExactSamePlaces", fn := fun _ => fun
  | [d1, d2] => { results := [.lit (.bool false)], args := [d1, d2] }
  | _ => none }
def FnExactSamePlacesWrongFalsely : Prop := fnExactSamePlacesRow.holds Try.pinned (OpenSpec.ofChange fnExactSamePlacesWrong)

/- THE SECOND FORM. 'bulk': how many values and letters a reading holds, each counted each time it is reached (what is shared counts as often as it is met; a slice's spare places count too). A statement '..UptoSaid' is the law's where the arguments, and the package variables that the reading takes, are together of bulk at most 1048576: NARROWER than '..Said'. Prove '..Said' where nothing that the law and all that it calls make is longer than what came in: it says more and counts as full. Else prove '..UptoSaid'. A law counts once. -/
mutual
def uptoBulk {H : Type} : DataW H → Nat
  | .lit (.string bytes) => bytes.length + 1
  | .lit _ => 1
  | .nil => 1
  | .ptr d => uptoBulk d + 1
  | .slice elems spare => uptoBulkAll elems + uptoBulkAll spare + 1
  | .agg parts => uptoBulkAll parts + 1
  | .iface _ d => uptoBulk d + 1
  | .map entries => uptoBulkEntries entries + 1
  | .held _ => 1
def uptoBulkAll {H : Type} : List (DataW H) → Nat
  | [] => 0
  | d :: r => uptoBulk d + uptoBulkAll r
def uptoBulkEntries {H : Type} : List (Lit × DataW H) → Nat
  | [] => 0
  | x :: r => uptoBulkEntry x + uptoBulkEntries r
def uptoBulkEntry {H : Type} : Lit × DataW H → Nat
  | (.string bytes, d) => bytes.length + uptoBulk d + 1
  | (_, d) => uptoBulk d + 1
 end
def uptoSmall : (H : Type) → List (DataW H) → Bool := fun _ ds => decide (uptoBulkAll ds ≤ 1048576)
def OpenSpec.upto (s : _root_.Go.ChangeSpec) : _root_.Go.OpenSpec := { _root_.Go.OpenSpec.ofChange s with cond := some uptoSmall }

/-- 'laws.FnScans', WHERE WHAT IT READS IS OF BULK AT MOST 1048576: true; the input reads as it did. -/
def fnScansUptoRow : OpenClaim := { program := "ytdohgpdkfdbenaa", sum := "a49c4d7f004a3e84f551081081ec0a0cbe8e01ee14cbd0a2115b27e122622152", func := "loop.example/g00623/laws.FnScans", spec := "fnScans", unfollowed := true, recurses := true, apart := false, narrowed := true }
def FnScansUptoSaid : Prop := fnScansUptoRow.holds Try.pinned (OpenSpec.upto fnScansSpec)

/-- 'laws.FnExactPlacesFault', WHERE WHAT IT READS IS OF BULK AT MOST 1048576: true; the input reads as it did. -/
def fnExactPlacesFaultUptoRow : OpenClaim := { program := "ytdohgpdkfdbenaa", sum := "a49c4d7f004a3e84f551081081ec0a0cbe8e01ee14cbd0a2115b27e122622152", func := "loop.example/g00623/laws.FnExactPlacesFault", spec := "fnExactPlacesFault", apart := false, narrowed := true }
def FnExactPlacesFaultUptoSaid : Prop := fnExactPlacesFaultUptoRow.holds Try.pinned (OpenSpec.upto fnExactPlacesFaultSpec)

/-- 'laws.FnExactPlacesOf', WHERE WHAT IT READS IS OF BULK AT MOST 1048576: true; the input reads as it did. -/
def fnExactPlacesOfUptoRow : OpenClaim := { program := "ytdohgpdkfdbenaa", sum := "a49c4d7f004a3e84f551081081ec0a0cbe8e01ee14cbd0a2115b27e122622152", func := "loop.example/g00623/laws.FnExactPlacesOf", spec := "fnExactPlacesOf", unfollowed := true, recurses := true, apart := false, narrowed := true }
def FnExactPlacesOfUptoSaid : Prop := fnExactPlacesOfUptoRow.holds Try.pinned (OpenSpec.upto fnExactPlacesOfSpec)

/-- 'laws.FnExactRowsIn', WHERE WHAT IT READS IS OF BULK AT MOST 1048576: true; the input reads as it did. -/
def fnExactRowsInUptoRow : OpenClaim := { program := "ytdohgpdkfdbenaa", sum := "a49c4d7f004a3e84f551081081ec0a0cbe8e01ee14cbd0a2115b27e122622152", func := "loop.example/g00623/laws.FnExactRowsIn", spec := "fnExactRowsIn", apart := false, narrowed := true }
def FnExactRowsInUptoSaid : Prop := fnExactRowsInUptoRow.holds Try.pinned (OpenSpec.upto fnExactRowsInSpec)

/-- 'laws.FnExactWritePlace', WHERE WHAT IT READS IS OF BULK AT MOST 1048576: true; the input reads as it did. -/
def fnExactWritePlaceUptoRow : OpenClaim := { program := "ytdohgpdkfdbenaa", sum := "a49c4d7f004a3e84f551081081ec0a0cbe8e01ee14cbd0a2115b27e122622152", func := "loop.example/g00623/laws.FnExactWritePlace", spec := "fnExactWritePlace", unfollowed := true, recurses := true, apart := false, narrowed := true }
def FnExactWritePlaceUptoSaid : Prop := fnExactWritePlaceUptoRow.holds Try.pinned (OpenSpec.upto fnExactWritePlaceSpec)

/-- 'laws.FnExactScanPlaces', WHERE WHAT IT READS IS OF BULK AT MOST 1048576: true; the input reads as it did. -/
def fnExactScanPlacesUptoRow : OpenClaim := { program := "ytdohgpdkfdbenaa", sum := "a49c4d7f004a3e84f551081081ec0a0cbe8e01ee14cbd0a2115b27e122622152", func := "loop.example/g00623/laws.FnExactScanPlaces", spec := "fnExactScanPlaces", unfollowed := true, recurses := true, apart := false, narrowed := true }
def FnExactScanPlacesUptoSaid : Prop := fnExactScanPlacesUptoRow.holds Try.pinned (OpenSpec.upto fnExactScanPlacesSpec)

/-- 'laws.FnExactSamePlaces', WHERE WHAT IT READS IS OF BULK AT MOST 1048576: true; the input reads as it did. -/
def fnExactSamePlacesUptoRow : OpenClaim := { program := "ytdohgpdkfdbenaa", sum := "a49c4d7f004a3e84f551081081ec0a0cbe8e01ee14cbd0a2115b27e122622152", func := "loop.example/g00623/laws.FnExactSamePlaces", spec := "fnExactSamePlaces", unfollowed := true, recurses := true, apart := false, narrowed := true }
def FnExactSamePlacesUptoSaid : Prop := fnExactSamePlacesUptoRow.holds Try.pinned (OpenSpec.upto fnExactSamePlacesSpec)

end Rows
end Go.Proofs.Ytdohgpdkfdbenaa
