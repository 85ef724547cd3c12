/-
  No cell of these rows narrows 'for every input' (looked for: loops, veiled, ifaces, maps, wideKeys, modest, calm, conditions, laid).
  DERIVED. THE GIVEN ROWS OF THIS SEAT. 11 by the template 'for every input the law returns true; each argument reads behind the call as it read before'; 0 by the template 'total and deterministic' (their statements: YtfohlopbfanaeaaTotals.lean).
  GIVEN WITH THE SEED: the statements are not yours to turn. If you find one false, say at which input.
  Laid BY PROGRAM, IN A SANDBOX (cutbox-rows.mjs): the forced cells as the released guide's own fill.sh prints them over the translation f67f3fc2c634d560… (all of the seat's roots in one cut). By AI agents, Wed Nov 11 2026. No macro, syntax, notation, axiom, sorry.
-/
import Derived.Test.YtfohlopbfanaeaaChecked
import GoSem.Claim
import GoSem.ClaimJoined
import GoSem.ClaimMapViews
import Derived.JoinedTies
import Derived.KernelRfl
namespace Go.Proofs.Ytfohlopbfanaeaa
/- THE CELL 'sum', in the pinned program and in every row, IS THE sha256 OF THE DUMP (.gsa) THAT YtfohlopbfanaeaaProg.lean LOADS. Nothing in Lean hashes anything: it is a label: what it is worth is what the hold of that sum in a sandbox is worth. -/
noncomputable def Try.pinned : Pinned := { name := "ytfohlopbfanaeaa", sum := "f67f3fc2c634d560f2a90c837adaca50addfe20a0c5e737c0098005fe02c9a47", checked := Try.checked }
namespace Rows
def none {H : Type} : Left H := { results := [], args := [] }

/-- 'laws.FnExactBookFault': WHATEVER THE INPUT: true; the input reads as it did. -/
def fnExactBookFaultSpec : ChangeSpec := { name := "fnExactBookFault", fn := fun _ => fun
  | [d] => { results := [.lit (.bool true)], args := [d] }
  | _ => none }
def fnExactBookFaultRow : OpenClaim := { program := "ytfohlopbfanaeaa", sum := "f67f3fc2c634d560f2a90c837adaca50addfe20a0c5e737c0098005fe02c9a47", func := "loop.example/g00623/laws.FnExactBookFault", spec := "fnExactBookFault", unfollowed := true, recurses := true, apart := false }
def FnExactBookFaultSaid : Prop := fnExactBookFaultRow.holds Try.pinned (OpenSpec.ofChange fnExactBookFaultSpec)

/-- ITS FALSE NEIGHBOUR: 'it returns false'. Refute it at one input. -/
def fnExactBookFaultWrong : ChangeSpec := { name := "fnExactBookFault", fn := fun _ => fun
  | [d] => { results := [.lit (.bool false)], args := [d] }
  | _ => none }
def FnExactBookFaultWrongFalsely : Prop := fnExactBookFaultRow.holds Try.pinned (OpenSpec.ofChange fnExactBookFaultWrong)

/-- 'laws.FnExactFreeOf': WHATEVER THE INPUT: true; the input reads as it did. -/
def fnExactFreeOfSpec : ChangeSpec := { name := "fnExactFreeOf", fn := fun _ => fun
  | [d1, d2, d3] => { results := [.lit (.bool true)], args := [d1, d2, d3] }
  | _ => none }
def fnExactFreeOfRow : OpenClaim := { program := "ytfohlopbfanaeaa", sum := "f67f3fc2c634d560f2a90c837adaca50addfe20a0c5e737c0098005fe02c9a47", func := "loop.example/g00623/laws.FnExactFreeOf", spec := "fnExactFreeOf", unfollowed := true, recurses := true, apart := false }
def FnExactFreeOfSaid : Prop := fnExactFreeOfRow.holds Try.pinned (OpenSpec.ofChange fnExactFreeOfSpec)

/-- ITS FALSE NEIGHBOUR: 'it returns false'. Refute it at one input. -/
def fnExactFreeOfWrong : ChangeSpec := { name := "fnExactFreeOf", fn := fun _ => fun
  | [d1, d2, d3] => { results := [.lit (.bool false)], args := [d1, d2, d3] }
  | _ => none }
def FnExactFreeOfWrongFalsely : Prop := fnExactFreeOfRow.holds Try.pinned (OpenSpec.ofChange fnExactFreeOfWrong)

/-- 'laws.FnExactHeldOf': WHATEVER THE INPUT: true; the input reads as it did. -/
def fnExactHeldOfSpec : ChangeSpec := { name := "fnExactHeldOf", fn := fun _ => fun
  | [d1, d2, d3] => { results := [.lit (.bool true)], args := [d1, d2, d3] }
  | _ => none }
def fnExactHeldOfRow : OpenClaim := { program := "ytfohlopbfanaeaa", sum := "f67f3fc2c634d560f2a90c837adaca50addfe20a0c5e737c0098005fe02c9a47", func := "loop.example/g00623/laws.FnExactHeldOf", spec := "fnExactHeldOf", unfollowed := true, recurses := true, apart := false }
def FnExactHeldOfSaid : Prop := fnExactHeldOfRow.holds Try.pinned (OpenSpec.ofChange fnExactHeldOfSpec)

/-- ITS FALSE NEIGHBOUR: 'it returns false'. Refute it at one input. -/
def fnExactHeldOfWrong : ChangeSpec := { name := "fnExactHeldOf", fn := fun _ => fun
  | [d1, d2, d3] => { results := [.lit (.bool false)], args := [d1, d2, d3] }
  | _ => none }
def FnExactHeldOfWrongFalsely : Prop := fnExactHeldOfRow.holds Try.pinned (OpenSpec.ofChange fnExactHeldOfWrong)

/-- 'laws.FnExactSameBooks': WHATEVER THE INPUT: true; the input reads as it did. -/
def fnExactSameBooksSpec : ChangeSpec := { name := "fnExactSameBooks", fn := fun _ => fun
  | [d1, d2] => { results := [.lit (.bool true)], args := [d1, d2] }
  | _ => none }
def fnExactSameBooksRow : OpenClaim := { program := "ytfohlopbfanaeaa", sum := "f67f3fc2c634d560f2a90c837adaca50addfe20a0c5e737c0098005fe02c9a47", func := "loop.example/g00623/laws.FnExactSameBooks", spec := "fnExactSameBooks", apart := false }
def FnExactSameBooksSaid : Prop := fnExactSameBooksRow.holds Try.pinned (OpenSpec.ofChange fnExactSameBooksSpec)

/-- ITS FALSE NEIGHBOUR: 'it returns false'. Refute it at one input. -/
def fnExactSameBooksWrong : ChangeSpec := { name := "fnExactSameBooks", fn := fun _ => fun
  | [d1, d2] => { results := [.lit (.bool false)], args := [d1, d2] }
  | _ => none }
def FnExactSameBooksWrongFalsely : Prop := fnExactSameBooksRow.holds Try.pinned (OpenSpec.ofChange fnExactSameBooksWrong)

/-- 'laws.FnExactTotalOf': WHATEVER THE INPUT: true; the input reads as it did. -/
def fnExactTotalOfSpec : ChangeSpec := { name := "fnExactTotalOf", fn := fun _ => fun
  | [d1, d2] => { results := [.lit (.bool true)], args := [d1, d2] }
  | _ => none }
def fnExactTotalOfRow : OpenClaim := { program := "ytfohlopbfanaeaa", sum := "f67f3fc2c634d560f2a90c837adaca50addfe20a0c5e737c0098005fe02c9a47", func := "loop.example/g00623/laws.FnExactTotalOf", spec := "fnExactTotalOf", unfollowed := true, recurses := true, apart := false }
def FnExactTotalOfSaid : Prop := fnExactTotalOfRow.holds Try.pinned (OpenSpec.ofChange fnExactTotalOfSpec)

/-- ITS FALSE NEIGHBOUR: 'it returns false'. Refute it at one input. -/
def fnExactTotalOfWrong : ChangeSpec := { name := "fnExactTotalOf", fn := fun _ => fun
  | [d1, d2] => { results := [.lit (.bool false)], args := [d1, d2] }
  | _ => none }
def FnExactTotalOfWrongFalsely : Prop := fnExactTotalOfRow.holds Try.pinned (OpenSpec.ofChange fnExactTotalOfWrong)

/-- 'laws.FnExactSeenFault': WHATEVER THE INPUT: true; the input reads as it did. -/
def fnExactSeenFaultSpec : ChangeSpec := { name := "fnExactSeenFault", fn := fun _ => fun
  | [d] => { results := [.lit (.bool true)], args := [d] }
  | _ => none }
def fnExactSeenFaultRow : OpenClaim := { program := "ytfohlopbfanaeaa", sum := "f67f3fc2c634d560f2a90c837adaca50addfe20a0c5e737c0098005fe02c9a47", func := "loop.example/g00623/laws.FnExactSeenFault", spec := "fnExactSeenFault", apart := false }
def FnExactSeenFaultSaid : Prop := fnExactSeenFaultRow.holds Try.pinned (OpenSpec.ofChange fnExactSeenFaultSpec)

/-- ITS FALSE NEIGHBOUR: 'it returns false'. Refute it at one input. -/
def fnExactSeenFaultWrong : ChangeSpec := { name := "fnExactSeenFault", fn := fun _ => fun
  | [d] => { results := [.lit (.bool false)], args := [d] }
  | _ => none }
def FnExactSeenFaultWrongFalsely : Prop := fnExactSeenFaultRow.holds Try.pinned (OpenSpec.ofChange fnExactSeenFaultWrong)

/-- 'laws.FnExactLedgerFault': WHATEVER THE INPUT: true; the input reads as it did. -/
def fnExactLedgerFaultSpec : ChangeSpec := { name := "fnExactLedgerFault", fn := fun _ => fun
  | [d] => { results := [.lit (.bool true)], args := [d] }
  | _ => none }
def fnExactLedgerFaultRow : OpenClaim := { program := "ytfohlopbfanaeaa", sum := "f67f3fc2c634d560f2a90c837adaca50addfe20a0c5e737c0098005fe02c9a47", func := "loop.example/g00623/laws.FnExactLedgerFault", spec := "fnExactLedgerFault", unfollowed := true, recurses := true, apart := false }
def FnExactLedgerFaultSaid : Prop := fnExactLedgerFaultRow.holds Try.pinned (OpenSpec.ofChange fnExactLedgerFaultSpec)

/-- ITS FALSE NEIGHBOUR: 'it returns false'. Refute it at one input. -/
def fnExactLedgerFaultWrong : ChangeSpec := { name := "fnExactLedgerFault", fn := fun _ => fun
  | [d] => { results := [.lit (.bool false)], args := [d] }
  | _ => none }
def FnExactLedgerFaultWrongFalsely : Prop := fnExactLedgerFaultRow.holds Try.pinned (OpenSpec.ofChange fnExactLedgerFaultWrong)

/-- 'laws.FnExactNoteSeen': WHATEVER THE INPUT: true; the input reads as it did. -/
def fnExactNoteSeenSpec : ChangeSpec := { name := "fnExactNoteSeen", fn := fun _ => fun
  | [d1, d2] => { results := [.lit (.bool true)], args := [d1, d2] }
  | _ => none }
def fnExactNoteSeenRow : OpenClaim := { program := "ytfohlopbfanaeaa", sum := "f67f3fc2c634d560f2a90c837adaca50addfe20a0c5e737c0098005fe02c9a47", func := "loop.example/g00623/laws.FnExactNoteSeen", spec := "fnExactNoteSeen", apart := false }
def FnExactNoteSeenSaid : Prop := fnExactNoteSeenRow.holds Try.pinned (OpenSpec.ofChange fnExactNoteSeenSpec)

/-- ITS FALSE NEIGHBOUR: 'it returns false'. Refute it at one input. -/
def fnExactNoteSeenWrong : ChangeSpec := { name := "fnExactNoteSeen", fn := fun _ => fun
  | [d1, d2] => { results := [.lit (.bool false)], args := [d1, d2] }
  | _ => none }
def FnExactNoteSeenWrongFalsely : Prop := fnExactNoteSeenRow.holds Try.pinned (OpenSpec.ofChange fnExactNoteSeenWrong)

/-- 'laws.FnExactFindSeen': WHATEVER THE INPUT: true; the input reads as it did. -/
def fnExactFindSeenSpec : ChangeSpec := { name := "fnExactFindSeen", fn := fun _ => fun
  | [d1, d2] => { results := [.lit (.bool true)], args := [d1, d2] }
  | _ => none }
def fnExactFindSeenRow : OpenClaim := { program := "ytfohlopbfanaeaa", sum := "f67f3fc2c634d560f2a90c837adaca50addfe20a0c5e737c0098005fe02c9a47", func := "loop.example/g00623/laws.FnExactFindSeen", spec := "fnExactFindSeen", apart := false }
def FnExactFindSeenSaid : Prop := fnExactFindSeenRow.holds Try.pinned (OpenSpec.ofChange fnExactFindSeenSpec)

/-- ITS FALSE NEIGHBOUR: 'it returns false'. Refute it at one input. -/
def fnExactFindSeenWrong : ChangeSpec := { name := "fnExactFindSeen", fn := fun _ => fun
  | [d1, d2] => { results := [.lit (.bool false)], args := [d1, d2] }
  | _ => none }
def FnExactFindSeenWrongFalsely : Prop := fnExactFindSeenRow.holds Try.pinned (OpenSpec.ofChange fnExactFindSeenWrong)

/-- 'laws.FnExactSameLedgers': WHATEVER THE INPUT: true; the input reads as it did. -/
def fnExactSameLedgersSpec : ChangeSpec := { name := "fnExactSameLedgers", fn := fun _ => fun
  | [d1, d2] => { results := [.lit (.bool true)], args := [d1, d2] }
  | _ => none }
def fnExactSameLedgersRow : OpenClaim := { program := "ytfohlopbfanaeaa", sum := "f67f3fc2c634d560f2a90c837adaca50addfe20a0c5e737c0098005fe02c9a47", func := "loop.example/g00623/laws.FnExactSameLedgers", spec := "fnExactSameLedgers", apart := false }
def FnExactSameLedgersSaid : Prop := fnExactSameLedgersRow.holds Try.pinned (OpenSpec.ofChange fnExactSameLedgersSpec)

/-- ITS FALSE NEIGHBOUR: 'it returns false'. Refute it at one input. -/
def fnExactSameLedgersWrong : ChangeSpec := { name := "fnExactSameLedgers", fn := fun _ => fun
  | [d1, d2] => { results := [.lit (.bool false)], args := [d1, d2] }
  | _ => none }
def FnExactSameLedgersWrongFalsely : Prop := fnExactSameLedgersRow.holds Try.pinned (OpenSpec.ofChange fnExactSameLedgersWrong)

/-- 'laws.FnSeen': WHATEVER THE INPUT: true; the input reads as it did. -/
def fnSeenSpec : ChangeSpec := { name := "fnSeen", fn := fun _ => fun
  | [d] => { results := [.lit (.bool true)], args := [d] }
  | _ => none }
def fnSeenRow : OpenClaim := { program := "ytfohlopbfanaeaa", sum := "f67f3fc2c634d560f2a90c837adaca50addfe20a0c5e737c0098005fe02c9a47", func := "loop.example/g00623/laws.FnSeen", spec := "fnSeen", apart := false }
def FnSeenSaid : Prop := fnSeenRow.holds Try.pinned (OpenSpec.ofChange fnSeenSpec)

/-- ITS FALSE NEIGHBOUR: 'it returns false'. Refute it at one input. -/
def fnSeenWrong : ChangeSpec := { name := "fnSeen", fn := fun _ => fun
  | [d] => { results := [.lit (.bool false)], args := [d] }
  | _ => none }
def FnSeenWrongFalsely : Prop := fnSeenRow.holds Try.pinned (OpenSpec.ofChange fnSeenWrong)

/- THE SECOND FORM. 'bulk': how many values and letters a reading holds, each counted each time it is reached (what is shared counts as often as it is met; a slice's spare places count too). A statement '..UptoSaid' is the law's where the arguments, and the package variables that the reading takes, are together of bulk at most 1048576: NARROWER than '..Said'. Prove '..Said' where nothing that the law and all that it calls make is longer than what came in: it says more and counts as full. Else prove '..UptoSaid'. A law counts once. -/
mutual
def uptoBulk {H : Type} : DataW H → Nat
  | .lit (.string bytes) => bytes.length + 1
  | .lit _ => 1
  | .nil => 1
  | .ptr d => uptoBulk d + 1
  | .slice elems spare => uptoBulkAll elems + uptoBulkAll spare + 1
  | .agg parts => uptoBulkAll parts + 1
  | .iface _ d => uptoBulk d + 1
  | .map entries => uptoBulkEntries entries + 1
  | .held _ => 1
def uptoBulkAll {H : Type} : List (DataW H) → Nat
  | [] => 0
  | d :: r => uptoBulk d + uptoBulkAll r
def uptoBulkEntries {H : Type} : List (Lit × DataW H) → Nat
  | [] => 0
  | x :: r => uptoBulkEntry x + uptoBulkEntries r
def uptoBulkEntry {H : Type} : Lit × DataW H → Nat
  | (.string bytes, d) => bytes.length + uptoBulk d + 1
  | (_, d) => uptoBulk d + 1
 end
def uptoSmall : (H : Type) → List (DataW H) → Bool := fun _ ds => decide (uptoBulkAll ds ≤ 1048576)
def OpenSpec.upto (s : _root_.Go.ChangeSpec) : _root_.Go.OpenSpec := { _root_.Go.OpenSpec.ofChange s with cond := some uptoSmall }

/-- 'laws.FnExactBookFault', WHERE WHAT IT READS IS OF BULK AT MOST 1048576: true; the input reads as it did. -/
def fnExactBookFaultUptoRow : OpenClaim := { program := "ytfohlopbfanaeaa", sum := "f67f3fc2c634d560f2a90c837adaca50addfe20a0c5e737c0098005fe02c9a47", func := "loop.example/g00623/laws.FnExactBookFault", spec := "fnExactBookFault", unfollowed := true, recurses := true, apart := false, narrowed := true }
def FnExactBookFaultUptoSaid : Prop := fnExactBookFaultUptoRow.holds Try.pinned (OpenSpec.upto fnExactBookFaultSpec)

/-- 'laws.FnExactFreeOf', WHERE WHAT IT READS IS OF BULK AT MOST 1048576: true; the input reads as it did. -/
def fnExactFreeOfUptoRow : OpenClaim := { program := "ytfohlopbfanaeaa", sum := "f67f3fc2c634d560f2a90c837adaca50addfe20a0c5e737c0098005fe02c9a47", func := "loop.example/g00623/laws.FnExactFreeOf", spec := "fnExactFreeOf", unfollowed := true, recurses := true, apart := false, narrowed := true }
def FnExactFreeOfUptoSaid : Prop := fnExactFreeOfUptoRow.holds Try.pinned (OpenSpec.upto fnExactFreeOfSpec)

/-- 'laws.FnExactHeldOf', WHERE WHAT IT READS IS OF BULK AT MOST 1048576: true; the input reads as it did. -/
def fnExactHeldOfUptoRow : OpenClaim := { program := "ytfohlopbfanaeaa", sum := "f67f3fc2c634d560f2a90c837adaca50addfe20a0c5e737c0098005fe02c9a47", func := "loop.example/g00623/laws.FnExactHeldOf", spec := "fnExactHeldOf", unfollowed := true, recurses := true, apart := false, narrowed := true }
def FnExactHeldOfUptoSaid : Prop := fnExactHeldOfUptoRow.holds Try.pinned (OpenSpec.upto fnExactHeldOfSpec)

/-- 'laws.FnExactSameBooks', WHERE WHAT IT READS IS OF BULK AT MOST 1048576: true; the input reads as it did. -/
def fnExactSameBooksUptoRow : OpenClaim := { program := "ytfohlopbfanaeaa", sum := "f67f3fc2c634d560f2a90c837adaca50addfe20a0c5e737c0098005fe02c9a47", func := "loop.example/g00623/laws.FnExactSameBooks", spec := "fnExactSameBooks", apart := false, narrowed := true }
def FnExactSameBooksUptoSaid : Prop := fnExactSameBooksUptoRow.holds Try.pinned (OpenSpec.upto fnExactSameBooksSpec)

/-- 'laws.FnExactTotalOf', WHERE WHAT IT READS IS OF BULK AT MOST 1048576: true; the input reads as it did. -/
def fnExactTotalOfUptoRow : OpenClaim := { program := "ytfohlopbfanaeaa", sum := "f67f3fc2c634d560f2a90c837adaca50addfe20a0c5e737c0098005fe02c9a47", func := "loop.example/g00623/laws.FnExactTotalOf", spec := "fnExactTotalOf", unfollowed := true, recurses := true, apart := false, narrowed := true }
def FnExactTotalOfUptoSaid : Prop := fnExactTotalOfUptoRow.holds Try.pinned (OpenSpec.upto fnExactTotalOfSpec)

/-- 'laws.FnExactSeenFault', WHERE WHAT IT READS IS OF BULK AT MOST 1048576: true; the input reads as it did. -/
def fnExactSeenFaultUptoRow : OpenClaim := { program := "ytfohlopbfanaeaa", sum := "f67f3fc2c634d560f2a90c837adaca50addfe20a0c5e737c0098005fe02c9a47", func := "loop.example/g00623/laws.FnExactSeenFault", spec := "fnExactSeenFault", apart := false, narrowed := true }
def FnExactSeenFaultUptoSaid : Prop := fnExactSeenFaultUptoRow.holds Try.pinned (OpenSpec.upto fnExactSeenFaultSpec)

/-- 'laws.FnExactLedgerFault', WHERE WHAT IT READS IS OF BULK AT MOST 1048576: true; the input reads as it did. -/
def fnExactLedgerFaultUptoRow : OpenClaim := { program := "ytfohlopbfanaeaa", sum := "f67f3fc2c634d560f2a90c837adaca50addfe20a0c5e737c0098005fe02c9a47", func := "loop.example/g00623/laws.FnExactLedgerFault", spec := "fnExactLedgerFault", unfollowed := true, recurses := true, apart := false, narrowed := true }
def FnExactLedgerFaultUptoSaid : Prop := fnExactLedgerFaultUptoRow.holds Try.pinned (OpenSpec.upto fnExactLedgerFaultSpec)

/-- 'laws.FnExactNoteSeen', WHERE WHAT IT READS IS OF BULK AT MOST 1048576: true; the input reads as it did. -/
def fnExactNoteSeenUptoRow : OpenClaim := { program := "ytfohlopbfanaeaa", sum := "f67f3fc2c634d560f2a90c837adaca50addfe20a0c5e737c0098005fe02c9a47", func := "loop.example/g00623/laws.FnExactNoteSeen", spec := "fnExactNoteSeen", apart := false, narrowed := true }
def FnExactNoteSeenUptoSaid : Prop := fnExactNoteSeenUptoRow.holds Try.pinned (OpenSpec.upto fnExactNoteSeenSpec)

/-- 'laws.FnExactFindSeen', WHERE WHAT IT READS IS OF BULK AT MOST 1048576: true; the input reads as it did. -/
def fnExactFindSeenUptoRow : OpenClaim := { program := "ytfohlopbfanaeaa", sum := "f67f3fc2c634d560f2a90c837adaca50addfe20a0c5e737c0098005fe02c9a47", func := "loop.example/g00623/laws.FnExactFindSeen", spec := "fnExactFindSeen", apart := false, narrowed := true }
def FnExactFindSeenUptoSaid : Prop := fnExactFindSeenUptoRow.holds Try.pinned (OpenSpec.upto fnExactFindSeenSpec)

/-- 'laws.FnExactSameLedgers', WHERE WHAT IT READS IS OF BULK AT MOST 1048576: true; the input reads as it did. -/
def fnExactSameLedgersUptoRow : OpenClaim := { program := "ytfohlopbfanaeaa", sum := "f67f3fc2c634d560f2a90c837adaca50addfe20a0c5e737c0098005fe02c9a47", func := "loop.example/g00623/laws.FnExactSameLedgers", spec := "fnExactSameLedgers", apart := false, narrowed := true }
def FnExactSameLedgersUptoSaid : Prop := fnExactSameLedgersUptoRow.holds Try.pinned (OpenSpec.upto fnExactSameLedgersSpec)

/-- 'laws.FnSeen', WHERE WHAT IT READS IS OF BULK AT MOST 1048576: true; the input reads as it did. -/
def fnSeenUptoRow : OpenClaim := { program := "ytfohlopbfanaeaa", sum := "f67f3fc2c634d560f2a90c837adaca50addfe20a0c5e737c0098005fe02c9a47", func := "loop.example/g00623/laws.FnSeen", spec := "fnSeen", apart := false, narrowed := true }
def FnSeenUptoSaid : Prop := fnSeenUptoRow.holds Try.pinned (OpenSpec.upto fnSeenSpec)

end Rows
end Go.Proofs.Ytfohlopbfanaeaa
