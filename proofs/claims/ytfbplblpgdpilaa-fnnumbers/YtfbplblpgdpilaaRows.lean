/-
  No cell of these rows narrows 'for every input' (looked for: loops, veiled, ifaces, maps, wideKeys, modest, calm, conditions, laid).
  DERIVED. THE GIVEN ROWS OF THIS SEAT. 6 by the template 'for every input the law returns true; each argument reads behind the call as it read before'; 0 by the template 'total and deterministic' (their statements: YtfbplblpgdpilaaTotals.lean).
  GIVEN WITH THE SEED: the statements are not yours to turn. If you find one false, say at which input.
  Laid BY PROGRAM, IN A SANDBOX (cutbox-rows.mjs): the forced cells as the released guide's own fill.sh prints them over the translation f40bcb85eeeffecf… (all of the seat's roots in one cut). By AI agents, Wed Nov 11 2026. No macro, syntax, notation, axiom, sorry.
-/
import Derived.Test.YtfbplblpgdpilaaChecked
import GoSem.Claim
import GoSem.ClaimJoined
import GoSem.ClaimMapViews
import Derived.JoinedTies
import Derived.KernelRfl
namespace Go.Proofs.Ytfbplblpgdpilaa
/- THE CELL 'sum', in the pinned program and in every row, IS THE sha256 OF THE DUMP (.gsa) THAT YtfbplblpgdpilaaProg.lean LOADS. Nothing in Lean hashes anything: it is a label: what it is worth is what the hold of that sum in a sandbox is worth. -/
noncomputable def Try.pinned : Pinned := { name := "ytfbplblpgdpilaa", sum := "f40bcb85eeeffecfe45378fd34b6f5fdb519d1effaa322710db8ae68c66a2e27", checked := Try.checked }
namespace Rows
def none {H : Type} : Left H := { results := [], args := [] }

/-- 'laws.FnNumbers': WHATEVER THE INPUT: true; the input reads as it did. -/
def fnNumbersSpec : ChangeSpec := { name := "fnNumbers", fn := fun _ => fun
  | [d] => { results := [.lit (.bool true)], args := [d] }
  | _ => none }
def fnNumbersRow : OpenClaim := { program := "ytfbplblpgdpilaa", sum := "f40bcb85eeeffecfe45378fd34b6f5fdb519d1effaa322710db8ae68c66a2e27", func := "loop.example/g00623/laws.FnNumbers", spec := "fnNumbers", apart := false }
def FnNumbersSaid : Prop := fnNumbersRow.holds Try.pinned (OpenSpec.ofChange fnNumbersSpec)

/-- ITS FALSE NEIGHBOUR: 'it returns false'. Refute it at one input. -/
def fnNumbersWrong : ChangeSpec := { name := "fnNumbers", fn := fun _ => fun
  | [d] => { results := [.lit (.bool false)], args := [d] }
  | _ => none }
def FnNumbersWrongFalsely : Prop := fnNumbersRow.holds Try.pinned (OpenSpec.ofChange fnNumbersWrong)

/-- 'laws.FnExactPutNumber': WHATEVER THE INPUT: true; the input reads as it did. -/
def fnExactPutNumberSpec : ChangeSpec := { name := "fnExactPutNumber", fn := fun _ => fun
  | [d] => { results := [.lit (.bool true)], args := [d] }
  | _ => none }
def fnExactPutNumberRow : OpenClaim := { program := "ytfbplblpgdpilaa", sum := "f40bcb85eeeffecfe45378fd34b6f5fdb519d1effaa322710db8ae68c66a2e27", func := "loop.example/g00623/laws.FnExactPutNumber", spec := "fnExactPutNumber", apart := false }
def FnExactPutNumberSaid : Prop := fnExactPutNumberRow.holds Try.pinned (OpenSpec.ofChange fnExactPutNumberSpec)

/-- ITS FALSE NEIGHBOUR: 'it returns false'. Refute it at one input. -/
def fnExactPutNumberWrong : ChangeSpec := { name := "fnExactPutNumber", fn := fun _ => fun
  | [d] => { results := [.lit (.bool false)], args := [d] }
  | _ => none }
def FnExactPutNumberWrongFalsely : Prop := fnExactPutNumberRow.holds Try.pinned (OpenSpec.ofChange fnExactPutNumberWrong)

/-- 'laws.FnExactGetNumber': WHATEVER THE INPUT: true; the input reads as it did. -/
def fnExactGetNumberSpec : ChangeSpec := { name := "fnExactGetNumber", fn := fun _ => fun
  | [d1, d2] => { results := [.lit (.bool true)], args := [d1, d2] }
  | _ => none }
def fnExactGetNumberRow : OpenClaim := { program := "ytfbplblpgdpilaa", sum := "f40bcb85eeeffecfe45378fd34b6f5fdb519d1effaa322710db8ae68c66a2e27", func := "loop.example/g00623/laws.FnExactGetNumber", spec := "fnExactGetNumber", apart := false }
def FnExactGetNumberSaid : Prop := fnExactGetNumberRow.holds Try.pinned (OpenSpec.ofChange fnExactGetNumberSpec)

/-- ITS FALSE NEIGHBOUR: 'it returns false'. Refute it at one input. -/
def fnExactGetNumberWrong : ChangeSpec := { name := "fnExactGetNumber", fn := fun _ => fun
  | [d1, d2] => { results := [.lit (.bool false)], args := [d1, d2] }
  | _ => none }
def FnExactGetNumberWrongFalsely : Prop := fnExactGetNumberRow.holds Try.pinned (OpenSpec.ofChange fnExactGetNumberWrong)

/-- 'laws.FnExactPackNumbers': WHATEVER THE INPUT: true; the input reads as it did. -/
def fnExactPackNumbersSpec : ChangeSpec := { name := "fnExactPackNumbers", fn := fun _ => fun
  | [d] => { results := [.lit (.bool true)], args := [d] }
  | _ => none }
def fnExactPackNumbersRow : OpenClaim := { program := "ytfbplblpgdpilaa", sum := "f40bcb85eeeffecfe45378fd34b6f5fdb519d1effaa322710db8ae68c66a2e27", func := "loop.example/g00623/laws.FnExactPackNumbers", spec := "fnExactPackNumbers", apart := false }
def FnExactPackNumbersSaid : Prop := fnExactPackNumbersRow.holds Try.pinned (OpenSpec.ofChange fnExactPackNumbersSpec)

/-- ITS FALSE NEIGHBOUR: 'it returns false'. Refute it at one input. -/
def fnExactPackNumbersWrong : ChangeSpec := { name := "fnExactPackNumbers", fn := fun _ => fun
  | [d] => { results := [.lit (.bool false)], args := [d] }
  | _ => none }
def FnExactPackNumbersWrongFalsely : Prop := fnExactPackNumbersRow.holds Try.pinned (OpenSpec.ofChange fnExactPackNumbersWrong)

/-- 'laws.FnExactReadNumbers': WHATEVER THE INPUT: true; the input reads as it did. -/
def fnExactReadNumbersSpec : ChangeSpec := { name := "fnExactReadNumbers", fn := fun _ => fun
  | [d] => { results := [.lit (.bool true)], args := [d] }
  | _ => none }
def fnExactReadNumbersRow : OpenClaim := { program := "ytfbplblpgdpilaa", sum := "f40bcb85eeeffecfe45378fd34b6f5fdb519d1effaa322710db8ae68c66a2e27", func := "loop.example/g00623/laws.FnExactReadNumbers", spec := "fnExactReadNumbers", apart := false }
def FnExactReadNumbersSaid : Prop := fnExactReadNumbersRow.holds Try.pinned (OpenSpec.ofChange fnExactReadNumbersSpec)

/-- ITS FALSE NEIGHBOUR: 'it returns false'. Refute it at one input. -/
def fnExactReadNumbersWrong : ChangeSpec := { name := "fnExactReadNumbers", fn := fun _ => fun
  | [d] => { results := [.lit (.bool false)], args := [d] }
  | _ => none }
def FnExactReadNumbersWrongFalsely : Prop := fnExactReadNumbersRow.holds Try.pinned (OpenSpec.ofChange fnExactReadNumbersWrong)

/-- 'laws.FnExactAddQty': WHATEVER THE INPUT: true; the input reads as it did. -/
def fnExactAddQtySpec : ChangeSpec := { name := "fnExactAddQty", fn := fun _ => fun
  | [d1, d2] => { results := [.lit (.bool true)], args := [d1, d2] }
  | _ => none }
def fnExactAddQtyRow : OpenClaim := { program := "ytfbplblpgdpilaa", sum := "f40bcb85eeeffecfe45378fd34b6f5fdb519d1effaa322710db8ae68c66a2e27", func := "loop.example/g00623/laws.FnExactAddQty", spec := "fnExactAddQty", apart := false }
def FnExactAddQtySaid : Prop := fnExactAddQtyRow.holds Try.pinned (OpenSpec.ofChange fnExactAddQtySpec)

/-- ITS FALSE NEIGHBOUR: 'it returns false'. Refute it at one input. -/
def fnExactAddQtyWrong : ChangeSpec := { name := "fnExactAddQty", fn := fun _ => fun
  | [d1, d2] => { results := [.lit (.bool false)], args := [d1, d2] }
  | _ => none }
def FnExactAddQtyWrongFalsely : Prop := fnExactAddQtyRow.holds Try.pinned (OpenSpec.ofChange fnExactAddQtyWrong)

/- THE SECOND FORM. 'bulk': how many values and letters a reading holds, each counted each time it is reached (what is shared counts as often as it is met; a slice's spare places count too). A statement '..UptoSaid' is the law's where the arguments, and the package variables that the reading takes, are together of bulk at most 1048576: NARROWER than '..Said'. Prove '..Said' where nothing that the law and all that it calls make is longer than what came in: it says more and counts as full. Else prove '..UptoSaid'. A law counts once. -/
mutual
def uptoBulk {H : Type} : DataW H → Nat
  | .lit (.string bytes) => bytes.length + 1
  | .lit _ => 1
  | .nil => 1
  | .ptr d => uptoBulk d + 1
  | .slice elems spare => uptoBulkAll elems + uptoBulkAll spare + 1
  | .agg parts => uptoBulkAll parts + 1
  | .iface _ d => uptoBulk d + 1
  | .map entries => uptoBulkEntries entries + 1
  | .held _ => 1
def uptoBulkAll {H : Type} : List (DataW H) → Nat
  | [] => 0
  | d :: r => uptoBulk d + uptoBulkAll r
def uptoBulkEntries {H : Type} : List (Lit × DataW H) → Nat
  | [] => 0
  | x :: r => uptoBulkEntry x + uptoBulkEntries r
def uptoBulkEntry {H : Type} : Lit × DataW H → Nat
  | (.string bytes, d) => bytes.length + uptoBulk d + 1
  | (_, d) => uptoBulk d + 1
 end
def uptoSmall : (H : Type) → List (DataW H) → Bool := fun _ ds => decide (uptoBulkAll ds ≤ 1048576)
def OpenSpec.upto (s : _root_.Go.ChangeSpec) : _root_.Go.OpenSpec := { _root_.Go.OpenSpec.ofChange s with cond := some uptoSmall }

/-- 'laws.FnNumbers', WHERE WHAT IT READS IS OF BULK AT MOST 1048576: true; the input reads as it did. -/
def fnNumbersUptoRow : OpenClaim := { program := "ytfbplblpgdpilaa", sum := "f40bcb85eeeffecfe45378fd34b6f5fdb519d1effaa322710db8ae68c66a2e27", func := "loop.example/g00623/laws.FnNumbers", spec := "fnNumbers", apart := false, narrowed := true }
def FnNumbersUptoSaid : Prop := fnNumbersUptoRow.holds Try.pinned (OpenSpec.upto fnNumbersSpec)

/-- 'laws.FnExactPutNumber', WHERE WHAT IT READS IS OF BULK AT MOST 1048576: true; the input reads as it did. -/
def fnExactPutNumberUptoRow : OpenClaim := { program := "ytfbplblpgdpilaa", sum := "f40bcb85eeeffecfe45378fd34b6f5fdb519d1effaa322710db8ae68c66a2e27", func := "loop.example/g00623/laws.FnExactPutNumber", spec := "fnExactPutNumber", apart := false, narrowed := true }
def FnExactPutNumberUptoSaid : Prop := fnExactPutNumberUptoRow.holds Try.pinned (OpenSpec.upto fnExactPutNumberSpec)

/-- 'laws.FnExactGetNumber', WHERE WHAT IT READS IS OF BULK AT MOST 1048576: true; the input reads as it did. -/
def fnExactGetNumberUptoRow : OpenClaim := { program := "ytfbplblpgdpilaa", sum := "f40bcb85eeeffecfe45378fd34b6f5fdb519d1effaa322710db8ae68c66a2e27", func := "loop.example/g00623/laws.FnExactGetNumber", spec := "fnExactGetNumber", apart := false, narrowed := true }
def FnExactGetNumberUptoSaid : Prop := fnExactGetNumberUptoRow.holds Try.pinned (OpenSpec.upto fnExactGetNumberSpec)

/-- 'laws.FnExactPackNumbers', WHERE WHAT IT READS IS OF BULK AT MOST 1048576: true; the input reads as it did. -/
def fnExactPackNumbersUptoRow : OpenClaim := { program := "ytfbplblpgdpilaa", sum := "f40bcb85eeeffecfe45378fd34b6f5fdb519d1effaa322710db8ae68c66a2e27", func := "loop.example/g00623/laws.FnExactPackNumbers", spec := "fnExactPackNumbers", apart := false, narrowed := true }
def FnExactPackNumbersUptoSaid : Prop := fnExactPackNumbersUptoRow.holds Try.pinned (OpenSpec.upto fnExactPackNumbersSpec)

/-- 'laws.FnExactReadNumbers', WHERE WHAT IT READS IS OF BULK AT MOST 1048576: true; the input reads as it did. -/
def fnExactReadNumbersUptoRow : OpenClaim := { program := "ytfbplblpgdpilaa", sum := "f40bcb85eeeffecfe45378fd34b6f5fdb519d1effaa322710db8ae68c66a2e27", func := "loop.example/g00623/laws.FnExactReadNumbers", spec := "fnExactReadNumbers", apart := false, narrowed := true }
def FnExactReadNumbersUptoSaid : Prop := fnExactReadNumbersUptoRow.holds Try.pinned (OpenSpec.upto fnExactReadNumbersSpec)

/-- 'laws.FnExactAddQty', WHERE WHAT IT READS IS OF BULK AT MOST 1048576: true; the input reads as it did. -/
def fnExactAddQtyUptoRow : OpenClaim := { program := "ytfbplblpgdpilaa", sum := "f40bcb85eeeffecfe45378fd34b6f5fdb519d1effaa322710db8ae68c66a2e27", func := "loop.example/g00623/laws.FnExactAddQty", spec := "fnExactAddQty", apart := false, narrowed := true }
def FnExactAddQtyUptoSaid : Prop := fnExactAddQtyUptoRow.holds Try.pinned (OpenSpec.upto fnExactAddQtySpec)

end Rows
end Go.Proofs.Ytfbplblpgdpilaa
