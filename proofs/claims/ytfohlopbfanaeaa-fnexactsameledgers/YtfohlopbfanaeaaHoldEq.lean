/-
  Structs of the kind impl.Hold compared.
-/
import Derived.Test.YtfohlopbfanaeaaRowEq
import Derived.Test.YtfohlopbfanaeaaHold5
namespace Go.Proofs.Ytfohlopbfanaeaa
open Go.RowKit

theorem holdUnder : Try.prog.underlying 100 = some (.struct (Try.prog.fieldsOf 100)) := by kernel_rfl
theorem holdHeld : Try.prog.stoodInHeld 100 = false := by kernel_rfl
set_option maxRecDepth 1000000 in
theorem holdFields : ∃ a b c d e : Field, (Try.prog.fieldsOf 100).toList = [a, b, c, d, e] ∧ a.type = 2 ∧ b.type = 2 ∧ c.type = 2 ∧ d.type = 2 ∧ e.type = 2 ∧ a.offset = 0 ∧ b.offset = 1 ∧ c.offset = 2 ∧ d.offset = 3 ∧ e.offset = 4 ∧ a.name ≠ "_" ∧ b.name ≠ "_" ∧ c.name ≠ "_" ∧ d.name ≠ "_" ∧ e.name ≠ "_" :=
  ⟨_, _, _, _, _, rfl, rfl, rfl, rfl, rfl, rfl, rfl, rfl, rfl, rfl, rfl, by decide, by decide, by decide, by decide, by decide⟩
theorem holdEqual (x y : Hd) (w : World) : (Op.equalIn 10000 100 (hv x) (hv y)).run Try.prog w = .ok (decide (x = y)) w := by
  rw [show (10000 : Nat) = 9999 + 1 from rfl, run_equalIn_struct w 9999 _ _ _ holdUnder holdHeld]
  obtain ⟨a, b, c, d, e, hf, ta, tb, tc, td, te, oa, ob, oc, od, oe, na, nb, nc, nd, ne⟩ := holdFields
  rw [hf]
  obtain ⟨x0, x1, x2, x3, x4⟩ := x
  obtain ⟨y0, y1, y2, y3, y4⟩ := y
  rw [show (9999 : Nat) = 9998 + 1 from rfl, eqFields_int na ta oa (a := x0) (b := y0) rfl rfl, eqFields_int nb tb ob (a := x1) (b := y1) rfl rfl, eqFields_int nc tc oc (a := x2) (b := y2) rfl rfl, eqFields_int nd td od (a := x3) (b := y3) rfl rfl, eqFields_int ne te oe (a := x4) (b := y4) rfl rfl]
  by_cases h0 : x0 = y0 <;> by_cases h1 : x1 = y1 <;> by_cases h2 : x2 = y2 <;> by_cases h3 : x3 = y3 <;> by_cases h4 : x4 = y4 <;> simp [h0, h1, h2, h3, h4, Op.eqFields]
theorem holdNeq (x y : Hd) (w : World) : (binOp .neq 100 (hv x) (hv y)).run Try.prog w = .ok (.bool (!decide (x = y))) w := by
  rw [run_neq_struct, holdEqual]; rfl
theorem holdEql (x y : Hd) (w : World) : (binOp .eql 100 (hv x) (hv y)).run Try.prog w = .ok (.bool (decide (x = y))) w := by
  rw [run_eql_struct, holdEqual]; rfl
theorem holdGuard (op : BinOp) (p q : Operand) (x y : Hd) (w : World) : (eqGuard op 100 p q (hv x) (hv y)).run Try.prog w = .ok () w := run_eqGuard_agg w op _ p q _ _ (by kernel_rfl)
end Go.Proofs.Ytfohlopbfanaeaa
