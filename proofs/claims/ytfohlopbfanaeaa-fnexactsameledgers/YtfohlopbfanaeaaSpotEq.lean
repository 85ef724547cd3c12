/-
  Structs of the kind impl.spot compared.
-/
import Derived.Test.YtfohlopbfanaeaaRowEq
import Derived.Test.YtfohlopbfanaeaaSpot2
namespace Go.Proofs.Ytfohlopbfanaeaa
open Go.RowKit

theorem spotUnder : Try.prog.underlying 133 = some (.struct (Try.prog.fieldsOf 133)) := by kernel_rfl
theorem spotHeld : Try.prog.stoodInHeld 133 = false := by kernel_rfl
set_option maxRecDepth 1000000 in
theorem spotFields : ∃ a b : Field, (Try.prog.fieldsOf 133).toList = [a, b] ∧ a.type = 2 ∧ b.type = 2 ∧ a.offset = 0 ∧ b.offset = 1 ∧ a.name ≠ "_" ∧ b.name ≠ "_" :=
  ⟨_, _, rfl, rfl, rfl, rfl, rfl, by decide, by decide⟩
theorem spotEqual (x y : Sp) (w : World) : (Op.equalIn 10000 133 (spv x) (spv y)).run Try.prog w = .ok (decide (x = y)) w := by
  rw [show (10000 : Nat) = 9999 + 1 from rfl, run_equalIn_struct w 9999 _ _ _ spotUnder spotHeld]
  obtain ⟨a, b, hf, ta, tb, oa, ob, na, nb⟩ := spotFields
  rw [hf]
  obtain ⟨x0, x1⟩ := x
  obtain ⟨y0, y1⟩ := y
  rw [show (9999 : Nat) = 9998 + 1 from rfl, eqFields_int na ta oa (a := x0) (b := y0) rfl rfl, eqFields_int nb tb ob (a := x1) (b := y1) rfl rfl]
  by_cases h0 : x0 = y0 <;> by_cases h1 : x1 = y1 <;> simp [h0, h1, Op.eqFields]
theorem spotNeq (x y : Sp) (w : World) : (binOp .neq 133 (spv x) (spv y)).run Try.prog w = .ok (.bool (!decide (x = y))) w := by
  rw [run_neq_struct, spotEqual]; rfl
theorem spotEql (x y : Sp) (w : World) : (binOp .eql 133 (spv x) (spv y)).run Try.prog w = .ok (.bool (decide (x = y))) w := by
  rw [run_eql_struct, spotEqual]; rfl
theorem spotGuard (op : BinOp) (p q : Operand) (x y : Sp) (w : World) : (eqGuard op 133 p q (spv x) (spv y)).run Try.prog w = .ok () w := run_eqGuard_agg w op _ p q _ _ (by kernel_rfl)
end Go.Proofs.Ytfohlopbfanaeaa
