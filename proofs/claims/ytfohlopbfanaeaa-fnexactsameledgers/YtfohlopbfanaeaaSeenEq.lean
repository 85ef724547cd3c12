/-
  Structs of the kind impl.Seen compared.
-/
import Derived.Test.YtfohlopbfanaeaaRowEq
import Derived.Test.YtfohlopbfanaeaaSeen2
namespace Go.Proofs.Ytfohlopbfanaeaa
open Go.RowKit

theorem seenUnder : Try.prog.underlying 64 = some (.struct (Try.prog.fieldsOf 64)) := by kernel_rfl
theorem seenHeld : Try.prog.stoodInHeld 64 = false := by kernel_rfl
set_option maxRecDepth 1000000 in
theorem seenFieldsI : ∃ a b : Field, (Try.prog.fieldsOf 64).toList = [a, b] ∧ a.type = 2 ∧ b.type = 2 ∧ a.offset = 0 ∧ b.offset = 1 ∧ a.name ≠ "_" ∧ b.name ≠ "_" :=
  ⟨_, _, rfl, rfl, rfl, rfl, rfl, by decide, by decide⟩
theorem seenEqual (x y : Sn) (w : World) : (Op.equalIn 10000 64 (sv x) (sv y)).run Try.prog w = .ok (decide (x = y)) w := by
  rw [show (10000 : Nat) = 9999 + 1 from rfl, run_equalIn_struct w 9999 _ _ _ seenUnder seenHeld]
  obtain ⟨a, b, hf, ta, tb, oa, ob, na, nb⟩ := seenFieldsI
  rw [hf]
  obtain ⟨x0, x1⟩ := x
  obtain ⟨y0, y1⟩ := y
  rw [show (9999 : Nat) = 9998 + 1 from rfl, eqFields_int na ta oa (a := x0) (b := y0) rfl rfl, eqFields_int nb tb ob (a := x1) (b := y1) rfl rfl]
  by_cases h0 : x0 = y0 <;> by_cases h1 : x1 = y1 <;> simp [h0, h1, Op.eqFields]
theorem seenNeq (x y : Sn) (w : World) : (binOp .neq 64 (sv x) (sv y)).run Try.prog w = .ok (.bool (!decide (x = y))) w := by
  rw [run_neq_struct, seenEqual]; rfl
theorem seenEql (x y : Sn) (w : World) : (binOp .eql 64 (sv x) (sv y)).run Try.prog w = .ok (.bool (decide (x = y))) w := by
  rw [run_eql_struct, seenEqual]; rfl
theorem seenGuard (op : BinOp) (p q : Operand) (x y : Sn) (w : World) : (eqGuard op 64 p q (sv x) (sv y)).run Try.prog w = .ok () w := run_eqGuard_agg w op _ p q _ _ (by kernel_rfl)
end Go.Proofs.Ytfohlopbfanaeaa
