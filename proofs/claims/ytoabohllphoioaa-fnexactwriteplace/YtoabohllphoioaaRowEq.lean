/-
  Rows compared as structs.
-/
import Derived.Test.YtoabohllphoioaaProg
import Derived.Test.YtoabohllphoioaaG1
import Derived.Laws.StructEq
import Derived.ChangeKeysEq
import Derived.KernelRfl
namespace Go.Proofs.Ytoabohllphoioaa
open Go.RowKit

theorem rowUnder : Try.prog.underlying 34 = some (.struct (Try.prog.fieldsOf 34)) := by kernel_rfl
theorem rowHeld : Try.prog.stoodInHeld 34 = false := by kernel_rfl
theorem i64Plain : Try.prog.plainKey 2 = true := by kernel_rfl
set_option maxRecDepth 1000000 in
theorem rowFields : ∃ a b c d : Field, (Try.prog.fieldsOf 34).toList = [a, b, c, d] ∧ a.type = 2 ∧ b.type = 2 ∧ c.type = 2 ∧ d.type = 2 ∧ a.offset = 0 ∧ b.offset = 1 ∧ c.offset = 2 ∧ d.offset = 3 ∧ (a.name ≠ "_") ∧ (b.name ≠ "_") ∧ (c.name ≠ "_") ∧ (d.name ≠ "_") :=
  ⟨_, _, _, _, rfl, rfl, rfl, rfl, rfl, rfl, rfl, rfl, rfl, by decide, by decide, by decide, by decide⟩

/-- One field of integers more. -/
theorem eqFields_int {d : Nat} {xs ys : Array Value} {f : Field} {fs : List Field} {a b : Int} {w : World} {k : Nat} (hn : f.name ≠ "_") (ht : f.type = 2) (ho : f.offset = k) (hx : xs[k]? = some (.int .i64 a)) (hy : ys[k]? = some (.int .i64 b)) :
    (Op.eqFields (d + 1) xs ys (f :: fs)).run Try.prog w = if a = b then (Op.eqFields (d + 1) xs ys fs).run Try.prog w else .ok false w := by
  rw [Op.eqFields, if_pos hn, ht, ho]
  simp only [Sem.run_bind, run_part_plain w i64Plain hx, run_part_plain w i64Plain hy, Result.andThen_ok, run_equalIn_int w d 2 .i64 .i64 a b Try.underlying2, Sem.run_ite, Sem.run_pure]
  by_cases h : a = b
  · simp [h]
  · simp [h]

theorem rowEqual (x y : R) (w : World) : (Op.equalIn 10000 34 (rv x) (rv y)).run Try.prog w = .ok (decide (x = y)) w := by
  rw [show (10000 : Nat) = 9999 + 1 from rfl, run_equalIn_struct w 9999 _ _ _ rowUnder rowHeld]
  obtain ⟨a, b, c, d, hf, ta, tb, tc, td, oa, ob, oc, od, na, nb, nc, nd⟩ := rowFields
  rw [hf]
  obtain ⟨x0, x1, x2, x3⟩ := x
  obtain ⟨y0, y1, y2, y3⟩ := y
  rw [show (9999 : Nat) = 9998 + 1 from rfl, eqFields_int na ta oa (a := x0) (b := y0) rfl rfl, eqFields_int nb tb ob (a := x1) (b := y1) rfl rfl, eqFields_int nc tc oc (a := x2) (b := y2) rfl rfl, eqFields_int nd td od (a := x3) (b := y3) rfl rfl]
  by_cases h0 : x0 = y0 <;> by_cases h1 : x1 = y1 <;> by_cases h2 : x2 = y2 <;> by_cases h3 : x3 = y3 <;> simp [h0, h1, h2, h3, Op.eqFields]
theorem rowNeq (x y : R) (w : World) : (binOp .neq 34 (rv x) (rv y)).run Try.prog w = .ok (.bool (!decide (x = y))) w := by
  rw [run_neq_struct, rowEqual]; rfl
theorem rowEql (x y : R) (w : World) : (binOp .eql 34 (rv x) (rv y)).run Try.prog w = .ok (.bool (decide (x = y))) w := by
  rw [run_eql_struct, rowEqual]; rfl
theorem rowGuard (op : BinOp) (p q : Operand) (x y : R) (w : World) : (eqGuard op 34 p q (rv x) (rv y)).run Try.prog w = .ok () w := run_eqGuard_agg w op _ p q _ _ (by kernel_rfl)
end Go.Proofs.Ytoabohllphoioaa
