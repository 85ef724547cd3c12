/-
  Limits compared as structs.
-/
import Derived.Test.YtocllaendofndaaImpl3a
namespace Go.Proofs.Ytocllaendofndaa
open Go.RowKit

theorem limUnder : Try.prog.underlying 44 = some (.struct (Try.prog.fieldsOf 44)) := by kernel_rfl
theorem limHeld : Try.prog.stoodInHeld 44 = false := by kernel_rfl
theorem i64Plain3 : Try.prog.plainKey 2 = true := by kernel_rfl
set_option maxRecDepth 1000000 in
theorem limFields : ∃ a b : Field, (Try.prog.fieldsOf 44).toList = [a, b] ∧ a.type = 2 ∧ b.type = 2 ∧ a.offset = 0 ∧ b.offset = 1 ∧ (a.name ≠ "_") ∧ (b.name ≠ "_") :=
  ⟨_, _, rfl, rfl, rfl, rfl, rfl, by decide, by decide⟩
/-- One field of integers more. -/
theorem eqFields_int3 {d : Nat} {xs ys : Array Value} {f : Field} {fs : List Field} {a b : Int} {w : World} {k : Nat} (hn : f.name ≠ "_") (ht : f.type = 2) (ho : f.offset = k) (hx : xs[k]? = some (.int .i64 a)) (hy : ys[k]? = some (.int .i64 b)) :
    (Op.eqFields (d + 1) xs ys (f :: fs)).run Try.prog w = if a = b then (Op.eqFields (d + 1) xs ys fs).run Try.prog w else .ok false w := by
  rw [Op.eqFields, if_pos hn, ht, ho]
  simp only [Sem.run_bind, run_part_plain w i64Plain3 hx, run_part_plain w i64Plain3 hy, Result.andThen_ok, run_equalIn_int w d 2 .i64 .i64 a b Try.underlying2, Sem.run_ite, Sem.run_pure]
  by_cases h : a = b
  · simp [h]
  · simp [h]
theorem limEqual (x y : Int × Int) (w : World) : (Op.equalIn 10000 44 (lmv x) (lmv y)).run Try.prog w = .ok (decide (x = y)) w := by
  rw [show (10000 : Nat) = 9999 + 1 from rfl, run_equalIn_struct w 9999 _ _ _ limUnder limHeld]
  obtain ⟨a, b, hf, ta, tb, oa, ob, na, nb⟩ := limFields
  rw [hf]
  obtain ⟨x0, x1⟩ := x
  obtain ⟨y0, y1⟩ := y
  rw [show (9999 : Nat) = 9998 + 1 from rfl, eqFields_int3 na ta oa (a := x0) (b := y0) rfl rfl, eqFields_int3 nb tb ob (a := x1) (b := y1) rfl rfl]
  by_cases h0 : x0 = y0 <;> by_cases h1 : x1 = y1 <;> simp [h0, h1, Op.eqFields]
theorem limEql (x : Int × Int) (w : World) : (binOp .eql 44 (lmv x) (.agg #[.int .i64 0, .int .i64 0])).run Try.prog w = .ok (.bool (decide (x = (0, 0)))) w := by
  have := limEqual x (0, 0) w
  rw [run_eql_struct]
  exact (congrArg (fun r => _) rfl).trans (by rw [this]; rfl)
theorem limGuard (op : BinOp) (p q : Operand) (x y : Int × Int) (w : World) : (eqGuard op 44 p q (lmv x) (lmv y)).run Try.prog w = .ok () w := run_eqGuard_agg w op _ p q _ _ (by kernel_rfl)
theorem op_cells' {w : World} {g : Nat} {o : O} (h : w.heap[g]? = some (obox o)) :
    w.cell? ⟨g, 0, none⟩ = some (.int .i64 o.k) ∧ w.cell? ⟨g, 1, none⟩ = some (.int .i64 o.rq) ∧ w.cell? ⟨g, 2, none⟩ = some (.int .i64 o.lc) ∧ w.cell? ⟨g, 3, none⟩ = some (.int .i64 o.tt) ∧ w.cell? ⟨g, 4, none⟩ = some (.int .i64 o.sk) ∧ w.cell? ⟨g, 5, none⟩ = some (.int .i64 o.qt) ∧ w.cell? ⟨g, 6, none⟩ = some (.int .i64 o.hd) ∧ g < w.heap.size :=
  ⟨cell_of_heap h, cell_of_heap h, cell_of_heap h, cell_of_heap h, cell_of_heap h, cell_of_heap h, cell_of_heap h, heap_lt h⟩
end Go.Proofs.Ytocllaendofndaa
