/-
  Limits compared as structs.
-/
import Derived.Test.YtocllaendofndaaDoorImpl3a
namespace Go.Proofs.YtocllaendofndaaDoor
open Go.RowKit

theorem limUnder : Tryd.prog.underlying 69 = some (.struct (Tryd.prog.fieldsOf 69)) := by kernel_rfl
theorem limHeld : Tryd.prog.stoodInHeld 69 = false := by kernel_rfl
theorem i64Plain3 : Tryd.prog.plainKey 2 = true := by kernel_rfl
theorem limFields : ∃ a b : Field, (Tryd.prog.fieldsOf 69).toList = [a, b] ∧ a.type = 2 ∧ b.type = 2 ∧ a.offset = 0 ∧ b.offset = 1 ∧ (a.name ≠ "_") ∧ (b.name ≠ "_") := by
  have hm : (Tryd.prog.fieldsOf 69).toList.map (fun f => (f.type, f.offset, f.name)) = [(2, 0, "least"), (2, 1, "most")] := by kernel_rfl
  match h : (Tryd.prog.fieldsOf 69).toList with
  | [] => rw [h] at hm; cases hm
  | [_] => rw [h] at hm; simp at hm
  | [a, b] =>
    rw [h] at hm
    simp only [List.map_cons, List.map_nil, List.cons.injEq, Prod.mk.injEq, and_true] at hm
    obtain ⟨⟨a1, a2, a3⟩, b1, b2, b3⟩ := hm
    exact ⟨a, b, rfl, a1, b1, a2, b2, by rw [a3]; decide, by rw [b3]; decide⟩
  | _ :: _ :: _ :: _ => rw [h] at hm; simp at hm
/-- One field of integers more. -/
theorem eqFields_int3 {d : Nat} {xs ys : Array Value} {f : Field} {fs : List Field} {a b : Int} {w : World} {k : Nat} (hn : f.name ≠ "_") (ht : f.type = 2) (ho : f.offset = k) (hx : xs[k]? = some (.int .i64 a)) (hy : ys[k]? = some (.int .i64 b)) :
    (Op.eqFields (d + 1) xs ys (f :: fs)).run Tryd.prog w = if a = b then (Op.eqFields (d + 1) xs ys fs).run Tryd.prog w else .ok false w := by
  rw [Op.eqFields, if_pos hn, ht, ho]
  simp only [Sem.run_bind, run_part_plain w i64Plain3 hx, run_part_plain w i64Plain3 hy, Result.andThen_ok, run_equalIn_int w d 2 .i64 .i64 a b Tryd.underlying2, Sem.run_ite, Sem.run_pure]
  by_cases h : a = b
  · simp [h]
  · simp [h]
theorem limEqual (x y : Int × Int) (w : World) : (Op.equalIn 10000 69 (lmv x) (lmv y)).run Tryd.prog w = .ok (decide (x = y)) w := by
  rw [show (10000 : Nat) = 9999 + 1 from rfl, run_equalIn_struct w 9999 _ _ _ limUnder limHeld]
  obtain ⟨a, b, hf, ta, tb, oa, ob, na, nb⟩ := limFields
  rw [hf]
  obtain ⟨x0, x1⟩ := x
  obtain ⟨y0, y1⟩ := y
  rw [show (9999 : Nat) = 9998 + 1 from rfl, eqFields_int3 na ta oa (a := x0) (b := y0) rfl rfl, eqFields_int3 nb tb ob (a := x1) (b := y1) rfl rfl]
  by_cases h0 : x0 = y0 <;> by_cases h1 : x1 = y1 <;> simp [h0, h1, Op.eqFields]
theorem limEql (x : Int × Int) (w : World) : (binOp .eql 69 (lmv x) (.agg #[.int .i64 0, .int .i64 0])).run Tryd.prog w = .ok (.bool (decide (x = (0, 0)))) w := by
  have := limEqual x (0, 0) w
  rw [run_eql_struct]
  exact (congrArg (fun r => _) rfl).trans (by rw [this]; rfl)
theorem limGuard (op : BinOp) (p q : Operand) (x y : Int × Int) (w : World) : (eqGuard op 69 p q (lmv x) (lmv y)).run Tryd.prog w = .ok () w := run_eqGuard_agg w op _ p q _ _ (by kernel_rfl)
theorem op_cells' {w : World} {g : Nat} {o : O} (h : w.heap[g]? = some (obox o)) :
    w.cell? ⟨g, 0, none⟩ = some (.int .i64 o.k) ∧ w.cell? ⟨g, 1, none⟩ = some (.int .i64 o.rq) ∧ w.cell? ⟨g, 2, none⟩ = some (.int .i64 o.lc) ∧ w.cell? ⟨g, 3, none⟩ = some (.int .i64 o.tt) ∧ w.cell? ⟨g, 4, none⟩ = some (.int .i64 o.sk) ∧ w.cell? ⟨g, 5, none⟩ = some (.int .i64 o.qt) ∧ w.cell? ⟨g, 6, none⟩ = some (.int .i64 o.hd) ∧ g < w.heap.size :=
  ⟨cell_of_heap h, cell_of_heap h, cell_of_heap h, cell_of_heap h, cell_of_heap h, cell_of_heap h, cell_of_heap h, heap_lt h⟩
end Go.Proofs.YtocllaendofndaaDoor
