/-
  The ring with a request added: contracts of (ring).with, by a maker (mkring.py).
-/
import Derived.Test.YtfohlopbfanaeaaRing5
import Derived.Deep.AppendLies
import Derived.Deep.RegionLaw
import Derived.Deep.DeepCutAuto
namespace Go.Proofs.Ytfohlopbfanaeaa
open Go.RowKit

/-- The fourteen cells of a ring's block. -/
theorem ring_at {w : World} {g : Nat} {u0 u1 u2 u3 u4 u5 u6 u7 u8 u9 u10 u11 u12 u13 : Value} {t : TypeId} (h : w.heap[g]? = some (.cells #[u0, u1, u2, u3, u4, u5, u6, u7, u8, u9, u10, u11, u12, u13] t (0, 0))) :
    w.cell? ⟨g, 0, none⟩ = some u0 ∧ w.cell? ⟨g, 1, none⟩ = some u1 ∧ w.cell? ⟨g, 2, none⟩ = some u2 ∧ w.cell? ⟨g, 3, none⟩ = some u3 ∧ w.cell? ⟨g, 4, none⟩ = some u4 ∧ w.cell? ⟨g, 5, none⟩ = some u5 ∧ w.cell? ⟨g, 6, none⟩ = some u6 ∧ w.cell? ⟨g, 7, none⟩ = some u7 ∧ w.cell? ⟨g, 8, none⟩ = some u8 ∧ w.cell? ⟨g, 9, none⟩ = some u9 ∧ w.cell? ⟨g, 10, none⟩ = some u10 ∧ w.cell? ⟨g, 11, none⟩ = some u11 ∧ w.cell? ⟨g, 12, none⟩ = some u12 ∧ w.cell? ⟨g, 13, none⟩ = some u13 ∧ w.frozen? ⟨g, 0, none⟩ = false ∧ w.frozen? ⟨g, 1, none⟩ = false ∧ w.frozen? ⟨g, 2, none⟩ = false ∧ w.frozen? ⟨g, 3, none⟩ = false ∧ w.frozen? ⟨g, 4, none⟩ = false ∧ w.frozen? ⟨g, 5, none⟩ = false ∧ w.frozen? ⟨g, 6, none⟩ = false ∧ w.frozen? ⟨g, 7, none⟩ = false ∧ w.frozen? ⟨g, 8, none⟩ = false ∧ w.frozen? ⟨g, 9, none⟩ = false ∧ w.frozen? ⟨g, 10, none⟩ = false ∧ w.frozen? ⟨g, 11, none⟩ = false ∧ w.frozen? ⟨g, 12, none⟩ = false ∧ w.frozen? ⟨g, 13, none⟩ = false ∧ g < w.heap.size :=
  ⟨cell_of_heap h, cell_of_heap h, cell_of_heap h, cell_of_heap h, cell_of_heap h, cell_of_heap h, cell_of_heap h, cell_of_heap h, cell_of_heap h, cell_of_heap h, cell_of_heap h, cell_of_heap h, cell_of_heap h, cell_of_heap h, frozen_of_heap h, frozen_of_heap h, frozen_of_heap h, frozen_of_heap h, frozen_of_heap h, frozen_of_heap h, frozen_of_heap h, frozen_of_heap h, frozen_of_heap h, frozen_of_heap h, frozen_of_heap h, frozen_of_heap h, frozen_of_heap h, frozen_of_heap h, heap_lt h⟩

/-- Behind the store: the ring's block, the result's block. -/
structure RingMid (w : World) (cs : Array Value) (wc : World) : Prop where
  r : wc.heap[w.heap.size]? = some (.cells cs 114 (0, 0))
  o : wc.heap[w.heap.size + 2]? = some (.cells #[.int .i64 0, .int .i64 0, .int .i64 0, .int .i64 0, .int .i64 0, .int .i64 0, .int .i64 0, .int .i64 0, .int .i64 0, .int .i64 0, .int .i64 0, .int .i64 0, .int .i64 0, .int .i64 0] 114 (0, 0))
  b : Below w.heap.size w wc

set_option maxRecDepth 100000 in
set_option maxHeartbeats 4000000 in
theorem with0_c (a0 a1 a2 a3 a4 a5 x : Sn) (w : World) :
    Calls Try.prog 79 #[.agg #[.int .i64 a0.rq, .int .i64 a0.vl, .int .i64 a1.rq, .int .i64 a1.vl, .int .i64 a2.rq, .int .i64 a2.vl, .int .i64 a3.rq, .int .i64 a3.vl, .int .i64 a4.rq, .int .i64 a4.vl, .int .i64 a5.rq, .int .i64 a5.vl, .int .i64 0, .int .i64 0], sv x] w fun e w' => e = .returned (.agg #[.int .i64 x.rq, .int .i64 x.vl, .int .i64 a1.rq, .int .i64 a1.vl, .int .i64 a2.rq, .int .i64 a2.vl, .int .i64 a3.rq, .int .i64 a3.vl, .int .i64 a4.rq, .int .i64 a4.vl, .int .i64 a5.rq, .int .i64 a5.vl, .int .i64 0, .int .i64 1]) ∧ Below w.heap.size w w' := by
  go_enter Try.func79, Try.ntmps79
  go_upto_region 1 with (fail)
  generalize hW : (((w.alloc (.cells #[.int .i64 a0.rq, .int .i64 a0.vl, .int .i64 a1.rq, .int .i64 a1.vl, .int .i64 a2.rq, .int .i64 a2.vl, .int .i64 a3.rq, .int .i64 a3.vl, .int .i64 a4.rq, .int .i64 a4.vl, .int .i64 a5.rq, .int .i64 a5.vl, .int .i64 0, .int .i64 0] 114)).alloc (sbox x)).alloc (.cells #[.int .i64 0, .int .i64 0, .int .i64 0, .int .i64 0, .int .i64 0, .int .i64 0, .int .i64 0, .int .i64 0, .int .i64 0, .int .i64 0, .int .i64 0, .int .i64 0, .int .i64 0, .int .i64 0] 114)) = W
  have HBW : Hid (Below w.heap.size w W) := by rw [← hW]; exact below_more (below_more (below_new _) _) _
  have G0 : Hid (W.heap[w.heap.size]? = some (.cells #[.int .i64 a0.rq, .int .i64 a0.vl, .int .i64 a1.rq, .int .i64 a1.vl, .int .i64 a2.rq, .int .i64 a2.vl, .int .i64 a3.rq, .int .i64 a3.vl, .int .i64 a4.rq, .int .i64 a4.vl, .int .i64 a5.rq, .int .i64 a5.vl, .int .i64 0, .int .i64 0] 114 (0, 0))) := by rw [← hW]; exact heap_old (heap_old (heap_new w _ rfl))
  have G1 : Hid (W.heap[w.heap.size + 1]? = some (.cells #[.int .i64 x.rq, .int .i64 x.vl] 64 (0, 0))) := by rw [← hW]; exact heap_old (heap_new _ _ (by simp))
  have G2 : Hid (W.heap[w.heap.size + 2]? = some (.cells #[.int .i64 0, .int .i64 0, .int .i64 0, .int .i64 0, .int .i64 0, .int .i64 0, .int .i64 0, .int .i64 0, .int .i64 0, .int .i64 0, .int .i64 0, .int .i64 0, .int .i64 0, .int .i64 0] 114 (0, 0))) := by rw [← hW]; exact heap_new _ _ (by simp)
  clear hW
  go_cut [8] (fun _ wc => Hid (RingMid w #[.int .i64 x.rq, .int .i64 x.vl, .int .i64 a1.rq, .int .i64 a1.vl, .int .i64 a2.rq, .int .i64 a2.vl, .int .i64 a3.rq, .int .i64 a3.vl, .int .i64 a4.rq, .int .i64 a4.vl, .int .i64 a5.rq, .int .i64 a5.vl, .int .i64 0, .int .i64 0] wc))
  case first =>
    obtain ⟨c0, c1, c2, c3, c4, c5, c6, c7, c8, c9, c10, c11, c12, c13, f0, f1, f2, f3, f4, f5, f6, f7, f8, f9, f10, f11, f12, f13, hz⟩ := ring_at G0.out
    obtain ⟨x0, x1, _, _, hzx⟩ := pair_at5 G1.out
    have hslot := fun W' => slot_c [a0, a1, a2, a3, a4, a5] 0 0 0 W' (by omega) (by omega) (by omega) (by omega)
    go_region_law ((go_simp; go_at_call 105; refine (hslot _).mono ?_; rintro e y1 ⟨rfl, rfl⟩))
    all_goals
      go_wp2_with fail
      go_meet
      exact ⟨heap_old (heap_set1 (heap_set1 G0.out)), heap_old ((But.two W w.heap.size 0 1 (.int .i64 x.rq) (.int .i64 x.vl)).heap G2.out (by simp)),
        (below_more ((HBW.out.setCell (p := ⟨w.heap.size, 0, none⟩) (Nat.le_refl _) _).setCell (p := ⟨w.heap.size, 1, none⟩) (Nat.le_refl _) _) _).drew⟩
  case rest =>
    obtain ⟨gx, gr, hbx⟩ := hcut.out
    have HBX := Lib.hid hbx; have GX := Lib.hid gx; have GR := Lib.hid gr
    clear hcut hbx gx gr
    have ⟨Y, hY⟩ : ∃ y, y = wc := ⟨_, rfl⟩
    subst hY
    obtain ⟨c0, c1, c2, c3, c4, c5, c6, c7, c8, c9, c10, c11, c12, c13, f0, f1, f2, f3, f4, f5, f6, f7, f8, f9, f10, f11, f12, f13, hz⟩ := ring_at GX.out
    obtain ⟨d0, d1, d2, d3, d4, d5, d6, d7, d8, d9, d10, d11, d12, d13, e0, e1, e2, e3, e4, e5, e6, e7, e8, e9, e10, e11, e12, e13, hzd⟩ := ring_at GR.out
    go_wp2_with fail
    refine bodyPost_ret (v := .agg #[.int .i64 x.rq, .int .i64 x.vl, .int .i64 a1.rq, .int .i64 a1.vl, .int .i64 a2.rq, .int .i64 a2.vl, .int .i64 a3.rq, .int .i64 a3.vl, .int .i64 a4.rq, .int .i64 a4.vl, .int .i64 a5.rq, .int .i64 a5.vl, .int .i64 0, .int .i64 1]) (by simp [results, Try.results79, go_sem, d0, d1, d2, d3, d4, d5, d6, d7, d8, d9, d10, d11, d12, d13]) rfl ⟨rfl, ?_⟩
    (repeat (first | with_reducible exact HBX.out | refine Below.setCell ?_ (by simp <;> omega) _))

set_option maxRecDepth 100000 in
set_option maxHeartbeats 4000000 in
theorem with1_c (a0 a1 a2 a3 a4 a5 x : Sn) (w : World) :
    Calls Try.prog 79 #[.agg #[.int .i64 a0.rq, .int .i64 a0.vl, .int .i64 a1.rq, .int .i64 a1.vl, .int .i64 a2.rq, .int .i64 a2.vl, .int .i64 a3.rq, .int .i64 a3.vl, .int .i64 a4.rq, .int .i64 a4.vl, .int .i64 a5.rq, .int .i64 a5.vl, .int .i64 0, .int .i64 1], sv x] w fun e w' => e = .returned (.agg #[.int .i64 a0.rq, .int .i64 a0.vl, .int .i64 x.rq, .int .i64 x.vl, .int .i64 a2.rq, .int .i64 a2.vl, .int .i64 a3.rq, .int .i64 a3.vl, .int .i64 a4.rq, .int .i64 a4.vl, .int .i64 a5.rq, .int .i64 a5.vl, .int .i64 0, .int .i64 2]) ∧ Below w.heap.size w w' := by
  go_enter Try.func79, Try.ntmps79
  go_upto_region 1 with (fail)
  generalize hW : (((w.alloc (.cells #[.int .i64 a0.rq, .int .i64 a0.vl, .int .i64 a1.rq, .int .i64 a1.vl, .int .i64 a2.rq, .int .i64 a2.vl, .int .i64 a3.rq, .int .i64 a3.vl, .int .i64 a4.rq, .int .i64 a4.vl, .int .i64 a5.rq, .int .i64 a5.vl, .int .i64 0, .int .i64 1] 114)).alloc (sbox x)).alloc (.cells #[.int .i64 0, .int .i64 0, .int .i64 0, .int .i64 0, .int .i64 0, .int .i64 0, .int .i64 0, .int .i64 0, .int .i64 0, .int .i64 0, .int .i64 0, .int .i64 0, .int .i64 0, .int .i64 0] 114)) = W
  have HBW : Hid (Below w.heap.size w W) := by rw [← hW]; exact below_more (below_more (below_new _) _) _
  have G0 : Hid (W.heap[w.heap.size]? = some (.cells #[.int .i64 a0.rq, .int .i64 a0.vl, .int .i64 a1.rq, .int .i64 a1.vl, .int .i64 a2.rq, .int .i64 a2.vl, .int .i64 a3.rq, .int .i64 a3.vl, .int .i64 a4.rq, .int .i64 a4.vl, .int .i64 a5.rq, .int .i64 a5.vl, .int .i64 0, .int .i64 1] 114 (0, 0))) := by rw [← hW]; exact heap_old (heap_old (heap_new w _ rfl))
  have G1 : Hid (W.heap[w.heap.size + 1]? = some (.cells #[.int .i64 x.rq, .int .i64 x.vl] 64 (0, 0))) := by rw [← hW]; exact heap_old (heap_new _ _ (by simp))
  have G2 : Hid (W.heap[w.heap.size + 2]? = some (.cells #[.int .i64 0, .int .i64 0, .int .i64 0, .int .i64 0, .int .i64 0, .int .i64 0, .int .i64 0, .int .i64 0, .int .i64 0, .int .i64 0, .int .i64 0, .int .i64 0, .int .i64 0, .int .i64 0] 114 (0, 0))) := by rw [← hW]; exact heap_new _ _ (by simp)
  clear hW
  go_cut [8] (fun _ wc => Hid (RingMid w #[.int .i64 a0.rq, .int .i64 a0.vl, .int .i64 x.rq, .int .i64 x.vl, .int .i64 a2.rq, .int .i64 a2.vl, .int .i64 a3.rq, .int .i64 a3.vl, .int .i64 a4.rq, .int .i64 a4.vl, .int .i64 a5.rq, .int .i64 a5.vl, .int .i64 0, .int .i64 1] wc))
  case first =>
    obtain ⟨c0, c1, c2, c3, c4, c5, c6, c7, c8, c9, c10, c11, c12, c13, f0, f1, f2, f3, f4, f5, f6, f7, f8, f9, f10, f11, f12, f13, hz⟩ := ring_at G0.out
    obtain ⟨x0, x1, _, _, hzx⟩ := pair_at5 G1.out
    have hslot := fun W' => slot_c [a0, a1, a2, a3, a4, a5] 0 1 1 W' (by omega) (by omega) (by omega) (by omega)
    go_region_law ((go_simp; go_at_call 105; refine (hslot _).mono ?_; rintro e y1 ⟨rfl, rfl⟩))
    all_goals
      go_wp2_with fail
      go_meet
      exact ⟨heap_old (heap_set1 (heap_set1 G0.out)), heap_old ((But.two W w.heap.size 2 3 (.int .i64 x.rq) (.int .i64 x.vl)).heap G2.out (by simp)),
        (below_more ((HBW.out.setCell (p := ⟨w.heap.size, 2, none⟩) (Nat.le_refl _) _).setCell (p := ⟨w.heap.size, 3, none⟩) (Nat.le_refl _) _) _).drew⟩
  case rest =>
    obtain ⟨gx, gr, hbx⟩ := hcut.out
    have HBX := Lib.hid hbx; have GX := Lib.hid gx; have GR := Lib.hid gr
    clear hcut hbx gx gr
    have ⟨Y, hY⟩ : ∃ y, y = wc := ⟨_, rfl⟩
    subst hY
    obtain ⟨c0, c1, c2, c3, c4, c5, c6, c7, c8, c9, c10, c11, c12, c13, f0, f1, f2, f3, f4, f5, f6, f7, f8, f9, f10, f11, f12, f13, hz⟩ := ring_at GX.out
    obtain ⟨d0, d1, d2, d3, d4, d5, d6, d7, d8, d9, d10, d11, d12, d13, e0, e1, e2, e3, e4, e5, e6, e7, e8, e9, e10, e11, e12, e13, hzd⟩ := ring_at GR.out
    go_wp2_with fail
    refine bodyPost_ret (v := .agg #[.int .i64 a0.rq, .int .i64 a0.vl, .int .i64 x.rq, .int .i64 x.vl, .int .i64 a2.rq, .int .i64 a2.vl, .int .i64 a3.rq, .int .i64 a3.vl, .int .i64 a4.rq, .int .i64 a4.vl, .int .i64 a5.rq, .int .i64 a5.vl, .int .i64 0, .int .i64 2]) (by simp [results, Try.results79, go_sem, d0, d1, d2, d3, d4, d5, d6, d7, d8, d9, d10, d11, d12, d13]) rfl ⟨rfl, ?_⟩
    (repeat (first | with_reducible exact HBX.out | refine Below.setCell ?_ (by simp <;> omega) _))

set_option maxRecDepth 100000 in
set_option maxHeartbeats 4000000 in
theorem with2_c (a0 a1 a2 a3 a4 a5 x : Sn) (w : World) :
    Calls Try.prog 79 #[.agg #[.int .i64 a0.rq, .int .i64 a0.vl, .int .i64 a1.rq, .int .i64 a1.vl, .int .i64 a2.rq, .int .i64 a2.vl, .int .i64 a3.rq, .int .i64 a3.vl, .int .i64 a4.rq, .int .i64 a4.vl, .int .i64 a5.rq, .int .i64 a5.vl, .int .i64 0, .int .i64 2], sv x] w fun e w' => e = .returned (.agg #[.int .i64 a0.rq, .int .i64 a0.vl, .int .i64 a1.rq, .int .i64 a1.vl, .int .i64 x.rq, .int .i64 x.vl, .int .i64 a3.rq, .int .i64 a3.vl, .int .i64 a4.rq, .int .i64 a4.vl, .int .i64 a5.rq, .int .i64 a5.vl, .int .i64 0, .int .i64 3]) ∧ Below w.heap.size w w' := by
  go_enter Try.func79, Try.ntmps79
  go_upto_region 1 with (fail)
  generalize hW : (((w.alloc (.cells #[.int .i64 a0.rq, .int .i64 a0.vl, .int .i64 a1.rq, .int .i64 a1.vl, .int .i64 a2.rq, .int .i64 a2.vl, .int .i64 a3.rq, .int .i64 a3.vl, .int .i64 a4.rq, .int .i64 a4.vl, .int .i64 a5.rq, .int .i64 a5.vl, .int .i64 0, .int .i64 2] 114)).alloc (sbox x)).alloc (.cells #[.int .i64 0, .int .i64 0, .int .i64 0, .int .i64 0, .int .i64 0, .int .i64 0, .int .i64 0, .int .i64 0, .int .i64 0, .int .i64 0, .int .i64 0, .int .i64 0, .int .i64 0, .int .i64 0] 114)) = W
  have HBW : Hid (Below w.heap.size w W) := by rw [← hW]; exact below_more (below_more (below_new _) _) _
  have G0 : Hid (W.heap[w.heap.size]? = some (.cells #[.int .i64 a0.rq, .int .i64 a0.vl, .int .i64 a1.rq, .int .i64 a1.vl, .int .i64 a2.rq, .int .i64 a2.vl, .int .i64 a3.rq, .int .i64 a3.vl, .int .i64 a4.rq, .int .i64 a4.vl, .int .i64 a5.rq, .int .i64 a5.vl, .int .i64 0, .int .i64 2] 114 (0, 0))) := by rw [← hW]; exact heap_old (heap_old (heap_new w _ rfl))
  have G1 : Hid (W.heap[w.heap.size + 1]? = some (.cells #[.int .i64 x.rq, .int .i64 x.vl] 64 (0, 0))) := by rw [← hW]; exact heap_old (heap_new _ _ (by simp))
  have G2 : Hid (W.heap[w.heap.size + 2]? = some (.cells #[.int .i64 0, .int .i64 0, .int .i64 0, .int .i64 0, .int .i64 0, .int .i64 0, .int .i64 0, .int .i64 0, .int .i64 0, .int .i64 0, .int .i64 0, .int .i64 0, .int .i64 0, .int .i64 0] 114 (0, 0))) := by rw [← hW]; exact heap_new _ _ (by simp)
  clear hW
  go_cut [8] (fun _ wc => Hid (RingMid w #[.int .i64 a0.rq, .int .i64 a0.vl, .int .i64 a1.rq, .int .i64 a1.vl, .int .i64 x.rq, .int .i64 x.vl, .int .i64 a3.rq, .int .i64 a3.vl, .int .i64 a4.rq, .int .i64 a4.vl, .int .i64 a5.rq, .int .i64 a5.vl, .int .i64 0, .int .i64 2] wc))
  case first =>
    obtain ⟨c0, c1, c2, c3, c4, c5, c6, c7, c8, c9, c10, c11, c12, c13, f0, f1, f2, f3, f4, f5, f6, f7, f8, f9, f10, f11, f12, f13, hz⟩ := ring_at G0.out
    obtain ⟨x0, x1, _, _, hzx⟩ := pair_at5 G1.out
    have hslot := fun W' => slot_c [a0, a1, a2, a3, a4, a5] 0 2 2 W' (by omega) (by omega) (by omega) (by omega)
    go_region_law ((go_simp; go_at_call 105; refine (hslot _).mono ?_; rintro e y1 ⟨rfl, rfl⟩))
    all_goals
      go_wp2_with fail
      go_meet
      exact ⟨heap_old (heap_set1 (heap_set1 G0.out)), heap_old ((But.two W w.heap.size 4 5 (.int .i64 x.rq) (.int .i64 x.vl)).heap G2.out (by simp)),
        (below_more ((HBW.out.setCell (p := ⟨w.heap.size, 4, none⟩) (Nat.le_refl _) _).setCell (p := ⟨w.heap.size, 5, none⟩) (Nat.le_refl _) _) _).drew⟩
  case rest =>
    obtain ⟨gx, gr, hbx⟩ := hcut.out
    have HBX := Lib.hid hbx; have GX := Lib.hid gx; have GR := Lib.hid gr
    clear hcut hbx gx gr
    have ⟨Y, hY⟩ : ∃ y, y = wc := ⟨_, rfl⟩
    subst hY
    obtain ⟨c0, c1, c2, c3, c4, c5, c6, c7, c8, c9, c10, c11, c12, c13, f0, f1, f2, f3, f4, f5, f6, f7, f8, f9, f10, f11, f12, f13, hz⟩ := ring_at GX.out
    obtain ⟨d0, d1, d2, d3, d4, d5, d6, d7, d8, d9, d10, d11, d12, d13, e0, e1, e2, e3, e4, e5, e6, e7, e8, e9, e10, e11, e12, e13, hzd⟩ := ring_at GR.out
    go_wp2_with fail
    refine bodyPost_ret (v := .agg #[.int .i64 a0.rq, .int .i64 a0.vl, .int .i64 a1.rq, .int .i64 a1.vl, .int .i64 x.rq, .int .i64 x.vl, .int .i64 a3.rq, .int .i64 a3.vl, .int .i64 a4.rq, .int .i64 a4.vl, .int .i64 a5.rq, .int .i64 a5.vl, .int .i64 0, .int .i64 3]) (by simp [results, Try.results79, go_sem, d0, d1, d2, d3, d4, d5, d6, d7, d8, d9, d10, d11, d12, d13]) rfl ⟨rfl, ?_⟩
    (repeat (first | with_reducible exact HBX.out | refine Below.setCell ?_ (by simp <;> omega) _))

set_option maxRecDepth 100000 in
set_option maxHeartbeats 4000000 in
theorem with3_c (a0 a1 a2 a3 a4 a5 x : Sn) (w : World) :
    Calls Try.prog 79 #[.agg #[.int .i64 a0.rq, .int .i64 a0.vl, .int .i64 a1.rq, .int .i64 a1.vl, .int .i64 a2.rq, .int .i64 a2.vl, .int .i64 a3.rq, .int .i64 a3.vl, .int .i64 a4.rq, .int .i64 a4.vl, .int .i64 a5.rq, .int .i64 a5.vl, .int .i64 0, .int .i64 3], sv x] w fun e w' => e = .returned (.agg #[.int .i64 a0.rq, .int .i64 a0.vl, .int .i64 a1.rq, .int .i64 a1.vl, .int .i64 a2.rq, .int .i64 a2.vl, .int .i64 x.rq, .int .i64 x.vl, .int .i64 a4.rq, .int .i64 a4.vl, .int .i64 a5.rq, .int .i64 a5.vl, .int .i64 0, .int .i64 4]) ∧ Below w.heap.size w w' := by
  go_enter Try.func79, Try.ntmps79
  go_upto_region 1 with (fail)
  generalize hW : (((w.alloc (.cells #[.int .i64 a0.rq, .int .i64 a0.vl, .int .i64 a1.rq, .int .i64 a1.vl, .int .i64 a2.rq, .int .i64 a2.vl, .int .i64 a3.rq, .int .i64 a3.vl, .int .i64 a4.rq, .int .i64 a4.vl, .int .i64 a5.rq, .int .i64 a5.vl, .int .i64 0, .int .i64 3] 114)).alloc (sbox x)).alloc (.cells #[.int .i64 0, .int .i64 0, .int .i64 0, .int .i64 0, .int .i64 0, .int .i64 0, .int .i64 0, .int .i64 0, .int .i64 0, .int .i64 0, .int .i64 0, .int .i64 0, .int .i64 0, .int .i64 0] 114)) = W
  have HBW : Hid (Below w.heap.size w W) := by rw [← hW]; exact below_more (below_more (below_new _) _) _
  have G0 : Hid (W.heap[w.heap.size]? = some (.cells #[.int .i64 a0.rq, .int .i64 a0.vl, .int .i64 a1.rq, .int .i64 a1.vl, .int .i64 a2.rq, .int .i64 a2.vl, .int .i64 a3.rq, .int .i64 a3.vl, .int .i64 a4.rq, .int .i64 a4.vl, .int .i64 a5.rq, .int .i64 a5.vl, .int .i64 0, .int .i64 3] 114 (0, 0))) := by rw [← hW]; exact heap_old (heap_old (heap_new w _ rfl))
  have G1 : Hid (W.heap[w.heap.size + 1]? = some (.cells #[.int .i64 x.rq, .int .i64 x.vl] 64 (0, 0))) := by rw [← hW]; exact heap_old (heap_new _ _ (by simp))
  have G2 : Hid (W.heap[w.heap.size + 2]? = some (.cells #[.int .i64 0, .int .i64 0, .int .i64 0, .int .i64 0, .int .i64 0, .int .i64 0, .int .i64 0, .int .i64 0, .int .i64 0, .int .i64 0, .int .i64 0, .int .i64 0, .int .i64 0, .int .i64 0] 114 (0, 0))) := by rw [← hW]; exact heap_new _ _ (by simp)
  clear hW
  go_cut [8] (fun _ wc => Hid (RingMid w #[.int .i64 a0.rq, .int .i64 a0.vl, .int .i64 a1.rq, .int .i64 a1.vl, .int .i64 a2.rq, .int .i64 a2.vl, .int .i64 x.rq, .int .i64 x.vl, .int .i64 a4.rq, .int .i64 a4.vl, .int .i64 a5.rq, .int .i64 a5.vl, .int .i64 0, .int .i64 3] wc))
  case first =>
    obtain ⟨c0, c1, c2, c3, c4, c5, c6, c7, c8, c9, c10, c11, c12, c13, f0, f1, f2, f3, f4, f5, f6, f7, f8, f9, f10, f11, f12, f13, hz⟩ := ring_at G0.out
    obtain ⟨x0, x1, _, _, hzx⟩ := pair_at5 G1.out
    have hslot := fun W' => slot_c [a0, a1, a2, a3, a4, a5] 0 3 3 W' (by omega) (by omega) (by omega) (by omega)
    go_region_law ((go_simp; go_at_call 105; refine (hslot _).mono ?_; rintro e y1 ⟨rfl, rfl⟩))
    all_goals
      go_wp2_with fail
      go_meet
      exact ⟨heap_old (heap_set1 (heap_set1 G0.out)), heap_old ((But.two W w.heap.size 6 7 (.int .i64 x.rq) (.int .i64 x.vl)).heap G2.out (by simp)),
        (below_more ((HBW.out.setCell (p := ⟨w.heap.size, 6, none⟩) (Nat.le_refl _) _).setCell (p := ⟨w.heap.size, 7, none⟩) (Nat.le_refl _) _) _).drew⟩
  case rest =>
    obtain ⟨gx, gr, hbx⟩ := hcut.out
    have HBX := Lib.hid hbx; have GX := Lib.hid gx; have GR := Lib.hid gr
    clear hcut hbx gx gr
    have ⟨Y, hY⟩ : ∃ y, y = wc := ⟨_, rfl⟩
    subst hY
    obtain ⟨c0, c1, c2, c3, c4, c5, c6, c7, c8, c9, c10, c11, c12, c13, f0, f1, f2, f3, f4, f5, f6, f7, f8, f9, f10, f11, f12, f13, hz⟩ := ring_at GX.out
    obtain ⟨d0, d1, d2, d3, d4, d5, d6, d7, d8, d9, d10, d11, d12, d13, e0, e1, e2, e3, e4, e5, e6, e7, e8, e9, e10, e11, e12, e13, hzd⟩ := ring_at GR.out
    go_wp2_with fail
    refine bodyPost_ret (v := .agg #[.int .i64 a0.rq, .int .i64 a0.vl, .int .i64 a1.rq, .int .i64 a1.vl, .int .i64 a2.rq, .int .i64 a2.vl, .int .i64 x.rq, .int .i64 x.vl, .int .i64 a4.rq, .int .i64 a4.vl, .int .i64 a5.rq, .int .i64 a5.vl, .int .i64 0, .int .i64 4]) (by simp [results, Try.results79, go_sem, d0, d1, d2, d3, d4, d5, d6, d7, d8, d9, d10, d11, d12, d13]) rfl ⟨rfl, ?_⟩
    (repeat (first | with_reducible exact HBX.out | refine Below.setCell ?_ (by simp <;> omega) _))

set_option maxRecDepth 100000 in
set_option maxHeartbeats 4000000 in
theorem with4_c (a0 a1 a2 a3 a4 a5 x : Sn) (w : World) :
    Calls Try.prog 79 #[.agg #[.int .i64 a0.rq, .int .i64 a0.vl, .int .i64 a1.rq, .int .i64 a1.vl, .int .i64 a2.rq, .int .i64 a2.vl, .int .i64 a3.rq, .int .i64 a3.vl, .int .i64 a4.rq, .int .i64 a4.vl, .int .i64 a5.rq, .int .i64 a5.vl, .int .i64 0, .int .i64 4], sv x] w fun e w' => e = .returned (.agg #[.int .i64 a0.rq, .int .i64 a0.vl, .int .i64 a1.rq, .int .i64 a1.vl, .int .i64 a2.rq, .int .i64 a2.vl, .int .i64 a3.rq, .int .i64 a3.vl, .int .i64 x.rq, .int .i64 x.vl, .int .i64 a5.rq, .int .i64 a5.vl, .int .i64 0, .int .i64 5]) ∧ Below w.heap.size w w' := by
  go_enter Try.func79, Try.ntmps79
  go_upto_region 1 with (fail)
  generalize hW : (((w.alloc (.cells #[.int .i64 a0.rq, .int .i64 a0.vl, .int .i64 a1.rq, .int .i64 a1.vl, .int .i64 a2.rq, .int .i64 a2.vl, .int .i64 a3.rq, .int .i64 a3.vl, .int .i64 a4.rq, .int .i64 a4.vl, .int .i64 a5.rq, .int .i64 a5.vl, .int .i64 0, .int .i64 4] 114)).alloc (sbox x)).alloc (.cells #[.int .i64 0, .int .i64 0, .int .i64 0, .int .i64 0, .int .i64 0, .int .i64 0, .int .i64 0, .int .i64 0, .int .i64 0, .int .i64 0, .int .i64 0, .int .i64 0, .int .i64 0, .int .i64 0] 114)) = W
  have HBW : Hid (Below w.heap.size w W) := by rw [← hW]; exact below_more (below_more (below_new _) _) _
  have G0 : Hid (W.heap[w.heap.size]? = some (.cells #[.int .i64 a0.rq, .int .i64 a0.vl, .int .i64 a1.rq, .int .i64 a1.vl, .int .i64 a2.rq, .int .i64 a2.vl, .int .i64 a3.rq, .int .i64 a3.vl, .int .i64 a4.rq, .int .i64 a4.vl, .int .i64 a5.rq, .int .i64 a5.vl, .int .i64 0, .int .i64 4] 114 (0, 0))) := by rw [← hW]; exact heap_old (heap_old (heap_new w _ rfl))
  have G1 : Hid (W.heap[w.heap.size + 1]? = some (.cells #[.int .i64 x.rq, .int .i64 x.vl] 64 (0, 0))) := by rw [← hW]; exact heap_old (heap_new _ _ (by simp))
  have G2 : Hid (W.heap[w.heap.size + 2]? = some (.cells #[.int .i64 0, .int .i64 0, .int .i64 0, .int .i64 0, .int .i64 0, .int .i64 0, .int .i64 0, .int .i64 0, .int .i64 0, .int .i64 0, .int .i64 0, .int .i64 0, .int .i64 0, .int .i64 0] 114 (0, 0))) := by rw [← hW]; exact heap_new _ _ (by simp)
  clear hW
  go_cut [8] (fun _ wc => Hid (RingMid w #[.int .i64 a0.rq, .int .i64 a0.vl, .int .i64 a1.rq, .int .i64 a1.vl, .int .i64 a2.rq, .int .i64 a2.vl, .int .i64 a3.rq, .int .i64 a3.vl, .int .i64 x.rq, .int .i64 x.vl, .int .i64 a5.rq, .int .i64 a5.vl, .int .i64 0, .int .i64 4] wc))
  case first =>
    obtain ⟨c0, c1, c2, c3, c4, c5, c6, c7, c8, c9, c10, c11, c12, c13, f0, f1, f2, f3, f4, f5, f6, f7, f8, f9, f10, f11, f12, f13, hz⟩ := ring_at G0.out
    obtain ⟨x0, x1, _, _, hzx⟩ := pair_at5 G1.out
    have hslot := fun W' => slot_c [a0, a1, a2, a3, a4, a5] 0 4 4 W' (by omega) (by omega) (by omega) (by omega)
    go_region_law ((go_simp; go_at_call 105; refine (hslot _).mono ?_; rintro e y1 ⟨rfl, rfl⟩))
    all_goals
      go_wp2_with fail
      go_meet
      exact ⟨heap_old (heap_set1 (heap_set1 G0.out)), heap_old ((But.two W w.heap.size 8 9 (.int .i64 x.rq) (.int .i64 x.vl)).heap G2.out (by simp)),
        (below_more ((HBW.out.setCell (p := ⟨w.heap.size, 8, none⟩) (Nat.le_refl _) _).setCell (p := ⟨w.heap.size, 9, none⟩) (Nat.le_refl _) _) _).drew⟩
  case rest =>
    obtain ⟨gx, gr, hbx⟩ := hcut.out
    have HBX := Lib.hid hbx; have GX := Lib.hid gx; have GR := Lib.hid gr
    clear hcut hbx gx gr
    have ⟨Y, hY⟩ : ∃ y, y = wc := ⟨_, rfl⟩
    subst hY
    obtain ⟨c0, c1, c2, c3, c4, c5, c6, c7, c8, c9, c10, c11, c12, c13, f0, f1, f2, f3, f4, f5, f6, f7, f8, f9, f10, f11, f12, f13, hz⟩ := ring_at GX.out
    obtain ⟨d0, d1, d2, d3, d4, d5, d6, d7, d8, d9, d10, d11, d12, d13, e0, e1, e2, e3, e4, e5, e6, e7, e8, e9, e10, e11, e12, e13, hzd⟩ := ring_at GR.out
    go_wp2_with fail
    refine bodyPost_ret (v := .agg #[.int .i64 a0.rq, .int .i64 a0.vl, .int .i64 a1.rq, .int .i64 a1.vl, .int .i64 a2.rq, .int .i64 a2.vl, .int .i64 a3.rq, .int .i64 a3.vl, .int .i64 x.rq, .int .i64 x.vl, .int .i64 a5.rq, .int .i64 a5.vl, .int .i64 0, .int .i64 5]) (by simp [results, Try.results79, go_sem, d0, d1, d2, d3, d4, d5, d6, d7, d8, d9, d10, d11, d12, d13]) rfl ⟨rfl, ?_⟩
    (repeat (first | with_reducible exact HBX.out | refine Below.setCell ?_ (by simp <;> omega) _))

set_option maxRecDepth 100000 in
set_option maxHeartbeats 4000000 in
theorem with5_c (a0 a1 a2 a3 a4 a5 x : Sn) (w : World) :
    Calls Try.prog 79 #[.agg #[.int .i64 a0.rq, .int .i64 a0.vl, .int .i64 a1.rq, .int .i64 a1.vl, .int .i64 a2.rq, .int .i64 a2.vl, .int .i64 a3.rq, .int .i64 a3.vl, .int .i64 a4.rq, .int .i64 a4.vl, .int .i64 a5.rq, .int .i64 a5.vl, .int .i64 0, .int .i64 5], sv x] w fun e w' => e = .returned (.agg #[.int .i64 a0.rq, .int .i64 a0.vl, .int .i64 a1.rq, .int .i64 a1.vl, .int .i64 a2.rq, .int .i64 a2.vl, .int .i64 a3.rq, .int .i64 a3.vl, .int .i64 a4.rq, .int .i64 a4.vl, .int .i64 x.rq, .int .i64 x.vl, .int .i64 0, .int .i64 6]) ∧ Below w.heap.size w w' := by
  go_enter Try.func79, Try.ntmps79
  go_upto_region 1 with (fail)
  generalize hW : (((w.alloc (.cells #[.int .i64 a0.rq, .int .i64 a0.vl, .int .i64 a1.rq, .int .i64 a1.vl, .int .i64 a2.rq, .int .i64 a2.vl, .int .i64 a3.rq, .int .i64 a3.vl, .int .i64 a4.rq, .int .i64 a4.vl, .int .i64 a5.rq, .int .i64 a5.vl, .int .i64 0, .int .i64 5] 114)).alloc (sbox x)).alloc (.cells #[.int .i64 0, .int .i64 0, .int .i64 0, .int .i64 0, .int .i64 0, .int .i64 0, .int .i64 0, .int .i64 0, .int .i64 0, .int .i64 0, .int .i64 0, .int .i64 0, .int .i64 0, .int .i64 0] 114)) = W
  have HBW : Hid (Below w.heap.size w W) := by rw [← hW]; exact below_more (below_more (below_new _) _) _
  have G0 : Hid (W.heap[w.heap.size]? = some (.cells #[.int .i64 a0.rq, .int .i64 a0.vl, .int .i64 a1.rq, .int .i64 a1.vl, .int .i64 a2.rq, .int .i64 a2.vl, .int .i64 a3.rq, .int .i64 a3.vl, .int .i64 a4.rq, .int .i64 a4.vl, .int .i64 a5.rq, .int .i64 a5.vl, .int .i64 0, .int .i64 5] 114 (0, 0))) := by rw [← hW]; exact heap_old (heap_old (heap_new w _ rfl))
  have G1 : Hid (W.heap[w.heap.size + 1]? = some (.cells #[.int .i64 x.rq, .int .i64 x.vl] 64 (0, 0))) := by rw [← hW]; exact heap_old (heap_new _ _ (by simp))
  have G2 : Hid (W.heap[w.heap.size + 2]? = some (.cells #[.int .i64 0, .int .i64 0, .int .i64 0, .int .i64 0, .int .i64 0, .int .i64 0, .int .i64 0, .int .i64 0, .int .i64 0, .int .i64 0, .int .i64 0, .int .i64 0, .int .i64 0, .int .i64 0] 114 (0, 0))) := by rw [← hW]; exact heap_new _ _ (by simp)
  clear hW
  go_cut [8] (fun _ wc => Hid (RingMid w #[.int .i64 a0.rq, .int .i64 a0.vl, .int .i64 a1.rq, .int .i64 a1.vl, .int .i64 a2.rq, .int .i64 a2.vl, .int .i64 a3.rq, .int .i64 a3.vl, .int .i64 a4.rq, .int .i64 a4.vl, .int .i64 x.rq, .int .i64 x.vl, .int .i64 0, .int .i64 5] wc))
  case first =>
    obtain ⟨c0, c1, c2, c3, c4, c5, c6, c7, c8, c9, c10, c11, c12, c13, f0, f1, f2, f3, f4, f5, f6, f7, f8, f9, f10, f11, f12, f13, hz⟩ := ring_at G0.out
    obtain ⟨x0, x1, _, _, hzx⟩ := pair_at5 G1.out
    have hslot := fun W' => slot_c [a0, a1, a2, a3, a4, a5] 0 5 5 W' (by omega) (by omega) (by omega) (by omega)
    go_region_law ((go_simp; go_at_call 105; refine (hslot _).mono ?_; rintro e y1 ⟨rfl, rfl⟩))
    all_goals
      go_wp2_with fail
      go_meet
      exact ⟨heap_old (heap_set1 (heap_set1 G0.out)), heap_old ((But.two W w.heap.size 10 11 (.int .i64 x.rq) (.int .i64 x.vl)).heap G2.out (by simp)),
        (below_more ((HBW.out.setCell (p := ⟨w.heap.size, 10, none⟩) (Nat.le_refl _) _).setCell (p := ⟨w.heap.size, 11, none⟩) (Nat.le_refl _) _) _).drew⟩
  case rest =>
    obtain ⟨gx, gr, hbx⟩ := hcut.out
    have HBX := Lib.hid hbx; have GX := Lib.hid gx; have GR := Lib.hid gr
    clear hcut hbx gx gr
    have ⟨Y, hY⟩ : ∃ y, y = wc := ⟨_, rfl⟩
    subst hY
    obtain ⟨c0, c1, c2, c3, c4, c5, c6, c7, c8, c9, c10, c11, c12, c13, f0, f1, f2, f3, f4, f5, f6, f7, f8, f9, f10, f11, f12, f13, hz⟩ := ring_at GX.out
    obtain ⟨d0, d1, d2, d3, d4, d5, d6, d7, d8, d9, d10, d11, d12, d13, e0, e1, e2, e3, e4, e5, e6, e7, e8, e9, e10, e11, e12, e13, hzd⟩ := ring_at GR.out
    go_wp2_with fail
    refine bodyPost_ret (v := .agg #[.int .i64 a0.rq, .int .i64 a0.vl, .int .i64 a1.rq, .int .i64 a1.vl, .int .i64 a2.rq, .int .i64 a2.vl, .int .i64 a3.rq, .int .i64 a3.vl, .int .i64 a4.rq, .int .i64 a4.vl, .int .i64 x.rq, .int .i64 x.vl, .int .i64 0, .int .i64 6]) (by simp [results, Try.results79, go_sem, d0, d1, d2, d3, d4, d5, d6, d7, d8, d9, d10, d11, d12, d13]) rfl ⟨rfl, ?_⟩
    (repeat (first | with_reducible exact HBX.out | refine Below.setCell ?_ (by simp <;> omega) _))

set_option maxRecDepth 100000 in
set_option maxHeartbeats 4000000 in
theorem withFull_c (a0 a1 a2 a3 a4 a5 x : Sn) (w : World) :
    Calls Try.prog 79 #[.agg #[.int .i64 a0.rq, .int .i64 a0.vl, .int .i64 a1.rq, .int .i64 a1.vl, .int .i64 a2.rq, .int .i64 a2.vl, .int .i64 a3.rq, .int .i64 a3.vl, .int .i64 a4.rq, .int .i64 a4.vl, .int .i64 a5.rq, .int .i64 a5.vl, .int .i64 0, .int .i64 6], sv x] w fun e w' => e = .returned (.agg #[.int .i64 x.rq, .int .i64 x.vl, .int .i64 a1.rq, .int .i64 a1.vl, .int .i64 a2.rq, .int .i64 a2.vl, .int .i64 a3.rq, .int .i64 a3.vl, .int .i64 a4.rq, .int .i64 a4.vl, .int .i64 a5.rq, .int .i64 a5.vl, .int .i64 1, .int .i64 6]) ∧ Below w.heap.size w w' := by
  go_enter Try.func79, Try.ntmps79
  go_upto_region 1 with (fail)
  generalize hW : (((w.alloc (.cells #[.int .i64 a0.rq, .int .i64 a0.vl, .int .i64 a1.rq, .int .i64 a1.vl, .int .i64 a2.rq, .int .i64 a2.vl, .int .i64 a3.rq, .int .i64 a3.vl, .int .i64 a4.rq, .int .i64 a4.vl, .int .i64 a5.rq, .int .i64 a5.vl, .int .i64 0, .int .i64 6] 114)).alloc (sbox x)).alloc (.cells #[.int .i64 0, .int .i64 0, .int .i64 0, .int .i64 0, .int .i64 0, .int .i64 0, .int .i64 0, .int .i64 0, .int .i64 0, .int .i64 0, .int .i64 0, .int .i64 0, .int .i64 0, .int .i64 0] 114)) = W
  have HBW : Hid (Below w.heap.size w W) := by rw [← hW]; exact below_more (below_more (below_new _) _) _
  have G0 : Hid (W.heap[w.heap.size]? = some (.cells #[.int .i64 a0.rq, .int .i64 a0.vl, .int .i64 a1.rq, .int .i64 a1.vl, .int .i64 a2.rq, .int .i64 a2.vl, .int .i64 a3.rq, .int .i64 a3.vl, .int .i64 a4.rq, .int .i64 a4.vl, .int .i64 a5.rq, .int .i64 a5.vl, .int .i64 0, .int .i64 6] 114 (0, 0))) := by rw [← hW]; exact heap_old (heap_old (heap_new w _ rfl))
  have G1 : Hid (W.heap[w.heap.size + 1]? = some (.cells #[.int .i64 x.rq, .int .i64 x.vl] 64 (0, 0))) := by rw [← hW]; exact heap_old (heap_new _ _ (by simp))
  have G2 : Hid (W.heap[w.heap.size + 2]? = some (.cells #[.int .i64 0, .int .i64 0, .int .i64 0, .int .i64 0, .int .i64 0, .int .i64 0, .int .i64 0, .int .i64 0, .int .i64 0, .int .i64 0, .int .i64 0, .int .i64 0, .int .i64 0, .int .i64 0] 114 (0, 0))) := by rw [← hW]; exact heap_new _ _ (by simp)
  clear hW
  go_cut [8] (fun _ wc => Hid (RingMid w #[.int .i64 x.rq, .int .i64 x.vl, .int .i64 a1.rq, .int .i64 a1.vl, .int .i64 a2.rq, .int .i64 a2.vl, .int .i64 a3.rq, .int .i64 a3.vl, .int .i64 a4.rq, .int .i64 a4.vl, .int .i64 a5.rq, .int .i64 a5.vl, .int .i64 0, .int .i64 6] wc))
  case first =>
    obtain ⟨c0, c1, c2, c3, c4, c5, c6, c7, c8, c9, c10, c11, c12, c13, f0, f1, f2, f3, f4, f5, f6, f7, f8, f9, f10, f11, f12, f13, hz⟩ := ring_at G0.out
    obtain ⟨x0, x1, _, _, hzx⟩ := pair_at5 G1.out
    have hslot := fun W' => slot_c [a0, a1, a2, a3, a4, a5] 0 6 6 W' (by omega) (by omega) (by omega) (by omega)
    go_region_law ((go_simp; go_at_call 105; refine (hslot _).mono ?_; rintro e y1 ⟨rfl, rfl⟩))
    all_goals
      go_wp2_with fail
      go_meet
      exact ⟨heap_old (heap_set1 (heap_set1 G0.out)), heap_old ((But.two W w.heap.size 0 1 (.int .i64 x.rq) (.int .i64 x.vl)).heap G2.out (by simp)),
        (below_more ((HBW.out.setCell (p := ⟨w.heap.size, 0, none⟩) (Nat.le_refl _) _).setCell (p := ⟨w.heap.size, 1, none⟩) (Nat.le_refl _) _) _).drew⟩
  case rest =>
    obtain ⟨gx, gr, hbx⟩ := hcut.out
    have HBX := Lib.hid hbx; have GX := Lib.hid gx; have GR := Lib.hid gr
    clear hcut hbx gx gr
    have ⟨Y, hY⟩ : ∃ y, y = wc := ⟨_, rfl⟩
    subst hY
    obtain ⟨c0, c1, c2, c3, c4, c5, c6, c7, c8, c9, c10, c11, c12, c13, f0, f1, f2, f3, f4, f5, f6, f7, f8, f9, f10, f11, f12, f13, hz⟩ := ring_at GX.out
    obtain ⟨d0, d1, d2, d3, d4, d5, d6, d7, d8, d9, d10, d11, d12, d13, e0, e1, e2, e3, e4, e5, e6, e7, e8, e9, e10, e11, e12, e13, hzd⟩ := ring_at GR.out
    have hslot := fun W' => slot_c [x, a1, a2, a3, a4, a5] 0 6 1 W' (by omega) (by omega) (by omega) (by omega)
    go_wp2_with fail
    refine (hslot _).mono ?_
    rintro e y1 ⟨rfl, rfl⟩
    go_wp2_with fail
    refine bodyPost_ret (v := .agg #[.int .i64 x.rq, .int .i64 x.vl, .int .i64 a1.rq, .int .i64 a1.vl, .int .i64 a2.rq, .int .i64 a2.vl, .int .i64 a3.rq, .int .i64 a3.vl, .int .i64 a4.rq, .int .i64 a4.vl, .int .i64 a5.rq, .int .i64 a5.vl, .int .i64 1, .int .i64 6]) (by simp [results, Try.results79, go_sem, d0, d1, d2, d3, d4, d5, d6, d7, d8, d9, d10, d11, d12, d13, hz, hzd]) rfl ⟨rfl, ?_⟩
    (repeat (first | with_reducible exact HBX.out | with_reducible refine below_more ?_ _ | refine Below.setCell ?_ (by simp <;> omega) _))

end Go.Proofs.Ytfohlopbfanaeaa