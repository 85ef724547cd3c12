/-
  Contracts of the model's functions of chapter 3, fourth part: an operation read from its bytes.
-/
import Derived.Test.YtocllaendofndaaDoorSpec3b
import Derived.Test.YtocllaendofndaaDoorLawReadOp
namespace Go.Proofs.YtocllaendofndaaDoor
open Go.RowKit

theorem opat_of {w : World} {g : Nat} {o : O} (h : w.heap[g]? = some (obox o)) : OpAt w g 0 o := ⟨heap_lt h, cell_of_heap h, cell_of_heap h, cell_of_heap h, cell_of_heap h, cell_of_heap h, cell_of_heap h, cell_of_heap h⟩
theorem op_cells0 {w : World} {g : Nat} {o : O} (h : w.heap[g]? = some (obox o)) :
    w.cell? ⟨g, 0, none⟩ = some (.int .i64 o.k) ∧ w.cell? ⟨g, 1, none⟩ = some (.int .i64 o.rq) ∧ w.cell? ⟨g, 2, none⟩ = some (.int .i64 o.lc) ∧ w.cell? ⟨g, 3, none⟩ = some (.int .i64 o.tt) ∧ w.cell? ⟨g, 4, none⟩ = some (.int .i64 o.sk) ∧ w.cell? ⟨g, 5, none⟩ = some (.int .i64 o.qt) ∧ w.cell? ⟨g, 6, none⟩ = some (.int .i64 o.hd) ∧ g < w.heap.size :=
  ⟨cell_of_heap h, cell_of_heap h, cell_of_heap h, cell_of_heap h, cell_of_heap h, cell_of_heap h, cell_of_heap h, heap_lt h⟩
set_option maxRecDepth 100000 in
set_option maxHeartbeats 4000000 in
theorem l3Of_c (A : Option Addr) (c : Nat) (o : O) (w : World) (fp : List Nat) (ha : Rd w 1 (.slice A 7 c) (cellsOf .i64 (opL o)) fp) :
    Calls Tryd.prog 54 #[.slice A 7 c] w fun e w' => e = .returned (ov o) ∧ Below w.heap.size w w' := by
  obtain ⟨A', n', c', hv, hl, hmx, hnc, hx⟩ := ha
  cases hv
  rcases hx with ⟨h, _⟩ | ⟨b, off, rfl, _, hb, hc⟩
  · cases h
  have c0 := hc 0 _ rfl
  have c1 := hc 1 _ rfl
  have c2 := hc 2 _ rfl
  have c3 := hc 3 _ rfl
  have c4 := hc 4 _ rfl
  have c5 := hc 5 _ rfl
  have c6 := hc 6 _ rfl
  rw [Nat.add_zero] at c0
  clear hc hl hmx
  go_enter Tryd.func54, Tryd.ntmps54
  go_upto_region 1 with (fail)
  have hg := heap_new w (obox ⟨0, 0, 0, 0, 0, 0, 0⟩) rfl
  have hB1 := below_new (w := w) (obox ⟨0, 0, 0, 0, 0, 0, 0⟩)
  generalize w.alloc (obox ⟨0, 0, 0, 0, 0, 0, 0⟩) = W1 at *
  have hld : ∀ w', Below w.heap.size w w' → w'.cell? ⟨b, off, none⟩ = some (.int .i64 o.k) ∧ w'.cell? ⟨b, off + 1, none⟩ = some (.int .i64 o.rq) ∧ w'.cell? ⟨b, off + 2, none⟩ = some (.int .i64 o.lc) ∧ w'.cell? ⟨b, off + 3, none⟩ = some (.int .i64 o.tt) ∧ w'.cell? ⟨b, off + 4, none⟩ = some (.int .i64 o.sk) ∧ w'.cell? ⟨b, off + 5, none⟩ = some (.int .i64 o.qt) ∧ w'.cell? ⟨b, off + 6, none⟩ = some (.int .i64 o.hd) := fun w' h => ⟨(h.cell (p := ⟨b, _, none⟩) hb).trans c0, (h.cell (p := ⟨b, _, none⟩) hb).trans c1, (h.cell (p := ⟨b, _, none⟩) hb).trans c2, (h.cell (p := ⟨b, _, none⟩) hb).trans c3, (h.cell (p := ⟨b, _, none⟩) hb).trans c4, (h.cell (p := ⟨b, _, none⟩) hb).trans c5, (h.cell (p := ⟨b, _, none⟩) hb).trans c6⟩
  have HLD := Lib.hid hld; clear hld
  refine wp_region_sched (fun w' => Below w.heap.size w w') [(0, true), (1, true), (2, true), (3, true), (4, true), (5, true), (6, true), (7, true), (8, true), (9, true), (10, true), (11, true), (12, true), (13, true), (14, true), (15, true), (16, true), (17, true), (18, true), (19, true), (20, true), (21, true), (22, false)] (by kernel_rfl) (by kernel_rfl) (by kernel_rfl) (by kernel_rfl) (fun _ _ d _ _ h => by cases d <;> exact h) hB1.drew ?_
  simp only [opsOf, List.filterMap_cons, List.filterMap_nil, Option.map_some, List.getElem?_toArray, List.getElem?_cons_zero, List.getElem?_cons_succ]
  generalize hW0 : ({ heap := W1.heap, tape := W1.tape, drawn := W1.drawn + 1, os := W1.os, output := W1.output } : World) = v0
  have hv0 : Below w.heap.size w v0 := by rw [← hW0]; exact hB1.drew
  have hg0 : v0.heap[w.heap.size]? = some (obox ⟨0, 0, 0, 0, 0, 0, 0⟩) := by rw [← hW0]; exact hg
  obtain ⟨z0, z1, z2, z3, z4, z5, z6, hz⟩ := op_cells0 hg0
  have zf : ∀ i, v0.frozen? ⟨w.heap.size, i, none⟩ = false := fun i => frozen_of_heap hg0
  clear hW0
  refine sched_run (v := ?_) (by rfl) ?_ ?_
  rotate_left
  · (intro w' hS'; go_simp; try with_reducible rfl)
  try simp only [Act.put, List.setIfInBounds_toArray, List.set_cons_zero, List.set_cons_succ]
  refine sched_run (v := ?_) (by rfl) ?_ ?_
  rotate_left
  · (intro w' hS'; go_simp; try with_reducible rfl)
  try simp only [Act.put, List.setIfInBounds_toArray, List.set_cons_zero, List.set_cons_succ]
  refine sched_run (v := ?_) (by rfl) ?_ ?_
  rotate_left
  · (intro w' hS'; obtain ⟨a0, a1, a2, a3, a4, a5, a6⟩ := HLD.out w' hS'; go_simp; try with_reducible rfl)
  try simp only [Act.put, List.setIfInBounds_toArray, List.set_cons_zero, List.set_cons_succ]
  refine sched_run (v := ?_) (by rfl) ?_ ?_
  rotate_left
  · (intro w' hS'; go_simp; try with_reducible rfl)
  try simp only [Act.put, List.setIfInBounds_toArray, List.set_cons_zero, List.set_cons_succ]
  refine sched_run (v := ?_) (by rfl) ?_ ?_
  rotate_left
  · (intro w' hS'; go_simp; try with_reducible rfl)
  try simp only [Act.put, List.setIfInBounds_toArray, List.set_cons_zero, List.set_cons_succ]
  refine sched_run (v := ?_) (by rfl) ?_ ?_
  rotate_left
  · (intro w' hS'; obtain ⟨a0, a1, a2, a3, a4, a5, a6⟩ := HLD.out w' hS'; go_simp; try with_reducible rfl)
  try simp only [Act.put, List.setIfInBounds_toArray, List.set_cons_zero, List.set_cons_succ]
  refine sched_run (v := ?_) (by rfl) ?_ ?_
  rotate_left
  · (intro w' hS'; go_simp; try with_reducible rfl)
  try simp only [Act.put, List.setIfInBounds_toArray, List.set_cons_zero, List.set_cons_succ]
  refine sched_run (v := ?_) (by rfl) ?_ ?_
  rotate_left
  · (intro w' hS'; go_simp; try with_reducible rfl)
  try simp only [Act.put, List.setIfInBounds_toArray, List.set_cons_zero, List.set_cons_succ]
  refine sched_run (v := ?_) (by rfl) ?_ ?_
  rotate_left
  · (intro w' hS'; obtain ⟨a0, a1, a2, a3, a4, a5, a6⟩ := HLD.out w' hS'; go_simp; try with_reducible rfl)
  try simp only [Act.put, List.setIfInBounds_toArray, List.set_cons_zero, List.set_cons_succ]
  refine sched_run (v := ?_) (by rfl) ?_ ?_
  rotate_left
  · (intro w' hS'; go_simp; try with_reducible rfl)
  try simp only [Act.put, List.setIfInBounds_toArray, List.set_cons_zero, List.set_cons_succ]
  refine sched_run (v := ?_) (by rfl) ?_ ?_
  rotate_left
  · (intro w' hS'; go_simp; try with_reducible rfl)
  try simp only [Act.put, List.setIfInBounds_toArray, List.set_cons_zero, List.set_cons_succ]
  refine sched_run (v := ?_) (by rfl) ?_ ?_
  rotate_left
  · (intro w' hS'; obtain ⟨a0, a1, a2, a3, a4, a5, a6⟩ := HLD.out w' hS'; go_simp; try with_reducible rfl)
  try simp only [Act.put, List.setIfInBounds_toArray, List.set_cons_zero, List.set_cons_succ]
  refine sched_run (v := ?_) (by rfl) ?_ ?_
  rotate_left
  · (intro w' hS'; go_simp; try with_reducible rfl)
  try simp only [Act.put, List.setIfInBounds_toArray, List.set_cons_zero, List.set_cons_succ]
  refine sched_run (v := ?_) (by rfl) ?_ ?_
  rotate_left
  · (intro w' hS'; go_simp; try with_reducible rfl)
  try simp only [Act.put, List.setIfInBounds_toArray, List.set_cons_zero, List.set_cons_succ]
  refine sched_run (v := ?_) (by rfl) ?_ ?_
  rotate_left
  · (intro w' hS'; obtain ⟨a0, a1, a2, a3, a4, a5, a6⟩ := HLD.out w' hS'; go_simp; try with_reducible rfl)
  try simp only [Act.put, List.setIfInBounds_toArray, List.set_cons_zero, List.set_cons_succ]
  refine sched_run (v := ?_) (by rfl) ?_ ?_
  rotate_left
  · (intro w' hS'; go_simp; try with_reducible rfl)
  try simp only [Act.put, List.setIfInBounds_toArray, List.set_cons_zero, List.set_cons_succ]
  refine sched_run (v := ?_) (by rfl) ?_ ?_
  rotate_left
  · (intro w' hS'; go_simp; try with_reducible rfl)
  try simp only [Act.put, List.setIfInBounds_toArray, List.set_cons_zero, List.set_cons_succ]
  refine sched_run (v := ?_) (by rfl) ?_ ?_
  rotate_left
  · (intro w' hS'; obtain ⟨a0, a1, a2, a3, a4, a5, a6⟩ := HLD.out w' hS'; go_simp; try with_reducible rfl)
  try simp only [Act.put, List.setIfInBounds_toArray, List.set_cons_zero, List.set_cons_succ]
  refine sched_run (v := ?_) (by rfl) ?_ ?_
  rotate_left
  · (intro w' hS'; go_simp; try with_reducible rfl)
  try simp only [Act.put, List.setIfInBounds_toArray, List.set_cons_zero, List.set_cons_succ]
  refine sched_run (v := ?_) (by rfl) ?_ ?_
  rotate_left
  · (intro w' hS'; go_simp; try with_reducible rfl)
  try simp only [Act.put, List.setIfInBounds_toArray, List.set_cons_zero, List.set_cons_succ]
  refine sched_run (v := ?_) (by rfl) ?_ ?_
  rotate_left
  · (intro w' hS'; obtain ⟨a0, a1, a2, a3, a4, a5, a6⟩ := HLD.out w' hS'; go_simp; try with_reducible rfl)
  try simp only [Act.put, List.setIfInBounds_toArray, List.set_cons_zero, List.set_cons_succ]
  refine sched_run (v := ?_) (by rfl) ?_ ?_
  rotate_left
  · (intro w' hS'; go_simp; try with_reducible rfl)
  try simp only [Act.put, List.setIfInBounds_toArray, List.set_cons_zero, List.set_cons_succ]
  refine sched_call (by rfl) (fun K hK => ?_)
  go_simp
  refine hK _ _ ?_ ?_
  · exact ((below_set (below_set (below_set (below_set (below_set (below_set (below_set hv0 _ _) _ _) _ _) _ _) _ _) _ _) _ _))
  try simp only [Act.put, List.setIfInBounds_toArray, List.set_cons_zero, List.set_cons_succ]
  refine sched_done ?_
  go_wp2_with fail
  exact bodyPost_ret (v := ov o) (by simp [results, Tryd.results54, go_sem, z0, z1, z2, z3, z4, z5, z6]) rfl ⟨rfl, (below_set (below_set (below_set (below_set (below_set (below_set (below_set hv0 _ _) _ _) _ _) _ _) _ _) _ _) _ _)⟩

/-- What stands through the last statement of l3Read: the operation's block. -/
def S5 (w : World) (g : Nat) (o : O) (w' : World) : Prop := Below w.heap.size w w' ∧ w'.heap[g]? = some (obox o)
theorem S5.call {w v v' : World} {g : Nat} {o : O} (h : S5 w g o v) (hb : Below v.heap.size v v') : S5 w g o v' := ⟨h.1.trans (hb.mono h.1.size), (hb.block _ (heap_lt h.2)).trans h.2⟩
theorem S5.set {w v : World} {g i : Nat} {o : O} {u : Value} (h : S5 w g o v) (hg : w.heap.size < g) : S5 w g o (v.setCell ⟨w.heap.size, i, none⟩ u) := by
  refine ⟨below_set h.1 _ _, ?_⟩
  have := (But.setCell (bs := [w.heap.size]) (But.refl _ v) (p := ⟨w.heap.size, i, none⟩) (by simp) u).heap h.2 (by simp; omega)
  exact this

set_option maxRecDepth 100000 in
set_option maxHeartbeats 4000000 in
theorem l3Read_no (A : Option Addr) (c : Nat) (zs : List Int) (w : World) (fp : List Nat) (hby : Byt zs) (ha : Rd w 1 (.slice A zs.length c) (cellsOf .u8 zs) fp) (hno : ¬ (readOk zs ∧ (readL zs).length = 7)) :
    Calls Tryd.prog 35 #[.slice A zs.length c] w fun e w' => e = .returned (.tuple #[ov ⟨0, 0, 0, 0, 0, 0, 0⟩, .bool false]) ∧ Below w.heap.size w w' := by
  have ha' := ha.alloc (obox ⟨0, 0, 0, 0, 0, 0, 0⟩)
  have HA := Lib.hid ha'; have HBY := Lib.hid hby
  clear ha ha' hby
  by_cases hok : readOk zs
  · obtain ⟨n, h0, h20, hln⟩ := readOk_of hok HBY.out
    have e1 := readL_ok hok h0
    have hn7 : ¬ n = 7 := fun h => hno ⟨hok, by rw [e1, nums_length]; exact h⟩
    have H0 := Lib.hid h0; have HLN := Lib.hid hln; clear h0 hln hno hok e1
    go_enter Tryd.func35, Tryd.ntmps35
    go_wp2_with fail
    refine (l1Read_ok A c zs n _ fp HBY.out HA.out h20 HLN.out H0.out).mono ?_
    rintro e w1 ⟨v, fq, rfl, hr, hn, hf, hb1⟩
    obtain ⟨Av, cv, rfl⟩ := hr.form
    rw [nums_length]
    have hg1 := newest hb1 (by simp)
    obtain ⟨c0, c1, c2, c3, c4, c5, c6, hz⟩ := op_cells0 hg1
    have zf : ∀ i, w1.frozen? ⟨w.heap.size, i, none⟩ = false := fun i => frozen_of_heap hg1
    have HB1 := Lib.hid ((below_new _).trans (hb1.mono (by simp)))
    clear hb1 hr hn hf hg1
    have hn7' : ((n : Int) != 7) = true := by simp; omega
    go_wp2_with fail
    exact bodyPost_ret (v := .tuple #[ov ⟨0, 0, 0, 0, 0, 0, 0⟩, .bool false]) (by simp [results, Tryd.results35, go_sem, c0, c1, c2, c3, c4, c5, c6]) rfl ⟨rfl, (below_set (below_set (below_set (below_set (below_set (below_set (below_set HB1.out _ _) _ _) _ _) _ _) _ _) _ _) _ _)⟩
  · have HO := Lib.hid hok; clear hok hno
    go_enter Tryd.func35, Tryd.ntmps35
    go_wp2_with fail
    refine (l1Read_no A c zs _ fp HBY.out HA.out HO.out).mono ?_
    rintro e w1 ⟨rfl, rfl⟩
    go_wp2_with fail
    exact bodyPost_ret (v := .tuple #[ov ⟨0, 0, 0, 0, 0, 0, 0⟩, .bool false]) (by simp [results, Tryd.results35, go_sem]) rfl ⟨rfl, below_new _⟩

set_option maxRecDepth 100000 in
set_option maxHeartbeats 4000000 in
theorem l3Read_ok (A : Option Addr) (c : Nat) (zs : List Int) (o : O) (w : World) (fp : List Nat) (hby : Byt zs) (ha : Rd w 1 (.slice A zs.length c) (cellsOf .u8 zs) fp) (hok : readOk zs) (ho : readL zs = opL o) :
    Calls Tryd.prog 35 #[.slice A zs.length c] w fun e w' => e = .returned (.tuple #[ov o, .bool (opF o == 0)]) ∧ Below w.heap.size w w' := by
  have ha' := ha.alloc (obox ⟨0, 0, 0, 0, 0, 0, 0⟩)
  have HA := Lib.hid ha'; have HBY := Lib.hid hby
  obtain ⟨n, h0, h20, hln⟩ := readOk_of hok HBY.out
  have e1 := readL_ok hok h0
  obtain rfl : n = 7 := by rw [← nums_length zs n, ← e1, ho]; rfl
  have e2 : nums zs 7 = opL o := e1.symm.trans ho
  have H0 := Lib.hid h0; have HLN := Lib.hid hln; have E2 := Lib.hid e2
  clear ha ha' hby h0 hln hok e1 e2 ho
  generalize hC : opF o = C
  have HC := Lib.hid hC; clear hC
  go_enter Tryd.func35, Tryd.ntmps35
  go_wp2_with fail
  refine (l1Read_ok A c zs 7 _ fp HBY.out HA.out h20 HLN.out H0.out).mono ?_
  rintro e w1 ⟨v, fq, rfl, hr, hn, hf, hb1⟩
  rw [E2.out] at hr
  obtain ⟨Av, cv, rfl⟩ := hr.form
  have hg1 := newest hb1 (by simp)
  have HB1 := Lib.hid ((below_new _).trans (hb1.mono (by simp)))
  have HG1 := Lib.hid hg1
  have HR := Lib.hid hr
  clear hb1 hr hn hf hg1
  go_wp2_with fail
  refine (l3Of_c Av cv o _ fq HR.out).mono ?_
  rintro e w2 ⟨rfl, hb2⟩
  have hg2 := (hb2.block _ (heap_lt HG1.out)).trans HG1.out
  have hB2 := HB1.out.trans (hb2.mono HB1.out.size)
  have hlt2 : w.heap.size < w2.heap.size := heap_lt hg2
  clear hb2
  have hg3 : (w2.alloc (obox o)).heap[w.heap.size]? = some (obox ⟨0, 0, 0, 0, 0, 0, 0⟩) := heap_old hg2
  have hS3 : S5 w w2.heap.size o (w2.alloc (obox o)) := ⟨below_more hB2 _, heap_new w2 _ rfl⟩
  have HG3 := Lib.hid hg3; have HS3 := Lib.hid hS3
  clear hg2 hg3 hB2 hS3
  go_upto_region 5 with (fail)
  generalize w2.alloc (obox o) = W3 at *
  have hg3 := HG3.out; have hS3 := HS3.out
  have hld : ∀ w', S5 w w2.heap.size o w' → w'.cell? ⟨w2.heap.size, 0, none⟩ = some (.int .i64 o.k) ∧ w'.cell? ⟨w2.heap.size, 1, none⟩ = some (.int .i64 o.rq) ∧ w'.cell? ⟨w2.heap.size, 2, none⟩ = some (.int .i64 o.lc) ∧ w'.cell? ⟨w2.heap.size, 3, none⟩ = some (.int .i64 o.tt) ∧ w'.cell? ⟨w2.heap.size, 4, none⟩ = some (.int .i64 o.sk) ∧ w'.cell? ⟨w2.heap.size, 5, none⟩ = some (.int .i64 o.qt) ∧ w'.cell? ⟨w2.heap.size, 6, none⟩ = some (.int .i64 o.hd) ∧ w2.heap.size < w'.heap.size := fun w' h => op_cells0 h.2
  have HLD := Lib.hid hld; clear hld
  refine wp_region_sched (fun w' => S5 w w2.heap.size o w') [(0, true), (1, false), (2, true), (3, false), (4, true)] (by kernel_rfl) (by kernel_rfl) (by kernel_rfl) (by kernel_rfl) (fun _ _ d _ _ h => by cases d <;> exact h) ⟨hS3.1.drew, hS3.2⟩ ?_
  simp only [opsOf, List.filterMap_cons, List.filterMap_nil, Option.map_some, List.getElem?_toArray, List.getElem?_cons_zero, List.getElem?_cons_succ]
  generalize hW0 : ({ heap := W3.heap, tape := W3.tape, drawn := W3.drawn + 1, os := W3.os, output := W3.output } : World) = v0
  have hv0 : S5 w w2.heap.size o v0 := by rw [← hW0]; exact ⟨hS3.1.drew, hS3.2⟩
  have hg0 : v0.heap[w.heap.size]? = some (obox ⟨0, 0, 0, 0, 0, 0, 0⟩) := by rw [← hW0]; exact hg3
  clear hW0
  refine sched_run (v := ?_) (by rfl) ?_ ?_
  rotate_left
  · (intro w' hS'; obtain ⟨a0, a1, a2, a3, a4, a5, a6, az⟩ := HLD.out w' hS'; go_simp; try with_reducible rfl)
  try simp only [Act.put, List.setIfInBounds_toArray, List.set_cons_zero, List.set_cons_succ]
  refine sched_call (by rfl) (fun K hK => ?_)
  go_simp
  refine (l3Fault_c w2.heap.size 0 o _ (opat_of hv0.2)).mono ?_
  rintro e v1 ⟨rfl, hbv0⟩
  have hv1 : S5 w w2.heap.size o v1 := hv0.call hbv0
  rw [HC.out]
  have hgs := (hbv0.block _ (heap_lt hg0)).trans hg0
  obtain ⟨z0, z1, z2, z3, z4, z5, z6, hz⟩ := op_cells0 hgs
  have zf : ∀ i, v1.frozen? ⟨w.heap.size, i, none⟩ = false := fun i => frozen_of_heap hgs
  clear hgs
  clear hbv0
  refine hK _ _ hv1 ?_
  try simp only [Act.put, List.setIfInBounds_toArray, List.set_cons_zero, List.set_cons_succ]
  refine sched_run (v := ?_) (by rfl) ?_ ?_
  rotate_left
  · (intro w' hS'; go_simp; try with_reducible rfl)
  try simp only [Act.put, List.setIfInBounds_toArray, List.set_cons_zero, List.set_cons_succ]
  refine sched_call (by rfl) (fun K hK => ?_)
  go_simp
  refine hK _ _ ?_ ?_
  · exact ((S5.set (S5.set (S5.set (S5.set (S5.set (S5.set (S5.set hv1 hlt2) hlt2) hlt2) hlt2) hlt2) hlt2) hlt2))
  try simp only [Act.put, List.setIfInBounds_toArray, List.set_cons_zero, List.set_cons_succ]
  refine sched_run (v := ?_) (by rfl) ?_ ?_
  rotate_left
  · (intro w' hS'; go_simp; try with_reducible rfl)
  try simp only [Act.put, List.setIfInBounds_toArray, List.set_cons_zero, List.set_cons_succ]
  refine sched_done ?_
  go_wp2_with fail
  exact bodyPost_ret (v := .tuple #[ov o, .bool (C == 0)]) (by simp [results, Tryd.results35, go_sem, z0, z1, z2, z3, z4, z5, z6]) rfl ⟨rfl, (S5.set (S5.set (S5.set (S5.set (S5.set (S5.set (S5.set hv1 hlt2) hlt2) hlt2) hlt2) hlt2) hlt2) hlt2).1⟩
end Go.Proofs.YtocllaendofndaaDoor
