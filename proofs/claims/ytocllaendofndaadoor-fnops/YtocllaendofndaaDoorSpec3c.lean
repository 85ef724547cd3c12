/-
  Contracts of the model's functions of chapter 3, third part: the numbers of an operation, packed.
-/
import Derived.Test.YtocllaendofndaaDoorSpec3b
import Derived.Test.YtocllaendofndaaDoorLawPackOp
namespace Go.Proofs.YtocllaendofndaaDoor
open Go.RowKit

set_option maxRecDepth 100000 in
set_option maxHeartbeats 4000000 in
theorem l3List_c (b off : Nat) (o : O) (w : World) (h : OpAt w b off o) :
    Calls Tryd.prog 26 #[.pointer (some ⟨b, off, none⟩)] w (CopyPost .i64 w (opL o)) := by
  obtain ⟨hb, c0, c1, c2, c3, c4, c5, c6⟩ := h
  go_enter Tryd.func26, Tryd.ntmps26
  go_upto_region 1 with (fail)
  have hld : ∀ w', Below w.heap.size w w' → w'.cell? ⟨b, off, none⟩ = some (.int .i64 o.k) ∧ w'.cell? ⟨b, off + 1, none⟩ = some (.int .i64 o.rq) ∧ w'.cell? ⟨b, off + 2, none⟩ = some (.int .i64 o.lc) ∧ w'.cell? ⟨b, off + 3, none⟩ = some (.int .i64 o.tt) ∧ w'.cell? ⟨b, off + 4, none⟩ = some (.int .i64 o.sk) ∧ w'.cell? ⟨b, off + 5, none⟩ = some (.int .i64 o.qt) ∧ w'.cell? ⟨b, off + 6, none⟩ = some (.int .i64 o.hd) := fun w' h => ⟨(h.cell (p := ⟨b, _, none⟩) hb).trans c0, (h.cell (p := ⟨b, _, none⟩) hb).trans c1, (h.cell (p := ⟨b, _, none⟩) hb).trans c2, (h.cell (p := ⟨b, _, none⟩) hb).trans c3, (h.cell (p := ⟨b, _, none⟩) hb).trans c4, (h.cell (p := ⟨b, _, none⟩) hb).trans c5, (h.cell (p := ⟨b, _, none⟩) hb).trans c6⟩
  have HLD := Lib.hid hld; clear hld
  refine wp_region_sched (fun w' => Below w.heap.size w w') [(0, true), (1, true), (2, true), (3, true), (4, true), (5, true), (6, true), (7, true), (8, true), (9, true), (10, true), (11, true), (12, true), (13, true), (14, true), (15, true), (16, true), (17, true), (18, true), (19, true), (20, true), (21, true), (22, true), (23, true), (24, true), (25, true), (26, true), (27, true), (28, false), (29, true)] (by kernel_rfl) (by kernel_rfl) (by kernel_rfl) (by kernel_rfl) (fun _ _ d _ _ h => by cases d <;> exact h) ⟨rfl, rfl, rfl, Nat.le_refl _, fun _ _ => rfl⟩ ?_
  simp only [opsOf, List.filterMap_cons, List.filterMap_nil, Option.map_some, List.getElem?_toArray, List.getElem?_cons_zero, List.getElem?_cons_succ]
  generalize hW0 : ({ heap := w.heap, tape := w.tape, drawn := w.drawn + 1, os := w.os, output := w.output } : World) = v0
  have hv0 : Below w.heap.size w v0 := by rw [← hW0]; exact ⟨rfl, rfl, rfl, Nat.le_refl _, fun _ _ => rfl⟩
  clear hW0
  refine sched_run (v := ?_) (by rfl) ?_ ?_
  rotate_left
  · (intro w' hS'; go_simp; try with_reducible rfl)
  try simp only [Act.put, List.setIfInBounds_toArray, List.set_cons_zero, List.set_cons_succ]
  refine sched_run (v := ?_) (by rfl) ?_ ?_
  rotate_left
  · (intro w' hS'; go_simp; try with_reducible rfl)
  try simp only [Act.put, List.setIfInBounds_toArray, List.set_cons_zero, List.set_cons_succ]
  refine sched_run (v := ?_) (by rfl) ?_ ?_
  rotate_left
  · (intro w' hS'; go_simp; try with_reducible rfl)
  try simp only [Act.put, List.setIfInBounds_toArray, List.set_cons_zero, List.set_cons_succ]
  refine sched_run (v := ?_) (by rfl) ?_ ?_
  rotate_left
  · (intro w' hS'; obtain ⟨a0, a1, a2, a3, a4, a5, a6⟩ := HLD.out w' hS'; go_simp; try with_reducible rfl)
  try simp only [Act.put, List.setIfInBounds_toArray, List.set_cons_zero, List.set_cons_succ]
  refine sched_run (v := ?_) (by rfl) ?_ ?_
  rotate_left
  · (intro w' hS'; go_simp; try with_reducible rfl)
  try simp only [Act.put, List.setIfInBounds_toArray, List.set_cons_zero, List.set_cons_succ]
  refine sched_run (v := ?_) (by rfl) ?_ ?_
  rotate_left
  · (intro w' hS'; go_simp; try with_reducible rfl)
  try simp only [Act.put, List.setIfInBounds_toArray, List.set_cons_zero, List.set_cons_succ]
  refine sched_run (v := ?_) (by rfl) ?_ ?_
  rotate_left
  · (intro w' hS'; go_simp; try with_reducible rfl)
  try simp only [Act.put, List.setIfInBounds_toArray, List.set_cons_zero, List.set_cons_succ]
  refine sched_run (v := ?_) (by rfl) ?_ ?_
  rotate_left
  · (intro w' hS'; obtain ⟨a0, a1, a2, a3, a4, a5, a6⟩ := HLD.out w' hS'; go_simp; try with_reducible rfl)
  try simp only [Act.put, List.setIfInBounds_toArray, List.set_cons_zero, List.set_cons_succ]
  refine sched_run (v := ?_) (by rfl) ?_ ?_
  rotate_left
  · (intro w' hS'; go_simp; try with_reducible rfl)
  try simp only [Act.put, List.setIfInBounds_toArray, List.set_cons_zero, List.set_cons_succ]
  refine sched_run (v := ?_) (by rfl) ?_ ?_
  rotate_left
  · (intro w' hS'; go_simp; try with_reducible rfl)
  try simp only [Act.put, List.setIfInBounds_toArray, List.set_cons_zero, List.set_cons_succ]
  refine sched_run (v := ?_) (by rfl) ?_ ?_
  rotate_left
  · (intro w' hS'; go_simp; try with_reducible rfl)
  try simp only [Act.put, List.setIfInBounds_toArray, List.set_cons_zero, List.set_cons_succ]
  refine sched_run (v := ?_) (by rfl) ?_ ?_
  rotate_left
  · (intro w' hS'; obtain ⟨a0, a1, a2, a3, a4, a5, a6⟩ := HLD.out w' hS'; go_simp; try with_reducible rfl)
  try simp only [Act.put, List.setIfInBounds_toArray, List.set_cons_zero, List.set_cons_succ]
  refine sched_run (v := ?_) (by rfl) ?_ ?_
  rotate_left
  · (intro w' hS'; go_simp; try with_reducible rfl)
  try simp only [Act.put, List.setIfInBounds_toArray, List.set_cons_zero, List.set_cons_succ]
  refine sched_run (v := ?_) (by rfl) ?_ ?_
  rotate_left
  · (intro w' hS'; go_simp; try with_reducible rfl)
  try simp only [Act.put, List.setIfInBounds_toArray, List.set_cons_zero, List.set_cons_succ]
  refine sched_run (v := ?_) (by rfl) ?_ ?_
  rotate_left
  · (intro w' hS'; go_simp; try with_reducible rfl)
  try simp only [Act.put, List.setIfInBounds_toArray, List.set_cons_zero, List.set_cons_succ]
  refine sched_run (v := ?_) (by rfl) ?_ ?_
  rotate_left
  · (intro w' hS'; obtain ⟨a0, a1, a2, a3, a4, a5, a6⟩ := HLD.out w' hS'; go_simp; try with_reducible rfl)
  try simp only [Act.put, List.setIfInBounds_toArray, List.set_cons_zero, List.set_cons_succ]
  refine sched_run (v := ?_) (by rfl) ?_ ?_
  rotate_left
  · (intro w' hS'; go_simp; try with_reducible rfl)
  try simp only [Act.put, List.setIfInBounds_toArray, List.set_cons_zero, List.set_cons_succ]
  refine sched_run (v := ?_) (by rfl) ?_ ?_
  rotate_left
  · (intro w' hS'; go_simp; try with_reducible rfl)
  try simp only [Act.put, List.setIfInBounds_toArray, List.set_cons_zero, List.set_cons_succ]
  refine sched_run (v := ?_) (by rfl) ?_ ?_
  rotate_left
  · (intro w' hS'; go_simp; try with_reducible rfl)
  try simp only [Act.put, List.setIfInBounds_toArray, List.set_cons_zero, List.set_cons_succ]
  refine sched_run (v := ?_) (by rfl) ?_ ?_
  rotate_left
  · (intro w' hS'; obtain ⟨a0, a1, a2, a3, a4, a5, a6⟩ := HLD.out w' hS'; go_simp; try with_reducible rfl)
  try simp only [Act.put, List.setIfInBounds_toArray, List.set_cons_zero, List.set_cons_succ]
  refine sched_run (v := ?_) (by rfl) ?_ ?_
  rotate_left
  · (intro w' hS'; go_simp; try with_reducible rfl)
  try simp only [Act.put, List.setIfInBounds_toArray, List.set_cons_zero, List.set_cons_succ]
  refine sched_run (v := ?_) (by rfl) ?_ ?_
  rotate_left
  · (intro w' hS'; go_simp; try with_reducible rfl)
  try simp only [Act.put, List.setIfInBounds_toArray, List.set_cons_zero, List.set_cons_succ]
  refine sched_run (v := ?_) (by rfl) ?_ ?_
  rotate_left
  · (intro w' hS'; go_simp; try with_reducible rfl)
  try simp only [Act.put, List.setIfInBounds_toArray, List.set_cons_zero, List.set_cons_succ]
  refine sched_run (v := ?_) (by rfl) ?_ ?_
  rotate_left
  · (intro w' hS'; obtain ⟨a0, a1, a2, a3, a4, a5, a6⟩ := HLD.out w' hS'; go_simp; try with_reducible rfl)
  try simp only [Act.put, List.setIfInBounds_toArray, List.set_cons_zero, List.set_cons_succ]
  refine sched_run (v := ?_) (by rfl) ?_ ?_
  rotate_left
  · (intro w' hS'; go_simp; try with_reducible rfl)
  try simp only [Act.put, List.setIfInBounds_toArray, List.set_cons_zero, List.set_cons_succ]
  refine sched_run (v := ?_) (by rfl) ?_ ?_
  rotate_left
  · (intro w' hS'; go_simp; try with_reducible rfl)
  try simp only [Act.put, List.setIfInBounds_toArray, List.set_cons_zero, List.set_cons_succ]
  refine sched_run (v := ?_) (by rfl) ?_ ?_
  rotate_left
  · (intro w' hS'; go_simp; try with_reducible rfl)
  try simp only [Act.put, List.setIfInBounds_toArray, List.set_cons_zero, List.set_cons_succ]
  refine sched_run (v := ?_) (by rfl) ?_ ?_
  rotate_left
  · (intro w' hS'; obtain ⟨a0, a1, a2, a3, a4, a5, a6⟩ := HLD.out w' hS'; go_simp; try with_reducible rfl)
  try simp only [Act.put, List.setIfInBounds_toArray, List.set_cons_zero, List.set_cons_succ]
  refine sched_call (by rfl) (fun K hK => ?_)
  go_simp
  refine hK _ _ ?_ ?_
  · exact (below_more hv0 _)
  try simp only [Act.put, List.setIfInBounds_toArray, List.set_cons_zero, List.set_cons_succ]
  refine sched_run (v := ?_) (by rfl) ?_ ?_
  rotate_left
  · (intro w' hS'; go_simp; try with_reducible rfl)
  try simp only [Act.put, List.setIfInBounds_toArray, List.set_cons_zero, List.set_cons_succ]
  refine sched_done ?_
  go_wp2_with fail
  go_ret
  obtain ⟨fp, hr, hn, hf⟩ := Rd.fresh (w := w) (w' := v0.alloc (.cells #[.int .i64 o.k, .int .i64 o.rq, .int .i64 o.lc, .int .i64 o.tt, .int .i64 o.sk, .int .i64 o.qt, .int .i64 o.hd] 2)) (e := 2) (xs := cellsOf .i64 (opL o)) (size := 1) (n := 7) (by unfold maxLen; omega) rfl (heap_new v0 _ rfl) hv0.size
  exact ⟨_, 7, fp, rfl, hr, hn, hf, below_more hv0 _⟩

theorem opL_short {o : O} (h : opF o = 0) : allShort (opL o) := by
  have := opF_zero h
  intro j hj
  unfold shortB
  rw [inB_true]
  have h7 : j = 0 ∨ j = 1 ∨ j = 2 ∨ j = 3 ∨ j = 4 ∨ j = 5 ∨ j = 6 := by simp [opL] at hj; omega
  rcases h7 with rfl | rfl | rfl | rfl | rfl | rfl | rfl <;> simp [opL] <;> omega

set_option maxRecDepth 100000 in
set_option maxHeartbeats 4000000 in
theorem specPackOp_a : AskPackOp 17 := by
  intro o w _
  have hw1 : ((w.alloc (obox o)).alloc (.cells #[.int .i64 0, .slice none 0 0] 34)).heap.size = w.heap.size + 1 + 1 := by simp
  by_cases h0 : opF o = 0
  · have hsh := opL_short h0
    have e : pkO o = pk (opL o) (opL o).length := by unfold pkO; rw [if_pos h0]; exact packL_0 (by simp [opL]) hsh
    rw [h0, e]
    have HS := Lib.hid hsh; have H0 := Lib.hid h0
    clear hsh h0 e
    go_enter Tryd.func17, Tryd.ntmps17
    go_wp2_with fail
    have hat : OpAt ((w.alloc (obox o)).alloc (.cells #[.int .i64 0, .slice none 0 0] 34)) w.heap.size 0 o := (OpAt.new w o).below (below_new _)
    refine (l3Fault_c w.heap.size 0 o _ hat).mono ?_
    rintro e w1 ⟨rfl, hb1⟩
    rw [H0.out]
    rw [hw1] at hb1
    have hat1 := hat.below (by rw [hw1]; exact hb1)
    have HB1 := Lib.hid hb1; have HA1 := Lib.hid hat1
    clear hb1 hat hat1
    go_wp2_with fail
    refine (l3List_c w.heap.size 0 o _ HA1.out).mono ?_
    rintro e w2 ⟨A, c, fp, rfl, hr, hn, hf, hb2⟩
    have hb2' := HB1.out.trans (hb2.mono (by have := HB1.out.size; simp at this; omega))
    have HB2 := Lib.hid hb2'; clear hb2 hb2' hn hf
    have HR := Lib.hid hr; clear hr
    have hl20 : (opL o).length ≤ 20 := by simp [opL]
    go_wp2_with fail
    refine (l1Pack_c A c (opL o) _ fp hl20 HS.out HR.out).mono ?_
    rintro e w3 ⟨v, fq, rfl, hr, hn, hf, hb3⟩
    obtain ⟨Av, cv, rfl⟩ := hr.form
    have hb3' := HB2.out.trans (hb3.mono (by have := HB2.out.size; simp at this; omega))
    have hf' := hf.mono (show (w.alloc (obox o)).heap.size + 1 ≤ w2.heap.size by have := HB2.out.size; simp at this ⊢; omega)
    have hb3b : Below ((w.alloc (obox o)).heap.size + 1) ((w.alloc (obox o)).alloc (.cells #[.int .i64 0, .slice none 0 0] 34)) w3 := by simpa using hb3'
    obtain ⟨hc0, hc1, hf0, hf1, hz0⟩ := cells_kept hb3b (by omega)
    simp only [World.size_alloc] at hc0 hc1 hf0 hf1 hz0
    have HB3 := Lib.hid hb3b
    have HN := Lib.hid hn; have HF := Lib.hid hf'; have HR3 := Lib.hid hr
    clear hb3 hb3' hb3b hn hf hf' hr
    go_wp2_with fail
    have hst := res_stored (K := .u8) HB3.out rfl (code := 0) HR3.out HN.out HF.out
    simp only [World.size_alloc] at hst
    exact bodyPost_ret (v := .agg #[.int .i64 0, .slice Av (pk (opL o) (opL o).length).length cv]) (by simp [results, Tryd.results17, go_sem, hc0, hc1]) rfl ⟨_, rfl, hst.1.lower (by simp), (below_new _).trans (hst.2.mono (by simp))⟩
  · have e : pkO o = [] := by unfold pkO; rw [if_neg h0]
    rw [e]
    generalize hC : opF o = C at h0
    have HC := Lib.hid hC
    clear hC e
    go_enter Tryd.func17, Tryd.ntmps17
    go_wp2_with fail
    have hat : OpAt ((w.alloc (obox o)).alloc (.cells #[.int .i64 0, .slice none 0 0] 34)) w.heap.size 0 o := (OpAt.new w o).below (below_new _)
    refine (l3Fault_c w.heap.size 0 o _ hat).mono ?_
    rintro e w1 ⟨rfl, hb1⟩
    rw [HC.out]
    have hb1b : Below ((w.alloc (obox o)).heap.size + 1) ((w.alloc (obox o)).alloc (.cells #[.int .i64 0, .slice none 0 0] 34)) w1 := by simpa using hb1
    obtain ⟨hc0, hc1, hf0, hf1, hz0⟩ := cells_kept hb1b (by omega)
    simp only [World.size_alloc] at hc0 hc1 hf0 hf1 hz0
    have HB1 := Lib.hid hb1b
    clear hb1 hb1b hat
    have hne : (C != 0) = true := by simpa using h0
    go_wp2_with fail
    have hst := res_stored (K := .u8) HB1.out rfl (code := C) (zs := []) (Rd.nil _ _) (NF.nil _) (From.nil _)
    simp only [World.size_alloc] at hst
    exact bodyPost_ret (v := .agg #[.int .i64 C, .slice none 0 0]) (by simp [results, Tryd.results17, go_sem, hc0, hc1]) rfl ⟨_, rfl, hst.1.lower (by simp), (below_new _).trans (hst.2.mono (by simp))⟩
end Go.Proofs.YtocllaendofndaaDoor
