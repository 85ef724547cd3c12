/-
  Contracts of the program's functions of chapter 3, third part: PackOp.
-/
import Derived.Test.YtocllaendofndaaDoorImpl3b
import Derived.Test.YtocllaendofndaaDoorSpec3c
namespace Go.Proofs.YtocllaendofndaaDoor
open Go.RowKit

set_option maxRecDepth 100000 in
set_option maxHeartbeats 4000000 in
theorem implPackOp_a : AskPackOp 13 := by
  intro o w ho
  have HO := Lib.hid ho; clear ho
  by_cases h0 : opF o = 0
  · have hsh := opL_short h0
    have e1 : packC (opL o) = 0 := packC_0 (by simp [opL]) hsh
    have e : pkO o = packL (opL o) := by unfold pkO; rw [if_pos h0]
    rw [h0, e]
    have E1 := Lib.hid e1; have H0 := Lib.hid h0
    clear hsh h0 e e1
    go_enter Tryd.func13, Tryd.ntmps13
    go_wp2_with fail
    refine (implOpFault_a o _ HO.out).mono ?_
    rintro e w1 ⟨rfl, hb1⟩
    rw [H0.out]
    have hg1 : w1.heap[w.heap.size]? = some (obox o) := (hb1.block _ (by simp; omega)).trans (heap_old (heap_new w (obox o) rfl))
    obtain ⟨c0, c1, c2, c3, c4, c5, c6, hz1⟩ := op_cells' hg1
    have hb1b : Below ((w.alloc (obox o)).heap.size + 1) ((w.alloc (obox o)).alloc (.cells #[.int .i64 0, .slice none 0 0] 34)) w1 := by simpa using hb1
    have HB1 := Lib.hid hb1b; clear hb1 hb1b hg1
    go_wp2_with fail
    refine (opNumbers_c o _).mono ?_
    rintro e w2 ⟨rfl, hb2⟩
    have hb2' := HB1.out.trans (hb2.mono (by have := HB1.out.size; simp at this ⊢; omega))
    have HB2 := Lib.hid hb2'; clear hb2 hb2' c0 c1 c2 c3 c4 c5 c6 hz1
    have hn3 := heap_new w2 (nbox o) rfl
    obtain ⟨fp, hr, hn, hf⟩ := Rd.fresh (w := w2) (w' := w2.alloc (nbox o)) (e := 61) (xs := cellsOf .i64 (opL o)) (size := 1) (n := 7) (by unfold maxLen; omega) rfl hn3 (Nat.le_refl _)
    have HR := Lib.hid hr; clear hr hn hf hn3
    go_wp2_with fail
    refine (implPackNumbers_c _ 7 (opL o) _ fp HR.out).mono ?_
    rintro e w3 ⟨r, rfl, hsr, hb3⟩
    obtain ⟨v, fq, rfl, hr, hn, hf⟩ := hsr
    rw [E1.out]
    obtain ⟨Av, cv, rfl⟩ := hr.form
    have hb3' := (HB2.out.alloc (by have := HB2.out.size; simp at this ⊢; omega) _).trans (hb3.mono (by have := HB2.out.size; simp at this ⊢; omega))
    have hf' := hf.mono (show (w.alloc (obox o)).heap.size + 1 ≤ (w2.alloc (nbox o)).heap.size by have := HB2.out.size; simp at this ⊢; omega)
    obtain ⟨hc0, hc1, hf0, hf1, hz0⟩ := cells_kept hb3' (by omega)
    simp only [World.size_alloc] at hc0 hc1 hf0 hf1 hz0
    have HB3 := Lib.hid hb3'
    have HN := Lib.hid hn; have HF := Lib.hid hf'; have HR3 := Lib.hid hr
    clear hb3 hb3' hn hf hf' hr
    go_wp2_with fail
    have hst := res_stored (K := .u8) HB3.out rfl (code := 0) HR3.out HN.out HF.out
    simp only [World.size_alloc] at hst
    exact bodyPost_ret (v := .agg #[.int .i64 0, .slice Av (packL (opL o)).length cv]) (by simp [results, Tryd.results13, go_sem, hc0, hc1]) rfl ⟨_, rfl, hst.1.lower (by simp), (below_new _).trans (hst.2.mono (by simp))⟩
  · have e : pkO o = [] := by unfold pkO; rw [if_neg h0]
    rw [e]
    generalize hC : opF o = C at h0
    have HC := Lib.hid hC
    clear hC e
    go_enter Tryd.func13, Tryd.ntmps13
    go_wp2_with fail
    refine (implOpFault_a o _ HO.out).mono ?_
    rintro e w1 ⟨rfl, hb1⟩
    rw [HC.out]
    have hb1b : Below ((w.alloc (obox o)).heap.size + 1) ((w.alloc (obox o)).alloc (.cells #[.int .i64 0, .slice none 0 0] 34)) w1 := by simpa using hb1
    obtain ⟨hc0, hc1, hf0, hf1, hz0⟩ := cells_kept hb1b (by omega)
    simp only [World.size_alloc] at hc0 hc1 hf0 hf1 hz0
    have HB1 := Lib.hid hb1b
    clear hb1 hb1b
    have hne : (C != 0) = true := by simpa using h0
    go_wp2_with fail
    have hst := res_stored (K := .u8) HB1.out rfl (code := C) (zs := []) (Rd.nil _ _) (NF.nil _) (From.nil _)
    simp only [World.size_alloc] at hst
    exact bodyPost_ret (v := .agg #[.int .i64 C, .slice none 0 0]) (by simp [results, Tryd.results13, go_sem, hc0, hc1]) rfl ⟨_, rfl, hst.1.lower (by simp), (below_new _).trans (hst.2.mono (by simp))⟩
end Go.Proofs.YtocllaendofndaaDoor
