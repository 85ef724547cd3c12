/-
  The model's functions of chapter 6, ninth part: a row written into places, by a maker (mkwrite.py).
-/
import Derived.Test.YtoabohllphoioaaSpec6h
import Derived.Test.YtoabohllphoioaaWrite6
import Derived.Test.YtoabohllphoioaaG12
import Derived.Test.YtoabohllphoioaaG15
namespace Go.Proofs.Ytoabohllphoioaa
open Go.RowKit

set_option maxRecDepth 100000 in
set_option maxHeartbeats 8000000 in
theorem specWritePlace_r (p : Pl) (vf : Value) (r : R) (m : Int) (w : World) (fp : List Nat) (hs : plsz p ≤ 1048576) (h : PlAt w p vf fp) :
    Calls Try.prog 32 #[plv p.mark vf, rv r, .int .i64 m] w (PResPost w (wpC p r m) (wpL p r m)) := by
  obtain ⟨A, c, rfl⟩ := h.form
  have h0p := h.f
  obtain ⟨tb, t1, t2, t3⟩ := three_new6 w (.cells #[.slice A p.fs.length c, .int .i64 p.mark] 26) (.cells #[.int .i64 r.1, .int .i64 r.2.1, .int .i64 r.2.2.1, .int .i64 r.2.2.2] 34) (.cells #[.int .i64 0, .slice none 0 0, .int .i64 0] 53)
  have HF := Lib.hid (h.f.below' tb); have HB := Lib.hid tb; have GP := Lib.hid t1; have GR := Lib.hid t2; have GZ := Lib.hid t3; have HSZ : Hid (fsz p.fs ≤ 1048576) := hs
  have ⟨W0, hW0⟩ : ∃ x, x = ((w.alloc (.cells #[.slice A p.fs.length c, .int .i64 p.mark] 26)).alloc (.cells #[.int .i64 r.1, .int .i64 r.2.1, .int .i64 r.2.2.1, .int .i64 r.2.2.2] 34)).alloc (.cells #[.int .i64 0, .slice none 0 0, .int .i64 0] 53) := ⟨_, rfl⟩
  rw [← hW0] at HF HB GP GR GZ
  have HW0 := Lib.hid hW0; clear hW0
  have HLTP := Lib.hid (Sl.lt h0p); clear h0p
  clear h tb t1 t2 t3 hs
  by_cases h0 : placesF p = 0
  case neg =>
    rw [wpC_a h0, wpL_no (by rw [wpC_a h0]; exact h0)]
    obtain ⟨V, hV⟩ : ∃ V, V = placesF p := ⟨_, rfl⟩
    have HV : Hid (placesF ⟨p.fs, p.mark⟩ = V) := hV.symm
    rw [← hV] at h0 ⊢
    have t1 : (V != 0) = true := by simpa using h0
    clear h0 hV
    go_enter Try.func32, Try.ntmps32
    go_wp2_with fail
    rw [← HW0.out]
    refine (l6Fault_c w.heap.size p.mark A c p.fs W0 fp (by have := HSZ.out; omega) ⟨cell_of_heap GP.out, cell_of_heap GP.out, heap_lt GP.out⟩ HF.out).mono ?_
    rw [HV.out]
    rintro e w1 ⟨rfl, hq⟩
    have hb1 : Below W0.heap.size W0 w1 := hq.below
    clear hq
    replace GP := Lib.hid ((hb1.block _ (heap_lt GP.out)).trans GP.out)
    replace GR := Lib.hid ((hb1.block _ (heap_lt GR.out)).trans GR.out)
    replace GZ := Lib.hid ((hb1.block _ (heap_lt GZ.out)).trans GZ.out)
    replace HF := Lib.hid (HF.out.below' hb1)
    replace HB := Lib.hid (HB.out.trans (hb1.mono HB.out.size))
    clear hb1
    obtain ⟨y0, y1, y2, z0, z1, z2, yz⟩ := three_at6 GZ.out
    go_wp2_with fail
    refine bodyPost_ret (v := plrv (V) 0 (.slice none 0 0)) (by simp [results, Try.results32, go_sem, y0, y1, y2]) rfl (pres_none ?_)
    exact HB.out.trans (((((But.refl [w.heap.size + 2] _).setCell (p := ⟨w.heap.size + 2, 0, none⟩) (by simp) _).setCell (p := ⟨w.heap.size + 2, 1, none⟩) (by simp) _).setCell (p := ⟨w.heap.size + 2, 2, none⟩) (by simp) _).below HB.out.size (by intro b hb; simp at hb; omega))
  have H0 : Hid (placesF ⟨p.fs, p.mark⟩ = 0) := h0
  by_cases h1 : rowF r = 0
  case neg =>
    rw [wpC_b h0 h1, wpL_no (by rw [wpC_b h0 h1]; exact h1)]
    obtain ⟨V, hV⟩ : ∃ V, V = rowF r := ⟨_, rfl⟩
    have HV := Lib.hid hV.symm
    rw [← hV] at h1 ⊢
    have t1 : (V != 0) = true := by simpa using h1
    clear h0 h1 hV
    go_enter Try.func32, Try.ntmps32
    go_wp2_with fail
    rw [← HW0.out]
    refine (l6Fault_c w.heap.size p.mark A c p.fs W0 fp (by have := HSZ.out; omega) ⟨cell_of_heap GP.out, cell_of_heap GP.out, heap_lt GP.out⟩ HF.out).mono ?_
    rw [H0.out]
    rintro e w1 ⟨rfl, hq⟩
    have hb1 : Below W0.heap.size W0 w1 := hq.below
    clear hq
    replace GP := Lib.hid ((hb1.block _ (heap_lt GP.out)).trans GP.out)
    replace GR := Lib.hid ((hb1.block _ (heap_lt GR.out)).trans GR.out)
    replace GZ := Lib.hid ((hb1.block _ (heap_lt GZ.out)).trans GZ.out)
    replace HF := Lib.hid (HF.out.below' hb1)
    replace HB := Lib.hid (HB.out.trans (hb1.mono HB.out.size))
    clear hb1
    obtain ⟨r0, r1, r2, r3, _, _, _, _, rz⟩ := four_at GR.out
    go_wp2_with fail
    refine (l2Row_c (w.heap.size + 1) 0 r w1 ⟨r0, r1, r2, r3⟩).mono ?_
    rw [HV.out]
    rintro e w2 ⟨rfl, hq⟩
    have hb2 : Below w1.heap.size w1 w2 := Qt.below hq
    clear hq r0 r1 r2 r3 rz
    replace GP := Lib.hid ((hb2.block _ (heap_lt GP.out)).trans GP.out)
    replace GR := Lib.hid ((hb2.block _ (heap_lt GR.out)).trans GR.out)
    replace GZ := Lib.hid ((hb2.block _ (heap_lt GZ.out)).trans GZ.out)
    replace HF := Lib.hid (HF.out.below' hb2)
    replace HB := Lib.hid (HB.out.trans (hb2.mono HB.out.size))
    clear hb2
    obtain ⟨y0, y1, y2, z0, z1, z2, yz⟩ := three_at6 GZ.out
    go_wp2_with fail
    refine bodyPost_ret (v := plrv (V) 0 (.slice none 0 0)) (by simp [results, Try.results32, go_sem, y0, y1, y2]) rfl (pres_none ?_)
    exact HB.out.trans (((((But.refl [w.heap.size + 2] _).setCell (p := ⟨w.heap.size + 2, 0, none⟩) (by simp) _).setCell (p := ⟨w.heap.size + 2, 1, none⟩) (by simp) _).setCell (p := ⟨w.heap.size + 2, 2, none⟩) (by simp) _).below HB.out.size (by intro b hb; simp at hb; omega))
  have H1 := Lib.hid h1
  have hmk : 0 ≤ p.mark ∧ p.mark ≤ 999 := ⟨(placesF_zero h0).2.1, (placesF_zero h0).2.2.1⟩
  by_cases h2 : m = p.mark + 1
  case neg =>
    rw [wpC_c h0 h1 (fun x => h2 x.1), wpL_no (by rw [wpC_c h0 h1 (fun x => h2 x.1)]; decide)]
    have t1 : (m != p.mark + 1) = true := by simpa using h2
    have HM := Lib.hid hmk
    clear h0 h1 h2
    go_enter Try.func32, Try.ntmps32
    go_wp2_with fail
    rw [← HW0.out]
    refine (l6Fault_c w.heap.size p.mark A c p.fs W0 fp (by have := HSZ.out; omega) ⟨cell_of_heap GP.out, cell_of_heap GP.out, heap_lt GP.out⟩ HF.out).mono ?_
    rw [H0.out]
    rintro e w1 ⟨rfl, hq⟩
    have hb1 : Below W0.heap.size W0 w1 := hq.below
    clear hq
    replace GP := Lib.hid ((hb1.block _ (heap_lt GP.out)).trans GP.out)
    replace GR := Lib.hid ((hb1.block _ (heap_lt GR.out)).trans GR.out)
    replace GZ := Lib.hid ((hb1.block _ (heap_lt GZ.out)).trans GZ.out)
    replace HF := Lib.hid (HF.out.below' hb1)
    replace HB := Lib.hid (HB.out.trans (hb1.mono HB.out.size))
    clear hb1
    obtain ⟨r0, r1, r2, r3, _, _, _, _, rz⟩ := four_at GR.out
    go_wp2_with fail
    refine (l2Row_c (w.heap.size + 1) 0 r w1 ⟨r0, r1, r2, r3⟩).mono ?_
    rw [H1.out]
    rintro e w2 ⟨rfl, hq⟩
    have hb2 : Below w1.heap.size w1 w2 := Qt.below hq
    clear hq r0 r1 r2 r3 rz
    replace GP := Lib.hid ((hb2.block _ (heap_lt GP.out)).trans GP.out)
    replace GR := Lib.hid ((hb2.block _ (heap_lt GR.out)).trans GR.out)
    replace GZ := Lib.hid ((hb2.block _ (heap_lt GZ.out)).trans GZ.out)
    replace HF := Lib.hid (HF.out.below' hb2)
    replace HB := Lib.hid (HB.out.trans (hb2.mono HB.out.size))
    clear hb2
    obtain ⟨p0, p1, _, _, pz⟩ := two_at GP.out
    obtain ⟨y0, y1, y2, z0, z1, z2, yz⟩ := three_at6 GZ.out
    go_wp2_with fail
    refine bodyPost_ret (v := plrv (9) 0 (.slice none 0 0)) (by simp [results, Try.results32, go_sem, y0, y1, y2]) rfl (pres_none ?_)
    exact HB.out.trans (((((But.refl [w.heap.size + 2] _).setCell (p := ⟨w.heap.size + 2, 0, none⟩) (by simp) _).setCell (p := ⟨w.heap.size + 2, 1, none⟩) (by simp) _).setCell (p := ⟨w.heap.size + 2, 2, none⟩) (by simp) _).below HB.out.size (by intro b hb; simp at hb; omega))
  by_cases h3 : m ≤ 999
  case neg =>
    rw [wpC_c h0 h1 (fun x => h3 x.2), wpL_no (by rw [wpC_c h0 h1 (fun x => h3 x.2)]; decide)]
    have t1 : (m != p.mark + 1) = false := by simpa using h2
    have HM := Lib.hid hmk
    clear h0 h1 h2
    go_enter Try.func32, Try.ntmps32
    go_wp2_with fail
    rw [← HW0.out]
    refine (l6Fault_c w.heap.size p.mark A c p.fs W0 fp (by have := HSZ.out; omega) ⟨cell_of_heap GP.out, cell_of_heap GP.out, heap_lt GP.out⟩ HF.out).mono ?_
    rw [H0.out]
    rintro e w1 ⟨rfl, hq⟩
    have hb1 : Below W0.heap.size W0 w1 := hq.below
    clear hq
    replace GP := Lib.hid ((hb1.block _ (heap_lt GP.out)).trans GP.out)
    replace GR := Lib.hid ((hb1.block _ (heap_lt GR.out)).trans GR.out)
    replace GZ := Lib.hid ((hb1.block _ (heap_lt GZ.out)).trans GZ.out)
    replace HF := Lib.hid (HF.out.below' hb1)
    replace HB := Lib.hid (HB.out.trans (hb1.mono HB.out.size))
    clear hb1
    obtain ⟨r0, r1, r2, r3, _, _, _, _, rz⟩ := four_at GR.out
    go_wp2_with fail
    refine (l2Row_c (w.heap.size + 1) 0 r w1 ⟨r0, r1, r2, r3⟩).mono ?_
    rw [H1.out]
    rintro e w2 ⟨rfl, hq⟩
    have hb2 : Below w1.heap.size w1 w2 := Qt.below hq
    clear hq r0 r1 r2 r3 rz
    replace GP := Lib.hid ((hb2.block _ (heap_lt GP.out)).trans GP.out)
    replace GR := Lib.hid ((hb2.block _ (heap_lt GR.out)).trans GR.out)
    replace GZ := Lib.hid ((hb2.block _ (heap_lt GZ.out)).trans GZ.out)
    replace HF := Lib.hid (HF.out.below' hb2)
    replace HB := Lib.hid (HB.out.trans (hb2.mono HB.out.size))
    clear hb2
    obtain ⟨p0, p1, _, _, pz⟩ := two_at GP.out
    obtain ⟨y0, y1, y2, z0, z1, z2, yz⟩ := three_at6 GZ.out
    go_wp2_with fail
    refine bodyPost_ret (v := plrv (9) 0 (.slice none 0 0)) (by simp [results, Try.results32, go_sem, y0, y1, y2]) rfl (pres_none ?_)
    exact HB.out.trans (((((But.refl [w.heap.size + 2] _).setCell (p := ⟨w.heap.size + 2, 0, none⟩) (by simp) _).setCell (p := ⟨w.heap.size + 2, 1, none⟩) (by simp) _).setCell (p := ⟨w.heap.size + 2, 2, none⟩) (by simp) _).below HB.out.size (by intro b hb; simp at hb; omega))
  have hC := wpC_d h0 h1 h2 h3
  have hlen := (placesF_zero h0).1
  obtain ⟨jj, hj4, hje⟩ : ∃ j : Nat, j < 4 ∧ r.1 = (j : Int) := by
    have := rowF_zero h1
    exact ⟨r.1.toNat, by omega, by omega⟩
  have hjl : jj < p.fs.length := by omega
  have hrz := ((placesF_zero h0).2.2.2.1 jj hjl).1
  have hfit := rowsF_fits hrz
  have HFIT := Lib.hid hfit.1; have H12 := Lib.hid hfit.2; have HRZ := Lib.hid hrz; have HFR := Lib.hid (fit_of_rowF h1)
  have HW : Hid (wpF p r = p.fs.set jj (setR p.fs[jj] r)) := wpF_at hje hjl
  have HT : Hid (totS p.fs ≤ 12) := (placesF_zero h0).2.2.2.2
  have HLEN := Lib.hid hlen; have HC := Lib.hid hC; have HJE := Lib.hid hje
  have t1 : (m != p.mark + 1) = false := by simpa using h2
  clear h0 h1 h2 hC hlen hrz hfit hje
  have hje : r = ((jj : Int), r.2) := by rw [← HJE.out]
  obtain ⟨ra, rb⟩ := r
  simp only at hje HJE
  have e1 : ra = (jj : Int) := HJE.out
  subst e1
  clear hje HJE
  obtain ⟨rb, rc', rd⟩ := rb
  generalize hQ : wpC p ((jj : Int), rb, rc', rd) m = Q at *
  have HQ := Lib.hid hQ; clear hQ
  generalize hS : setR p.fs[jj] ((jj : Int), rb, rc', rd) = S at *
  have HS := Lib.hid hS; clear hS
  have hl4 : wpL p ((jj : Int), rb, rc', rd) m = if Q = 0 then ⟨p.fs.set jj S, m⟩ else ⟨[], 0⟩ := by unfold wpL; rw [HQ.out, HW.out]
  generalize hL4 : wpL p ((jj : Int), rb, rc', rd) m = L4 at *
  have HL4 := Lib.hid hl4; clear hL4
  have htot : Hid (totS (p.fs.set jj S) ≤ 100) := wp_tot HT.out hjl (by rw [← HS.out]; exact setR_len6 H12.out)
  have hCC : Q = if 12 < totS (p.fs.set jj S) then 8 else 0 := by rw [HC.out, HW.out]
  obtain ⟨T, hT⟩ : ∃ T, T = totS (p.fs.set jj S) := ⟨_, rfl⟩
  rw [← hT] at hCC
  have HCC := Lib.hid hCC; have HTT := Lib.hid hT.symm
  have hT100 : T ≤ 100 := by rw [hT]; exact htot.out
  clear hl4 hCC hT HC HW HQ
  obtain ⟨b0, off0, B0, d0, f0, hA0, _, hbl0, hc0, hr0, _⟩ := rowsAt HF.out hjl
  have HM := Lib.hid hmk; clear hmk hA0 hbl0 hc0 hr0
  simp only at GR HW0
  go_enter Try.func32, Try.ntmps32
  go_wp2_with fail
  rw [← HW0.out]
  refine (l6Fault_c w.heap.size p.mark A c p.fs W0 fp (by have := HSZ.out; omega) ⟨cell_of_heap GP.out, cell_of_heap GP.out, heap_lt GP.out⟩ HF.out).mono ?_
  rw [H0.out]
  rintro e w1 ⟨rfl, hq⟩
  have hb1 : Below W0.heap.size W0 w1 := hq.below
  clear hq
  replace GP := Lib.hid ((hb1.block _ (heap_lt GP.out)).trans GP.out)
  replace GR := Lib.hid ((hb1.block _ (heap_lt GR.out)).trans GR.out)
  replace GZ := Lib.hid ((hb1.block _ (heap_lt GZ.out)).trans GZ.out)
  replace HF := Lib.hid (HF.out.below' hb1)
  replace HB := Lib.hid (HB.out.trans (hb1.mono HB.out.size))
  clear hb1
  obtain ⟨r0, r1, r2, r3, _, _, _, _, rz⟩ := four_at GR.out
  go_wp2_with fail
  refine (l2Row_c (w.heap.size + 1) 0 ((jj : Int), rb, rc', rd) w1 ⟨r0, r1, r2, r3⟩).mono ?_
  rw [H1.out]
  rintro e w2 ⟨rfl, hq⟩
  have hb2 : Below w1.heap.size w1 w2 := Qt.below hq
  clear hq r0 r1 r2 r3 rz
  replace GP := Lib.hid ((hb2.block _ (heap_lt GP.out)).trans GP.out)
  replace GR := Lib.hid ((hb2.block _ (heap_lt GR.out)).trans GR.out)
  replace GZ := Lib.hid ((hb2.block _ (heap_lt GZ.out)).trans GZ.out)
  replace HF := Lib.hid (HF.out.below' hb2)
  replace HB := Lib.hid (HB.out.trans (hb2.mono HB.out.size))
  clear hb2
  obtain ⟨p0, p1, _, _, pz⟩ := two_at GP.out
  have hm0 := HM.out
  go_wp2_with fail
  clear p0 p1 pz hm0
  refine (l6Copy_c p (.slice A p.fs.length c) w2 fp HSZ.out ⟨HF.out⟩).mono ?_
  rintro e w3 ⟨v3, f3, rfl, hr3, hn3, ⟨hf3, hd3⟩, hb3⟩
  have sz2 := HB.out.size
  have sz2 := heap_lt GZ.out
  have GZ2 := GZ; have HB2 := HB
  have hb32 := hb3
  replace GP := Lib.hid ((hb3.block _ (heap_lt GP.out)).trans GP.out)
  replace GR := Lib.hid ((hb3.block _ (heap_lt GR.out)).trans GR.out)
  replace GZ := Lib.hid ((hb3.block _ (heap_lt GZ.out)).trans GZ.out)
  replace HF := Lib.hid (HF.out.below' hb3)
  replace HB := Lib.hid (HB.out.trans (hb3.mono HB.out.size))
  obtain ⟨co, bo, oo, old, ev, hbo, hbl, hco, hput⟩ := Sl.put hr3.f hd3 hjl
  subst ev
  have hz3 := hb3.size
  have hb4 := below_new (w := w3) (.cells #[.slice (some ⟨bo, oo, none⟩) p.fs.length co, .int .i64 p.mark] 26)
  have G4 := Lib.hid (heap_new w3 (.cells #[.slice (some ⟨bo, oo, none⟩) p.fs.length co, .int .i64 p.mark] 26) rfl)
  have hcell : ∀ w', Below w3.heap.size w3 w' → w'.cell? ⟨bo, oo + jj, none⟩ = some old := fun w' h => (h.cell (p := ⟨bo, oo + jj, none⟩) hbl).trans hco
  have HP := Lib.hid hput; have HN3 := Lib.hid hn3; have HF3 := Lib.hid hf3; have HL3 := Lib.hid hr3.lt; have HR3 := Lib.hid hr3; have HCE := Lib.hid hcell
  have HBO := Lib.hid (And.intro hbo hbl)
  clear hput hn3 hf3 hr3 hd3 hcell hbo hbl hco hb3
  replace GP := Lib.hid ((hb4.block _ (heap_lt GP.out)).trans GP.out)
  replace GR := Lib.hid ((hb4.block _ (heap_lt GR.out)).trans GR.out)
  replace GZ := Lib.hid ((hb4.block _ (heap_lt GZ.out)).trans GZ.out)
  replace HF := Lib.hid (HF.out.below' hb4)
  replace HB := Lib.hid (HB.out.trans (hb4.mono HB.out.size))
  obtain ⟨bf, off, B, d, f, hA, hbfp, hbl, hc, hr, hfsub⟩ := rowsAt HF.out hjl
  subst hA
  obtain ⟨p0, p1, _, _, pz⟩ := two_at GP.out
  obtain ⟨r0, r1, r2, r3, _, _, _, _, rz⟩ := four_at GR.out
  obtain ⟨g0, g1, _, _, gz⟩ := two_at G4.out
  have hlr := hr.lt
  have HRD := Lib.hid hr
  have i0j : (0 : Int) ≤ (jj : Int) := by omega
  have i1j : (jj : Int) < (p.fs.length : Int) := by omega
  clear hr
  go_wp2_with fail
  generalize w3.alloc (.cells #[.slice (some ⟨bo, oo, none⟩) p.fs.length co, .int .i64 p.mark] 26) = w4 at *
  have n1 : w.heap.size + 2 < bo := by have h1 := HF3.out bo HBO.out.1; have h2 := sz2; omega
  have n2 : bo < w3.heap.size := HBO.out.2
  have n3 : bf < w.heap.size := HLTP.out bf hbfp
  have b4 := hb4.size
  have b4z : Hid (w3.heap.size < w4.heap.size) := heap_lt G4.out
  have N := Lib.hid (And.intro n1 (And.intro n2 n3)); clear n1 n2 n3
  go_region_held3 (fun w' => w'.cell? ⟨w.heap.size, 0, none⟩ = some (.slice (some ⟨bf, off, none⟩) p.fs.length c) ∧ w'.cell? ⟨w.heap.size + 1, 0, none⟩ = some (.int .i64 (jj : Int)) ∧ w'.cell? ⟨w.heap.size + 1, 1, none⟩ = some (.int .i64 rb) ∧ w'.cell? ⟨w.heap.size + 1, 2, none⟩ = some (.int .i64 rc') ∧ w'.cell? ⟨w.heap.size + 1, 3, none⟩ = some (.int .i64 rd) ∧ w'.cell? ⟨w3.heap.size, 0, none⟩ = some (.slice (some ⟨bo, oo, none⟩) p.fs.length co) ∧ w'.cell? ⟨bf, off + jj, none⟩ = some (.slice B p.fs[jj].length d))
    (first
      | go_keep
      | exact HS5.out
      | (obtain ⟨s0, s1, s2, s3, s4, s5, s6⟩ := HS5.out
         obtain ⟨n1, n2, n3⟩ := N.out
         refine ⟨(World.cell?_setCell_other _ _ _ _ ?_).trans s0, (World.cell?_setCell_other _ _ _ _ ?_).trans s1, (World.cell?_setCell_other _ _ _ _ ?_).trans s2, (World.cell?_setCell_other _ _ _ _ ?_).trans s3, (World.cell?_setCell_other _ _ _ _ ?_).trans s4, (World.cell?_setCell_other _ _ _ _ ?_).trans s5, (World.cell?_setCell_other _ _ _ _ ?_).trans s6⟩ <;> (intro h; injection h with h1 h2 _; omega)))
    (first
      | (go_at_call 88
         refine (l2Set_c B d p.fs[jj] ((jj : Int), rb, rc', rd) _ f (by have := H12.out; omega) HFIT.out HFR.out (HRD.out.drew)).mono ?_
         rw [HS.out]
         rintro e w5 ⟨v5, f5, rfl, hr5, hn5, hf5, hb5, _⟩
         obtain ⟨A5, c5, rfl⟩ := hr5.rows_form
         have hq5 : Below w4.heap.size w4 w5 := (Below.refl _ _).drew.trans hb5
         have HS5 : Hid (w5.cell? ⟨w.heap.size, 0, none⟩ = some (.slice (some ⟨bf, off, none⟩) p.fs.length c) ∧ w5.cell? ⟨w.heap.size + 1, 0, none⟩ = some (.int .i64 (jj : Int)) ∧ w5.cell? ⟨w.heap.size + 1, 1, none⟩ = some (.int .i64 rb) ∧ w5.cell? ⟨w.heap.size + 1, 2, none⟩ = some (.int .i64 rc') ∧ w5.cell? ⟨w.heap.size + 1, 3, none⟩ = some (.int .i64 rd) ∧ w5.cell? ⟨w3.heap.size, 0, none⟩ = some (.slice (some ⟨bo, oo, none⟩) p.fs.length co) ∧ w5.cell? ⟨bf, off + jj, none⟩ = some (.slice B p.fs[jj].length d)) :=
           ⟨(hq5.cell (p := ⟨w.heap.size, 0, none⟩) pz).trans p0, (hq5.cell (p := ⟨w.heap.size + 1, 0, none⟩) rz).trans r0, (hq5.cell (p := ⟨w.heap.size + 1, 1, none⟩) rz).trans r1, (hq5.cell (p := ⟨w.heap.size + 1, 2, none⟩) rz).trans r2, (hq5.cell (p := ⟨w.heap.size + 1, 3, none⟩) rz).trans r3, (hq5.cell (p := ⟨w3.heap.size, 0, none⟩) gz).trans g0, (hq5.cell (p := ⟨bf, off + jj, none⟩) hbl).trans hc⟩
         have o0 : w5.cell? ⟨bo, oo + jj, none⟩ = some old := HCE.out _ (hb4.trans (hq5.mono hb4.size))
         have of : w5.frozen? ⟨bo, oo + jj, none⟩ = false := (Below.frozen (w := w3) (p := ⟨bo, oo + jj, none⟩) (hb4.trans (hq5.mono hb4.size)) HBO.out.2).trans (HN3.out bo HBO.out.1 _)
         have oz : bo < w5.heap.size := Nat.lt_of_lt_of_le HBO.out.2 (hb4.trans (hq5.mono hb4.size)).size
         have HR5 := Lib.hid hr5; have HN5 := Lib.hid hn5; have HF5 := Lib.hid hf5; have HQ5 := Lib.hid hq5
         clear hr5 hn5 hf5 hb5 hq5))
  obtain ⟨n1, n2, n3⟩ := N.out
  have hb5 := hb4.trans (HQ5.out.mono hb4.size)
  have hbut := (But.of_below hb5 [bo]).setCell (p := ⟨bo, oo + jj, none⟩) (by simp) (.slice A5 S.length c5)
  have hb6 : Below w2.heap.size w2 (w5.setCell ⟨bo, oo + jj, none⟩ (.slice A5 S.length c5)) := (hb32.trans (hb5.mono hb32.size)).setCell (HF3.out bo HBO.out.1) _
  have hcu : (w5.setCell ⟨bo, oo + jj, none⟩ (.slice A5 S.length c5)).cell? ⟨bo, oo + jj, none⟩ = some (.slice A5 S.length c5) := World.cell?_setCell_same _ _ _ o0
  have hco : ∀ j, j ≠ jj → (w5.setCell ⟨bo, oo + jj, none⟩ (.slice A5 S.length c5)).cell? ⟨bo, oo + j, none⟩ = w3.cell? ⟨bo, oo + j, none⟩ := fun j hj =>
    (World.cell?_setCell_other _ _ _ _ (by intro h; injection h with _ h2 _; omega)).trans (hb5.cell (p := ⟨bo, oo + j, none⟩) n2)
  have hf5 : ∀ x ∈ f5, w3.heap.size < x := fun x hx => by have h1 := HF5.out x hx; have h2 : w4.heap.size = w4.drew.heap.size := rfl; have := b4z.out; omega
  have hrd : Rd (w5.setCell ⟨bo, oo + jj, none⟩ (.slice A5 S.length c5)) 4 (.slice A5 S.length c5) (rcs S) f5 := HR5.out.but ((But.refl [bo] w5).setCell (p := ⟨bo, oo + jj, none⟩) (by simp) _) (fun x hx he => by have := hf5 x hx; simp at he; omega)
  obtain ⟨fq, hRF, hndq, hsub⟩ := HP.out _ _ S f5 hbut hcu hco hrd (fun x hx he => by have := hf5 x hx; have := HL3.out x he; omega)
  have hnfq : NF (w5.setCell ⟨bo, oo + jj, none⟩ (.slice A5 S.length c5)) fq := fun x hx i => by
    rw [World.frozen?_setCell]
    rcases hsub x hx with h | h
    · exact (hb5.frozen (p := ⟨x, i, none⟩) (HL3.out x h)).trans (HN3.out x h i)
    · exact HN5.out x h i
  have HFQ : Hid (w3.heap.size ∉ fq) := fun hx => by
    rcases hsub _ hx with h | h
    · have := HL3.out _ h; omega
    · have := hf5 _ h; omega
  have hfrq : From w2.heap.size fq := fun x hx => by
    rcases hsub x hx with h | h
    · exact HF3.out x h
    · have := hf5 x h; have := hb32.size; omega
  have HG9 := Lib.hid ((Below.heap_setCell w5 ⟨bo, oo + jj, none⟩ (.slice A5 S.length c5) w3.heap.size (by simp only; omega)).trans ((HQ5.out.block _ (heap_lt G4.out)).trans G4.out))
  have hlen6 : Hid ((p.fs.set jj S).length = p.fs.length) := List.length_set
  have hsz6 : Hid (fsz (p.fs.set jj S) ≤ 4194304) := by
    have h1 := htot.out
    have h3 : (p.fs.set jj S).length = 4 := by rw [List.length_set]; exact HLEN.out
    show fsz (p.fs.set jj S) ≤ 4194304
    unfold fsz
    omega
  generalize p.fs.set jj S = LF at *
  generalize w5.setCell ⟨bo, oo + jj, none⟩ (.slice A5 S.length c5) = X at *
  have hcnt := l6Count_q (some ⟨bo, oo, none⟩) co LF T HTT.out X fq hsz6.out (by rw [hlen6.out]; exact hRF)
  rw [hlen6.out] at hcnt
  have HX := Lib.hid (And.intro hRF (And.intro hndq (And.intro hnfq hfrq)))
  have HCNT := Lib.hid hcnt
  clear hbut hcu hco hrd hsub hnfq hfrq hndq hRF o0 of oz p0 p1 pz r0 r1 r2 r3 rz g0 g1 gz hcnt hf5 hb5 hc hbl HCE HP
  replace GZ := Lib.hid ((hb6.block _ (heap_lt GZ2.out)).trans GZ2.out)
  replace HB := Lib.hid (HB2.out.trans (hb6.mono HB2.out.size))
  obtain ⟨g0, g1, _, gf, gz⟩ := two_at HG9.out
  go_wp2_with fail
  refine HCNT.out.mono ?_
  rintro e w' ⟨rfl, hw⟩
  subst hw
  by_cases h12 : 12 < T
  · have hQ : Q = 8 := by rw [HCC.out, if_pos h12]
    have hL : L4 = ⟨[], 0⟩ := by rw [HL4.out, hQ]; rfl
    subst hQ hL
    have t12 : (12 : Int) < (T : Int) := by omega
    obtain ⟨y0, y1, y2, z0, z1, z2, yz⟩ := three_at6 GZ.out
    go_wp2_with fail
    refine bodyPost_ret (v := plrv 8 0 (.slice none 0 0)) (by simp [results, Try.results32, go_sem, y0, y1, y2]) rfl (pres_none ?_)
    exact HB.out.trans (((((But.refl [w.heap.size + 2] _).setCell (p := ⟨w.heap.size + 2, 0, none⟩) (by simp) _).setCell (p := ⟨w.heap.size + 2, 1, none⟩) (by simp) _).setCell (p := ⟨w.heap.size + 2, 2, none⟩) (by simp) _).below HB.out.size (by intro b hb; simp at hb; omega))
  · have hQ : Q = 0 := by rw [HCC.out, if_neg h12]
    have hL : L4 = ⟨LF, m⟩ := by rw [HL4.out, hQ]; rfl
    subst hQ hL
    have t12 : ¬ (12 : Int) < (T : Int) := by omega
    have hz9 := heap_lt HG9.out
    have hbut9 := (But.refl [w3.heap.size] X).setCell (p := ⟨w3.heap.size, 1, none⟩) (by simp) (.int .i64 m)
    have hz2 := heap_lt GZ2.out
    have hw23 := hb32.size
    have hg9 : ∀ x ∈ fq, x ∉ [w3.heap.size] := fun x hx he => by
      simp at he; subst he
      exact HFQ.out hx
    have hgz7 := hbut9.heap GZ.out (by simp; omega)
    obtain ⟨y0, y1, y2, z0, z1, z2, yz⟩ := three_at6 hgz7
    have hpl : PlAt (X.setCell ⟨w3.heap.size, 1, none⟩ (.int .i64 m)) ⟨LF, m⟩ (.slice (some ⟨bo, oo, none⟩) p.fs.length co) fq := ⟨HX.out.1.but hbut9 hg9⟩
    have HEND := Lib.hid (pres_stored (code := 0) (g := w.heap.size + 2) (HB.out.trans (hbut9.below HB.out.size (by intro x hx; simp at hx; omega))) (by omega) hpl (HX.out.2.2.1.but hbut9 (Sl.lt HX.out.1) hg9) (fun x hx => by have := HX.out.2.2.2 x hx; omega) HX.out.2.1)
    clear hbut9 hgz7 hpl hg9
    go_wp2_with fail
    exact bodyPost_ret (v := plrv 0 m (.slice (some ⟨bo, oo, none⟩) p.fs.length co)) (by simp [results, Try.results32, go_sem, y0, y1, y2]) rfl HEND.out
end Go.Proofs.Ytoabohllphoioaa
