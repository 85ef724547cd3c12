/-
  The program's functions of chapter 6, fifth part: a row written into places, by a maker (mkwrite.py).
-/
import Derived.Test.YtldimfmhbdhbnaaImpl6a
import Derived.Test.YtldimfmhbdhbnaaWrite6
import Derived.Test.YtldimfmhbdhbnaaG34
import Derived.Test.YtldimfmhbdhbnaaG18
import Derived.Deep.DeepCutAuto
namespace Go.Proofs.Ytldimfmhbdhbnaa
open Go.RowKit

def AskWritePlace : Prop := ∀ (p : Pl) (vf : Value) (r : R) (m : Int) (w : World) (fp : List Nat), plsz p ≤ 1048576 → (Lit.int .i64 p.mark).wf = true → WfF p.fs → WfR r → (Lit.int .i64 m).wf = true → PlAt w p vf fp →
  Calls Try.prog 14 #[plv p.mark vf, rv r, .int .i64 m] w (PResPost w (wpC p r m) (wpL p r m))

set_option maxRecDepth 100000 in
set_option maxHeartbeats 8000000 in
theorem implWritePlace_a : AskWritePlace := by
  intro p vf r m w fp hs wn hwf hwr _ h
  obtain ⟨A, c, rfl⟩ := h.form
  have h0p := h.f
  obtain ⟨tb, t1, t2, t3⟩ := three_new6 w (.cells #[.slice A p.fs.length c, .int .i64 p.mark] 29) (.cells #[.int .i64 r.1, .int .i64 r.2.1, .int .i64 r.2.2.1, .int .i64 r.2.2.2] 34) (.cells #[.int .i64 0, .slice none 0 0, .int .i64 0] 31)
  have HF := Lib.hid (h.f.below' tb); have HB := Lib.hid tb; have GP := Lib.hid t1; have GR := Lib.hid t2; have GZ := Lib.hid t3; have HSZ : Hid (fsz p.fs ≤ 1048576) := hs
  have HWF := Lib.hid hwf; have HWR := Lib.hid hwr
  have ⟨W0, hW0⟩ : ∃ x, x = ((w.alloc (.cells #[.slice A p.fs.length c, .int .i64 p.mark] 29)).alloc (.cells #[.int .i64 r.1, .int .i64 r.2.1, .int .i64 r.2.2.1, .int .i64 r.2.2.2] 34)).alloc (.cells #[.int .i64 0, .slice none 0 0, .int .i64 0] 31) := ⟨_, rfl⟩
  rw [← hW0] at HF HB GP GR GZ
  have HW0 := Lib.hid hW0; clear hW0
  have HLTP := Lib.hid (Sl.lt h0p); clear h0p
  clear h tb t1 t2 t3 hs hwf hwr wn
  by_cases h0 : placesF p = 0
  case neg =>
    rw [wpC_a h0, wpL_no (by rw [wpC_a h0]; exact h0)]
    obtain ⟨V, hV⟩ : ∃ V, V = placesF p := ⟨_, rfl⟩
    have HV : Hid (placesF ⟨p.fs, p.mark⟩ = V) := hV.symm
    rw [← hV] at h0 ⊢
    have t1 : (V != 0) = true := by simpa using h0
    clear h0 hV
    go_enter Try.func14, Try.ntmps14
    obtain ⟨p0, p1, _, _, pz⟩ := two_at GP.out
    go_wp2_with fail
    rw [← HW0.out]
    refine (implPlacesFault_c p.mark A c p.fs W0 fp HSZ.out HWF.out HF.out).mono ?_
    rw [HV.out]
    rintro e w1 ⟨rfl, hb1⟩
    clear p0 p1 pz
    replace GP := Lib.hid ((hb1.block _ (heap_lt GP.out)).trans GP.out)
    replace GR := Lib.hid ((hb1.block _ (heap_lt GR.out)).trans GR.out)
    replace GZ := Lib.hid ((hb1.block _ (heap_lt GZ.out)).trans GZ.out)
    replace HF := Lib.hid (HF.out.below' hb1)
    replace HB := Lib.hid (HB.out.trans (hb1.mono HB.out.size))
    clear hb1
    obtain ⟨y0, y1, y2, z0, z1, z2, yz⟩ := three_at6 GZ.out
    go_wp2_with fail
    refine bodyPost_ret (v := plrv (V) 0 (.slice none 0 0)) (by simp [results, Try.results14, go_sem, y0, y1, y2]) rfl (pres_none ?_)
    exact HB.out.trans (((((But.refl [w.heap.size + 2] _).setCell (p := ⟨w.heap.size + 2, 0, none⟩) (by simp) _).setCell (p := ⟨w.heap.size + 2, 1, none⟩) (by simp) _).setCell (p := ⟨w.heap.size + 2, 2, none⟩) (by simp) _).below HB.out.size (by intro b hb; simp at hb; omega))
  have H0 : Hid (placesF ⟨p.fs, p.mark⟩ = 0) := h0
  by_cases h1 : rowF r = 0
  case neg =>
    rw [wpC_b h0 h1, wpL_no (by rw [wpC_b h0 h1]; exact h1)]
    obtain ⟨V, hV⟩ : ∃ V, V = rowF r := ⟨_, rfl⟩
    have HV := Lib.hid hV.symm
    rw [← hV] at h1 ⊢
    have t1 : (V != 0) = true := by simpa using h1
    clear h0 h1 hV
    go_enter Try.func14, Try.ntmps14
    obtain ⟨p0, p1, _, _, pz⟩ := two_at GP.out
    go_wp2_with fail
    rw [← HW0.out]
    refine (implPlacesFault_c p.mark A c p.fs W0 fp HSZ.out HWF.out HF.out).mono ?_
    rw [H0.out]
    rintro e w1 ⟨rfl, hb1⟩
    clear p0 p1 pz
    replace GP := Lib.hid ((hb1.block _ (heap_lt GP.out)).trans GP.out)
    replace GR := Lib.hid ((hb1.block _ (heap_lt GR.out)).trans GR.out)
    replace GZ := Lib.hid ((hb1.block _ (heap_lt GZ.out)).trans GZ.out)
    replace HF := Lib.hid (HF.out.below' hb1)
    replace HB := Lib.hid (HB.out.trans (hb1.mono HB.out.size))
    clear hb1
    obtain ⟨r0, r1, r2, r3, _, _, _, _, rz⟩ := four_at GR.out
    go_wp2_with fail
    refine (implRowFault_a r w1 HWR.out).mono ?_
    rw [HV.out]
    rintro e w2 ⟨rfl, hb2⟩
    clear r0 r1 r2 r3 rz
    replace GP := Lib.hid ((hb2.block _ (heap_lt GP.out)).trans GP.out)
    replace GR := Lib.hid ((hb2.block _ (heap_lt GR.out)).trans GR.out)
    replace GZ := Lib.hid ((hb2.block _ (heap_lt GZ.out)).trans GZ.out)
    replace HF := Lib.hid (HF.out.below' hb2)
    replace HB := Lib.hid (HB.out.trans (hb2.mono HB.out.size))
    clear hb2
    obtain ⟨y0, y1, y2, z0, z1, z2, yz⟩ := three_at6 GZ.out
    go_wp2_with fail
    refine bodyPost_ret (v := plrv (V) 0 (.slice none 0 0)) (by simp [results, Try.results14, go_sem, y0, y1, y2]) rfl (pres_none ?_)
    exact HB.out.trans (((((But.refl [w.heap.size + 2] _).setCell (p := ⟨w.heap.size + 2, 0, none⟩) (by simp) _).setCell (p := ⟨w.heap.size + 2, 1, none⟩) (by simp) _).setCell (p := ⟨w.heap.size + 2, 2, none⟩) (by simp) _).below HB.out.size (by intro b hb; simp at hb; omega))
  have H1 := Lib.hid h1
  have hmk : 0 ≤ p.mark ∧ p.mark ≤ 999 := ⟨(placesF_zero h0).2.1, (placesF_zero h0).2.2.1⟩
  by_cases h2 : m = p.mark + 1
  case neg =>
    rw [wpC_c h0 h1 (fun x => h2 x.1), wpL_no (by rw [wpC_c h0 h1 (fun x => h2 x.1)]; decide)]
    have t1 : (m != p.mark + 1) = true := by simpa using h2
    have HM := Lib.hid hmk
    clear h0 h1 h2
    go_enter Try.func14, Try.ntmps14
    obtain ⟨p0, p1, _, _, pz⟩ := two_at GP.out
    go_wp2_with fail
    rw [← HW0.out]
    refine (implPlacesFault_c p.mark A c p.fs W0 fp HSZ.out HWF.out HF.out).mono ?_
    rw [H0.out]
    rintro e w1 ⟨rfl, hb1⟩
    clear p0 p1 pz
    replace GP := Lib.hid ((hb1.block _ (heap_lt GP.out)).trans GP.out)
    replace GR := Lib.hid ((hb1.block _ (heap_lt GR.out)).trans GR.out)
    replace GZ := Lib.hid ((hb1.block _ (heap_lt GZ.out)).trans GZ.out)
    replace HF := Lib.hid (HF.out.below' hb1)
    replace HB := Lib.hid (HB.out.trans (hb1.mono HB.out.size))
    clear hb1
    obtain ⟨r0, r1, r2, r3, _, _, _, _, rz⟩ := four_at GR.out
    go_wp2_with fail
    refine (implRowFault_a r w1 HWR.out).mono ?_
    rw [H1.out]
    rintro e w2 ⟨rfl, hb2⟩
    clear r0 r1 r2 r3 rz
    replace GP := Lib.hid ((hb2.block _ (heap_lt GP.out)).trans GP.out)
    replace GR := Lib.hid ((hb2.block _ (heap_lt GR.out)).trans GR.out)
    replace GZ := Lib.hid ((hb2.block _ (heap_lt GZ.out)).trans GZ.out)
    replace HF := Lib.hid (HF.out.below' hb2)
    replace HB := Lib.hid (HB.out.trans (hb2.mono HB.out.size))
    clear hb2
    obtain ⟨p0, p1, _, _, pz⟩ := two_at GP.out
    obtain ⟨y0, y1, y2, z0, z1, z2, yz⟩ := three_at6 GZ.out
    go_wp2_with fail
    refine bodyPost_ret (v := plrv (9) 0 (.slice none 0 0)) (by simp [results, Try.results14, go_sem, y0, y1, y2]) rfl (pres_none ?_)
    exact HB.out.trans (((((But.refl [w.heap.size + 2] _).setCell (p := ⟨w.heap.size + 2, 0, none⟩) (by simp) _).setCell (p := ⟨w.heap.size + 2, 1, none⟩) (by simp) _).setCell (p := ⟨w.heap.size + 2, 2, none⟩) (by simp) _).below HB.out.size (by intro b hb; simp at hb; omega))
  by_cases h3 : m ≤ 999
  case neg =>
    rw [wpC_c h0 h1 (fun x => h3 x.2), wpL_no (by rw [wpC_c h0 h1 (fun x => h3 x.2)]; decide)]
    have t1 : (m != p.mark + 1) = false := by simpa using h2
    have HM := Lib.hid hmk
    clear h0 h1 h2
    go_enter Try.func14, Try.ntmps14
    obtain ⟨p0, p1, _, _, pz⟩ := two_at GP.out
    go_wp2_with fail
    rw [← HW0.out]
    refine (implPlacesFault_c p.mark A c p.fs W0 fp HSZ.out HWF.out HF.out).mono ?_
    rw [H0.out]
    rintro e w1 ⟨rfl, hb1⟩
    clear p0 p1 pz
    replace GP := Lib.hid ((hb1.block _ (heap_lt GP.out)).trans GP.out)
    replace GR := Lib.hid ((hb1.block _ (heap_lt GR.out)).trans GR.out)
    replace GZ := Lib.hid ((hb1.block _ (heap_lt GZ.out)).trans GZ.out)
    replace HF := Lib.hid (HF.out.below' hb1)
    replace HB := Lib.hid (HB.out.trans (hb1.mono HB.out.size))
    clear hb1
    obtain ⟨r0, r1, r2, r3, _, _, _, _, rz⟩ := four_at GR.out
    go_wp2_with fail
    refine (implRowFault_a r w1 HWR.out).mono ?_
    rw [H1.out]
    rintro e w2 ⟨rfl, hb2⟩
    clear r0 r1 r2 r3 rz
    replace GP := Lib.hid ((hb2.block _ (heap_lt GP.out)).trans GP.out)
    replace GR := Lib.hid ((hb2.block _ (heap_lt GR.out)).trans GR.out)
    replace GZ := Lib.hid ((hb2.block _ (heap_lt GZ.out)).trans GZ.out)
    replace HF := Lib.hid (HF.out.below' hb2)
    replace HB := Lib.hid (HB.out.trans (hb2.mono HB.out.size))
    clear hb2
    obtain ⟨p0, p1, _, _, pz⟩ := two_at GP.out
    obtain ⟨y0, y1, y2, z0, z1, z2, yz⟩ := three_at6 GZ.out
    go_wp2_with fail
    refine bodyPost_ret (v := plrv (9) 0 (.slice none 0 0)) (by simp [results, Try.results14, go_sem, y0, y1, y2]) rfl (pres_none ?_)
    exact HB.out.trans (((((But.refl [w.heap.size + 2] _).setCell (p := ⟨w.heap.size + 2, 0, none⟩) (by simp) _).setCell (p := ⟨w.heap.size + 2, 1, none⟩) (by simp) _).setCell (p := ⟨w.heap.size + 2, 2, none⟩) (by simp) _).below HB.out.size (by intro b hb; simp at hb; omega))
  have hC := wpC_d h0 h1 h2 h3
  have hlen := (placesF_zero h0).1
  obtain ⟨jj, hj4, hje⟩ : ∃ j : Nat, j < 4 ∧ r.1 = (j : Int) := by
    have := rowF_zero h1
    exact ⟨r.1.toNat, by omega, by omega⟩
  have hjl : jj < p.fs.length := by omega
  have hrz := ((placesF_zero h0).2.2.2.1 jj hjl).1
  have hfit := rowsF_fits hrz
  have HFIT := Lib.hid hfit.1; have H12 := Lib.hid hfit.2; have HRZ := Lib.hid hrz; have HFR := Lib.hid (fit_of_rowF h1)
  have HW : Hid (wpF p r = p.fs.set jj (setR p.fs[jj] r)) := wpF_at hje hjl
  have HT : Hid (totS p.fs ≤ 12) := (placesF_zero h0).2.2.2.2
  have HLEN := Lib.hid hlen; have HC := Lib.hid hC; have HJE := Lib.hid hje
  have t1 : (m != p.mark + 1) = false := by simpa using h2
  clear h0 h1 h2 hC hlen hrz hfit hje
  have hje : r = ((jj : Int), r.2) := by rw [← HJE.out]
  obtain ⟨ra, rb⟩ := r
  simp only at hje HJE
  have e1 : ra = (jj : Int) := HJE.out
  subst e1
  clear hje HJE
  obtain ⟨rb, rc', rd⟩ := rb
  generalize hQ : wpC p ((jj : Int), rb, rc', rd) m = Q at *
  have HQ := Lib.hid hQ; clear hQ
  have hp1 : prC p.fs[jj] ((jj : Int), rb, rc', rd) = if 12 < (setR p.fs[jj] ((jj : Int), rb, rc', rd)).length then 8 else 0 := by unfold prC; rw [if_neg (by simpa using HRZ.out), if_neg (by simpa using H1.out)]
  have hp2 : prL p.fs[jj] ((jj : Int), rb, rc', rd) = if prC p.fs[jj] ((jj : Int), rb, rc', rd) = 0 then setR p.fs[jj] ((jj : Int), rb, rc', rd) else [] := rfl
  generalize hS : setR p.fs[jj] ((jj : Int), rb, rc', rd) = S at *
  have hl4 : wpL p ((jj : Int), rb, rc', rd) m = if Q = 0 then ⟨p.fs.set jj S, m⟩ else ⟨[], 0⟩ := by unfold wpL; rw [HQ.out, HW.out]
  generalize hL4 : wpL p ((jj : Int), rb, rc', rd) m = L4 at *
  have HL4 := Lib.hid hl4; clear hL4
  have htot : Hid (totS (p.fs.set jj S) ≤ 100) := wp_tot HT.out hjl (by rw [← hS]; exact setR_len6 H12.out)
  have hge : S.length ≤ totS (p.fs.set jj S) := by have := len_of_tot (p.fs.set jj S) jj (by rw [List.length_set]; exact hjl); simpa using this
  have hCC : Q = if 12 < totS (p.fs.set jj S) then 8 else 0 := by rw [HC.out, HW.out]
  obtain ⟨T, hT⟩ : ∃ T, T = totS (p.fs.set jj S) := ⟨_, rfl⟩
  rw [← hT] at hCC hge
  have HCC := Lib.hid hCC; have HTT := Lib.hid hT.symm
  have hT100 : T ≤ 100 := by rw [hT]; exact htot.out
  have HWJ := Lib.hid (HWF.out p.fs[jj] (List.getElem_mem hjl))
  clear hl4 hCC hT HC HW HQ hS
  have HM := Lib.hid hmk; clear hmk
  simp only at GR HW0
  by_cases h12 : 12 < S.length
  · have hQ : Q = 8 := by rw [HCC.out, if_pos (by omega)]
    have hL : L4 = ⟨[], 0⟩ := by rw [HL4.out, hQ]; rfl
    subst hQ hL
    rw [if_pos h12] at hp1
    rw [hp1, if_neg (by decide)] at hp2
    have HP := Lib.hid (And.intro hp1 hp2)
    clear hp1 hp2
    go_enter Try.func14, Try.ntmps14
    obtain ⟨p0, p1, _, _, pz⟩ := two_at GP.out
    go_wp2_with fail
    rw [← HW0.out]
    refine (implPlacesFault_c p.mark A c p.fs W0 fp HSZ.out HWF.out HF.out).mono ?_
    rw [H0.out]
    rintro e w1 ⟨rfl, hb1⟩
    clear p0 p1 pz
    replace GP := Lib.hid ((hb1.block _ (heap_lt GP.out)).trans GP.out)
    replace GR := Lib.hid ((hb1.block _ (heap_lt GR.out)).trans GR.out)
    replace GZ := Lib.hid ((hb1.block _ (heap_lt GZ.out)).trans GZ.out)
    replace HF := Lib.hid (HF.out.below' hb1)
    replace HB := Lib.hid (HB.out.trans (hb1.mono HB.out.size))
    clear hb1
    obtain ⟨r0, r1, r2, r3, _, _, _, _, rz⟩ := four_at GR.out
    go_wp2_with fail
    refine (implRowFault_a ((jj : Int), rb, rc', rd) w1 HWR.out).mono ?_
    rw [H1.out]
    rintro e w2 ⟨rfl, hb2⟩
    clear r0 r1 r2 r3 rz
    replace GP := Lib.hid ((hb2.block _ (heap_lt GP.out)).trans GP.out)
    replace GR := Lib.hid ((hb2.block _ (heap_lt GR.out)).trans GR.out)
    replace GZ := Lib.hid ((hb2.block _ (heap_lt GZ.out)).trans GZ.out)
    replace HF := Lib.hid (HF.out.below' hb2)
    replace HB := Lib.hid (HB.out.trans (hb2.mono HB.out.size))
    clear hb2
    obtain ⟨p0, p1, _, _, pz⟩ := two_at GP.out
    have hm0 := HM.out
    go_upto_region 9 with (fail)
    clear p1 hm0
    obtain ⟨bf, off, B, d, f, hA, hbfp, hbl, hc, hr, hfsub⟩ := rowsAt HF.out hjl
    subst hA
    obtain ⟨r0, r1, r2, r3, _, _, _, _, rz⟩ := four_at GR.out
    have HRD := Lib.hid hr
    have i0j : (0 : Int) ≤ (jj : Int) := by omega
    have i1j : (jj : Int) < (p.fs.length : Int) := by omega
    have hs12 : p.fs[jj].length ≤ 1048576 := by have := H12.out; omega
    clear hr
    go_cut [9] (fun pp wc => ∃ g A c fv, pp = .pointer (some ⟨g, 0, none⟩) ∧ Hid (Got6 w2 (8) ([]) g A c fv wc))
    case first =>
      go_region_held3 (fun w' => w'.cell? ⟨w.heap.size, 0, none⟩ = some (.slice (some ⟨bf, off, none⟩) p.fs.length c) ∧ w'.cell? ⟨w.heap.size + 1, 0, none⟩ = some (.int .i64 (jj : Int)) ∧ w'.cell? ⟨w.heap.size + 1, 1, none⟩ = some (.int .i64 rb) ∧ w'.cell? ⟨w.heap.size + 1, 2, none⟩ = some (.int .i64 rc') ∧ w'.cell? ⟨w.heap.size + 1, 3, none⟩ = some (.int .i64 rd) ∧ w'.cell? ⟨bf, off + jj, none⟩ = some (.slice B p.fs[jj].length d))
        (first
          | go_keep
          | (refine ⟨(Below.cell (w := w2) (p := ⟨w.heap.size, _, none⟩) ?_ pz).trans p0, (Below.cell (w := w2) (p := ⟨w.heap.size + 1, _, none⟩) ?_ rz).trans r0, (Below.cell (w := w2) (p := ⟨w.heap.size + 1, _, none⟩) ?_ rz).trans r1, (Below.cell (w := w2) (p := ⟨w.heap.size + 1, _, none⟩) ?_ rz).trans r2, (Below.cell (w := w2) (p := ⟨w.heap.size + 1, _, none⟩) ?_ rz).trans r3, (Below.cell (w := w2) (p := ⟨bf, _, none⟩) ?_ hbl).trans hc⟩ <;> (repeat (first | with_reducible exact hk4 | with_reducible refine below_more ?_ _ | with_reducible refine Below.setCell ?_ hlo _))))
        (first
          | (go_at_call 19
             refine (implPutRow_a B d p.fs[jj] ((jj : Int), rb, rc', rd) w2.drew f hs12 HWJ.out HWR.out HRD.out.drew).mono ?_
             rw [HP.out.1, HP.out.2]
             rintro e x4 ⟨q4, rfl, ⟨v4, f4, rfl, hr4, hn4, hf4⟩, hb4⟩
             obtain ⟨A4, c4, rfl⟩ := hr4.rows_form
             have hk4 : Below w2.heap.size w2 x4 := (Below.refl _ _).drew.trans hb4
             have hf4' : From w2.heap.size f4 := hf4
             clear hb4 hf4)
          | (go_at_call 19
             refine (implPutRow_a B d p.fs[jj] ((jj : Int), rb, rc', rd) _ f hs12 HWJ.out HWR.out (HRD.out.drew.alloc _)).mono ?_
             rw [HP.out.1, HP.out.2]
             rintro e x4 ⟨q4, rfl, ⟨v4, f4, rfl, hr4, hn4, hf4⟩, hb4⟩
             have gg4 := Lib.hid (show x4.heap[w2.heap.size]? = _ from (hb4.block w2.heap.size (by simp)).trans (heap_new w2.drew _ rfl))
             obtain ⟨y0, y1, z0, z1, z4⟩ := two_at gg4.out
             have hap := hf4.mono (show w2.heap.size + 1 ≤ _ by simp)
             obtain ⟨A4, c4, rfl⟩ := hr4.rows_form
             have hk4 : Below w2.heap.size w2 x4 := ((Below.refl _ _).drew.alloc (by simp) _).trans (hb4.mono (by simp))
             have hlo := Nat.le_refl w2.heap.size
             clear hb4 hf4))
      all_goals (go_wp2_with fail; go_meet)
      all_goals (first | exact ⟨_, _, _, _, rfl, Lib.hid (got6_new hr4 hn4 hf4' hk4)⟩ | exact ⟨_, _, _, _, rfl, Lib.hid (got6_set gg4.out hlo hap hr4 hn4 hk4)⟩)
    case rest =>
      obtain ⟨g9, A9, c9, f9, rfl, HG9⟩ := hcut
      have ⟨w3, hw3⟩ : ∃ x, x = wc := ⟨_, rfl⟩
      subst hw3
      clear p0 pz r0 r1 r2 r3 rz hc hbl
      have sz2 := heap_lt GZ.out
      have GZ2 := GZ; have HB2 := HB
      have hb3 := HG9.out.bel
      replace GP := Lib.hid ((hb3.block _ (heap_lt GP.out)).trans GP.out)
      replace GR := Lib.hid ((hb3.block _ (heap_lt GR.out)).trans GR.out)
      replace GZ := Lib.hid ((hb3.block _ (heap_lt GZ.out)).trans GZ.out)
      replace HF := Lib.hid (HF.out.below' hb3)
      replace HB := Lib.hid (HB.out.trans (hb3.mono HB.out.size))
      obtain ⟨x0, x1, _, _, xz⟩ := two_at HG9.out.blk
      obtain ⟨y0, y1, y2, z0, z1, z2, yz⟩ := three_at6 GZ.out
      go_wp2_with fail
      refine bodyPost_ret (v := plrv (8) 0 (.slice none 0 0)) (by simp [results, Try.results14, go_sem, y0, y1, y2]) rfl (pres_none ?_)
      exact HB.out.trans (((((But.refl [w.heap.size + 2] _).setCell (p := ⟨w.heap.size + 2, 0, none⟩) (by simp) _).setCell (p := ⟨w.heap.size + 2, 1, none⟩) (by simp) _).setCell (p := ⟨w.heap.size + 2, 2, none⟩) (by simp) _).below HB.out.size (by intro b hb; simp at hb; omega))
  rw [if_neg h12] at hp1
  rw [hp1, if_pos rfl] at hp2
  have HP := Lib.hid (And.intro hp1 hp2)
  clear hp1 hp2
  have hmkS : ∀ W : World, (Instr.makeSlice 27 (.int .i64 (p.fs.length : Int)) (.int .i64 (p.fs.length : Int))).run Try.prog W = .ok (.slice (some ⟨W.heap.size, 0, none⟩) p.fs.length p.fs.length) (W.alloc (.cells (madeCells #[.slice none 0 0] p.fs.length) 24)) := fun W => makeRowSS _ (by have := HLEN.out; omega) W
  have HMKS := Lib.hid hmkS; clear hmkS
  go_enter Try.func14, Try.ntmps14
  obtain ⟨p0, p1, _, _, pz⟩ := two_at GP.out
  go_wp2_with fail
  rw [← HW0.out]
  refine (implPlacesFault_c p.mark A c p.fs W0 fp HSZ.out HWF.out HF.out).mono ?_
  rw [H0.out]
  rintro e w1 ⟨rfl, hb1⟩
  clear p0 p1 pz
  replace GP := Lib.hid ((hb1.block _ (heap_lt GP.out)).trans GP.out)
  replace GR := Lib.hid ((hb1.block _ (heap_lt GR.out)).trans GR.out)
  replace GZ := Lib.hid ((hb1.block _ (heap_lt GZ.out)).trans GZ.out)
  replace HF := Lib.hid (HF.out.below' hb1)
  replace HB := Lib.hid (HB.out.trans (hb1.mono HB.out.size))
  clear hb1
  obtain ⟨r0, r1, r2, r3, _, _, _, _, rz⟩ := four_at GR.out
  go_wp2_with fail
  refine (implRowFault_a ((jj : Int), rb, rc', rd) w1 HWR.out).mono ?_
  rw [H1.out]
  rintro e w2 ⟨rfl, hb2⟩
  clear r0 r1 r2 r3 rz
  replace GP := Lib.hid ((hb2.block _ (heap_lt GP.out)).trans GP.out)
  replace GR := Lib.hid ((hb2.block _ (heap_lt GR.out)).trans GR.out)
  replace GZ := Lib.hid ((hb2.block _ (heap_lt GZ.out)).trans GZ.out)
  replace HF := Lib.hid (HF.out.below' hb2)
  replace HB := Lib.hid (HB.out.trans (hb2.mono HB.out.size))
  clear hb2
  obtain ⟨p0, p1, _, _, pz⟩ := two_at GP.out
  have hm0 := HM.out
  go_upto_region 9 with (fail)
  clear p1 hm0
  obtain ⟨bf, off, B, d, f, hA, hbfp, hbl, hc, hr, hfsub⟩ := rowsAt HF.out hjl
  subst hA
  obtain ⟨r0, r1, r2, r3, _, _, _, _, rz⟩ := four_at GR.out
  have HRD := Lib.hid hr
  have i0j : (0 : Int) ≤ (jj : Int) := by omega
  have i1j : (jj : Int) < (p.fs.length : Int) := by omega
  have hs12 : p.fs[jj].length ≤ 1048576 := by have := H12.out; omega
  clear hr
  go_cut [9] (fun pp wc => ∃ g A c fv, pp = .pointer (some ⟨g, 0, none⟩) ∧ Hid (Got6 w2 (0) (S) g A c fv wc))
  case first =>
    go_region_held3 (fun w' => w'.cell? ⟨w.heap.size, 0, none⟩ = some (.slice (some ⟨bf, off, none⟩) p.fs.length c) ∧ w'.cell? ⟨w.heap.size + 1, 0, none⟩ = some (.int .i64 (jj : Int)) ∧ w'.cell? ⟨w.heap.size + 1, 1, none⟩ = some (.int .i64 rb) ∧ w'.cell? ⟨w.heap.size + 1, 2, none⟩ = some (.int .i64 rc') ∧ w'.cell? ⟨w.heap.size + 1, 3, none⟩ = some (.int .i64 rd) ∧ w'.cell? ⟨bf, off + jj, none⟩ = some (.slice B p.fs[jj].length d))
      (first
        | go_keep
        | (refine ⟨(Below.cell (w := w2) (p := ⟨w.heap.size, _, none⟩) ?_ pz).trans p0, (Below.cell (w := w2) (p := ⟨w.heap.size + 1, _, none⟩) ?_ rz).trans r0, (Below.cell (w := w2) (p := ⟨w.heap.size + 1, _, none⟩) ?_ rz).trans r1, (Below.cell (w := w2) (p := ⟨w.heap.size + 1, _, none⟩) ?_ rz).trans r2, (Below.cell (w := w2) (p := ⟨w.heap.size + 1, _, none⟩) ?_ rz).trans r3, (Below.cell (w := w2) (p := ⟨bf, _, none⟩) ?_ hbl).trans hc⟩ <;> (repeat (first | with_reducible exact hk4 | with_reducible refine below_more ?_ _ | with_reducible refine Below.setCell ?_ hlo _))))
      (first
        | (go_at_call 19
           refine (implPutRow_a B d p.fs[jj] ((jj : Int), rb, rc', rd) w2.drew f hs12 HWJ.out HWR.out HRD.out.drew).mono ?_
           rw [HP.out.1, HP.out.2]
           rintro e x4 ⟨q4, rfl, ⟨v4, f4, rfl, hr4, hn4, hf4⟩, hb4⟩
           obtain ⟨A4, c4, rfl⟩ := hr4.rows_form
           have hk4 : Below w2.heap.size w2 x4 := (Below.refl _ _).drew.trans hb4
           have hf4' : From w2.heap.size f4 := hf4
           clear hb4 hf4)
        | (go_at_call 19
           refine (implPutRow_a B d p.fs[jj] ((jj : Int), rb, rc', rd) _ f hs12 HWJ.out HWR.out (HRD.out.drew.alloc _)).mono ?_
           rw [HP.out.1, HP.out.2]
           rintro e x4 ⟨q4, rfl, ⟨v4, f4, rfl, hr4, hn4, hf4⟩, hb4⟩
           have gg4 := Lib.hid (show x4.heap[w2.heap.size]? = _ from (hb4.block w2.heap.size (by simp)).trans (heap_new w2.drew _ rfl))
           obtain ⟨y0, y1, z0, z1, z4⟩ := two_at gg4.out
           have hap := hf4.mono (show w2.heap.size + 1 ≤ _ by simp)
           obtain ⟨A4, c4, rfl⟩ := hr4.rows_form
           have hk4 : Below w2.heap.size w2 x4 := ((Below.refl _ _).drew.alloc (by simp) _).trans (hb4.mono (by simp))
           have hlo := Nat.le_refl w2.heap.size
           clear hb4 hf4))
    all_goals (go_wp2_with fail; go_meet)
    all_goals (first | exact ⟨_, _, _, _, rfl, Lib.hid (got6_new hr4 hn4 hf4' hk4)⟩ | exact ⟨_, _, _, _, rfl, Lib.hid (got6_set gg4.out hlo hap hr4 hn4 hk4)⟩)
  case rest =>
    obtain ⟨g9, A9, c9, f9, rfl, HG9⟩ := hcut
    have ⟨w3, hw3⟩ : ∃ x, x = wc := ⟨_, rfl⟩
    subst hw3
    clear p0 pz r0 r1 r2 r3 rz hc hbl
    have sz2 := heap_lt GZ.out
    have GZ2 := GZ; have HB2 := HB
    have hb3 := HG9.out.bel
    replace GP := Lib.hid ((hb3.block _ (heap_lt GP.out)).trans GP.out)
    replace GR := Lib.hid ((hb3.block _ (heap_lt GR.out)).trans GR.out)
    replace GZ := Lib.hid ((hb3.block _ (heap_lt GZ.out)).trans GZ.out)
    replace HF := Lib.hid (HF.out.below' hb3)
    replace HB := Lib.hid (HB.out.trans (hb3.mono HB.out.size))
    obtain ⟨x0, x1, _, _, xz⟩ := two_at HG9.out.blk
    obtain ⟨p0, p1, _, _, pz⟩ := two_at GP.out
    have hmkS := HMKS.out
    have hmaxp := HF.out.len_le.2
    go_wp2_with fail
    clear hmkS p0 p1 pz x0 x1 xz
    go_loopw [56] (fun i wr => ∃ k : Nat, k ≤ p.fs.length ∧ i = .int .i64 k ∧ Hid (Fill rowsK [.slice none 0 0] w3 24 p.fs k wr)) (fun i _ => p.fs.length - (intOf i).toNat)
    case atStart => exact ⟨0, Nat.zero_le _, rfl, Lib.hid (Fill.zero (kd := rowsK) (l := p.fs) (madeNils _))⟩
    case round =>
      obtain ⟨k, hk, rfl, hfl⟩ := hrel
      by_cases hlt : k < p.fs.length
      · obtain ⟨b1, o1, B1, d1, f1, e1, _, hb1l, hc1, hr1, _⟩ := rowsAt (HF.out.below' hfl.out.below) hlt
        injection e1 with e1
        injection e1 with e2 e3 _
        subst e2 e3
        have hsk : p.fs[k].length ≤ 1048576 := by have h1 := len_of_tot p.fs k hlt; have h2 := HT.out; omega
        have HR1 := Lib.hid hr1; clear hr1
        go_wp2_with fail
        refine (copyRows_c B1 d1 p.fs[k] _ f1 hsk HR1.out).mono ?_
        rintro e x1 ⟨B5, d5, f5, rfl, hr5, hn5, hf5, hb5⟩
        obtain ⟨hz1, hfz, hcl⟩ := hfl.out.cells (by rfl) hlt hb5
        have c0 := hcl 0 _ rfl
        simp only [rowsK, Nat.mul_one, Nat.add_zero] at c0
        have f0 := hfz k
        have hst : ∀ x2, But [w3.heap.size] x1 x2 → (∀ cs, x1.heap[w3.heap.size]? = some (.cells cs 24 (0, 0)) → x2.heap[w3.heap.size]? = some (.cells (setAll cs (k * rowsK.K) [.slice B5 p.fs[k].length d5]) 24 (0, 0))) → Fill rowsK [.slice none 0 0] w3 24 p.fs (k + 1) x2 :=
          fun x2 hbut hset => hfl.out.step rfl hlt hb5 ⟨_, rfl, hr5⟩ hn5 hf5 hr5.nodup hbut hset
        have HST := Lib.hid hst; clear hst
        clear hr5 hn5 hf5 hb5 hfl hfz hcl hc1
        go_wp2_with fail
        refine ⟨⟨k + 1, by omega, by go_num, Lib.hid (HST.out _ ((But.refl _ _).setCell (by simp) _) (fun cs hcs => ?_))⟩, by simp [intOf]; omega⟩
        simp only [rowsK, Nat.mul_one, setAll]
        exact heap_set1 hcs
      · obtain rfl : k = p.fs.length := by omega
        obtain ⟨A5, c5, fq0, e5, hr5, hn5, hf5, hd5, hb5⟩ := hfl.out.done (by have := HLEN.out; unfold maxLen; omega)
        injection e5 with e5
        injection e5 with e6 _ e7
        subst e6 e7
        obtain ⟨co, bo, oo, old, ev, hbo, hbl, hco, hput⟩ := Sl.put hr5 hd5 hjl
        injection ev with e8 _ e9
        injection e8 with e8
        injection e8 with e10 e11 _
        subst e10 e11 e9
        rw [Nat.zero_add] at hco
        have HG9r := Lib.hid (HG9.out.rd.below' hb5)
        have GR5 := Lib.hid ((hb5.block _ (heap_lt GR.out)).trans GR.out)
        have G95 := Lib.hid ((hb5.block _ (heap_lt HG9.out.blk)).trans HG9.out.blk)
        have GZ5 := Lib.hid ((hb5.block _ (heap_lt GZ.out)).trans GZ.out)
        have HB5 := Lib.hid (HB.out.trans (hb5.mono HB.out.size))
        have of : wr.frozen? ⟨w3.heap.size, jj, none⟩ = false := hn5 _ hbo _
        have hf9 : ∀ x ∈ f9, x < w3.heap.size := HG9.out.rd.lt
        obtain ⟨r0, r1, r2, r3, _, _, _, _, rz⟩ := four_at GR5.out
        obtain ⟨x0, x1, _, _, xz⟩ := two_at G95.out
        have hbut := (But.refl [w3.heap.size] wr).setCell (p := ⟨w3.heap.size, jj, none⟩) (by simp) (.slice A9 S.length c9)
        have hcu : (wr.setCell ⟨w3.heap.size, jj, none⟩ (.slice A9 S.length c9)).cell? ⟨w3.heap.size, 0 + jj, none⟩ = some (.slice A9 S.length c9) := by rw [Nat.zero_add]; exact World.cell?_setCell_same _ _ _ hco
        have hcoo : ∀ j, j ≠ jj → (wr.setCell ⟨w3.heap.size, jj, none⟩ (.slice A9 S.length c9)).cell? ⟨w3.heap.size, 0 + j, none⟩ = wr.cell? ⟨w3.heap.size, 0 + j, none⟩ := fun j hj =>
          World.cell?_setCell_other _ _ _ _ (by intro h; injection h with _ h2 _; omega)
        have hn9 : ∀ x ∈ f9, x ∉ [w3.heap.size] := fun x hx he => by have := hf9 x hx; simp at he; omega
        obtain ⟨fq, hRF, hndq, hsub⟩ := hput _ _ S f9 hbut hcu hcoo (HG9r.out.but hbut hn9) (fun x hx he => by have := hf9 x hx; have := hf5 x he; omega)
        have hw23 := HG9.out.bel.size
        have hnfq : NF (wr.setCell ⟨w3.heap.size, jj, none⟩ (.slice A9 S.length c9)) fq := fun x hx i => by
          rw [World.frozen?_setCell]
          rcases hsub x hx with h | h
          · exact hn5 x h i
          · exact (hb5.frozen (p := ⟨x, i, none⟩) (hf9 x h)).trans (HG9.out.nf x h i)
        have hfrq : From w2.heap.size fq := fun x hx => by
          rcases hsub x hx with h | h
          · have := hf5 x h; omega
          · exact HG9.out.fr x h
        have hb6 : Below w2.heap.size w2 (wr.setCell ⟨w3.heap.size, jj, none⟩ (.slice A9 S.length c9)) := (HG9.out.bel.trans (hb5.mono hw23)).setCell hw23 _
        have hlen6 : Hid ((p.fs.set jj S).length = p.fs.length) := List.length_set
        have hsz6 : Hid (fsz (p.fs.set jj S) ≤ 4194304) := by
          have h1 := htot.out
          have h3 : (p.fs.set jj S).length = 4 := by rw [List.length_set]; exact HLEN.out
          show fsz (p.fs.set jj S) ≤ 4194304
          unfold fsz
          omega
        have hcnt := fun X (h : RdF X (.slice (some ⟨w3.heap.size, 0, none⟩) (p.fs.set jj S).length p.fs.length) (p.fs.set jj S) fq) => countRows_q (some ⟨w3.heap.size, 0, none⟩) p.fs.length (p.fs.set jj S) T HTT.out X fq hsz6.out h
        rw [hlen6.out] at hcnt
        have HCNT := Lib.hid hcnt
        have HX := Lib.hid (And.intro hRF (And.intro hndq (And.intro hnfq (And.intro hfrq hb6))))
        generalize p.fs.set jj S = LF at *
        clear hput hcnt hRF hndq hnfq hfrq hb6 hbut hcu hcoo hsub hn5 hr5 hf5 hd5 hb5 hbl hbo hn9 hfl
        go_wp2_with fail
        generalize wr.setCell ⟨w3.heap.size, jj, none⟩ (.slice A9 S.length c9) = X at *
        refine (HCNT.out X HX.out.1).mono ?_
        rintro e w' ⟨rfl, hw⟩
        subst hw
        replace GZ := Lib.hid ((HX.out.2.2.2.2.block _ (heap_lt GZ2.out)).trans GZ2.out)
        replace HB := Lib.hid (HB2.out.trans (HX.out.2.2.2.2.mono HB2.out.size))
        obtain ⟨y0, y1, y2, z0, z1, z2, yz⟩ := three_at6 GZ.out
        clear r0 r1 r2 r3 rz x0 x1 xz hco of
        by_cases h13 : 12 < T
        · have hQ : Q = 8 := by rw [HCC.out, if_pos h13]
          have hL : L4 = ⟨[], 0⟩ := by rw [HL4.out, hQ]; rfl
          subst hQ hL
          have t12 : (12 : Int) < (T : Int) := by omega
          go_wp2_with fail
          refine bodyPost_ret (v := plrv 8 0 (.slice none 0 0)) (by simp [results, Try.results14, go_sem, y0, y1, y2]) rfl (pres_none ?_)
          exact HB.out.trans (((((But.refl [w.heap.size + 2] _).setCell (p := ⟨w.heap.size + 2, 0, none⟩) (by simp) _).setCell (p := ⟨w.heap.size + 2, 1, none⟩) (by simp) _).setCell (p := ⟨w.heap.size + 2, 2, none⟩) (by simp) _).below HB.out.size (by intro b hb; simp at hb; omega))
        · have hQ : Q = 0 := by rw [HCC.out, if_neg h13]
          have hL : L4 = ⟨LF, m⟩ := by rw [HL4.out, hQ]; rfl
          subst hQ hL
          have t12 : ¬ (12 : Int) < (T : Int) := by omega
          have HEND := Lib.hid (pres_stored (code := 0) (g := w.heap.size + 2) (p := ⟨LF, m⟩) HB.out (by omega) ⟨HX.out.1⟩ HX.out.2.2.1 (fun x hx => by have := HX.out.2.2.2.1 x hx; omega) HX.out.2.1)
          go_wp2_with fail
          exact bodyPost_ret (v := plrv 0 m (.slice (some ⟨w3.heap.size, 0, none⟩) p.fs.length p.fs.length)) (by simp [results, Try.results14, go_sem, y0, y1, y2]) rfl HEND.out
end Go.Proofs.Ytldimfmhbdhbnaa
