/-
  The model's functions of chapter 6, fourth part: scanning.
-/
import Derived.Test.YtoabohllphoioaaSpec6c
namespace Go.Proofs.Ytoabohllphoioaa
open Go.RowKit

/-- The first k rows of a slice of rows. -/
theorem Rd.rows_take {w : World} {rs : List R} {fp : List Nat} {A : Option Addr} {n c : Nat} (h : Rd w 4 (.slice A n c) (rcs rs) fp) (k : Nat) (hk : k ≤ rs.length) :
    ∃ fq, Rd w 4 (.slice A k c) (rcs (rs.take k)) fq ∧ ∀ x ∈ fq, x ∈ fp := by
  have hn := h.rows_len
  obtain ⟨A', n', c', e, h1, h2, h2', h3⟩ := h
  injection e with e1 e2 e3
  subst e1 e2 e3
  have hl : (rcs (rs.take k)).length = k * 4 := by rw [rcs_length, List.length_take, Nat.min_eq_left hk]
  rcases Nat.eq_zero_or_pos k with h0 | h0
  · exact ⟨[], ⟨_, k, c, rfl, hl, by omega, by omega, .inl ⟨h0, rfl⟩⟩, by simp⟩
  · rcases h3 with ⟨h3, _⟩ | ⟨b, off, rfl, rfl, hlt, hc⟩
    · omega
    · refine ⟨[b], ⟨_, k, c, rfl, hl, by omega, by omega, .inr ⟨b, off, rfl, rfl, hlt, fun i u hu => hc i u ?_⟩⟩, by simp⟩
      have e : rcs rs = rcs (rs.take k) ++ rcs (rs.drop k) := by rw [← rcs_append, List.take_append_drop]
      rw [e, List.getElem?_append_left (List.getElem?_eq_some_iff.1 hu).1]
      exact hu
theorem rcap {w : World} {size : Nat} {A : Option Addr} {n c : Nat} {xs : List Value} {fp : List Nat} (h : Rd w size (.slice A n c) xs fp) : n ≤ c := by
  obtain ⟨A', n', c', e, h1, h2, h2', h3⟩ := h
  injection e with e1 e2 e3
  subst e2 e3
  exact h2'

theorem l1Min_s (a b : Int) (w : World) : Calls Try.prog 74 #[.int .i64 a, .int .i64 b] w fun e w' => e = .returned (.int .i64 (if a < b then a else b)) ∧ w = w' := by
  by_cases h : a < b
  all_goals
    go_enter Try.func74, Try.ntmps74
    go_wp2
    go_ret
    exact ⟨by simp [h], rfl⟩
/-- How many of n there are at most. -/
def cap (m : Int) (n : Nat) : Nat := if m < (n : Int) then m.toNat else n
theorem cap_le (m : Int) (n : Nat) : cap m n ≤ n := by unfold cap; split <;> omega
theorem cap_int (m : Int) (n : Nat) (h : 0 ≤ m) : (if m < (n : Int) then m else (n : Int)) = (cap m n : Nat) := by unfold cap; split <;> omega
/-- What a scan answers: the code, the rows. -/
def scC (p : Pl) (f m : Int) : Int := if placesF p = 0 then (if inB f 0 100 then (if inB m 1 12 then 0 else 3) else 3) else placesF p
def scL (p : Pl) (f m : Int) : List R := if scC p f m = 0 then (cutR p.fs.flatten f 100).take (cap m (cutR p.fs.flatten f 100).length) else []
theorem scL_len (p : Pl) (f m : Int) : (scL p f m).length ≤ 12 := by
  unfold scL
  split
  · rename_i h
    have h0 : placesF p = 0 := by
      unfold scC at h
      split at h
      · assumption
      · exact h
    have := (placesF_zero h0).2.2.2.2
    have h2 := cutR_len p.fs.flatten f 100 p.fs.flatten.length
    rw [List.take_length, flat_tot] at h2
    rw [List.length_take]; omega
  · simp
theorem files_fits {p : Pl} (h : placesF p = 0) : Fits p.fs.flatten := by
  have hz := (placesF_zero h).2.2.2.1
  intro j hj
  have hm := List.getElem_mem hj
  obtain ⟨rs, hrs, hr⟩ := List.mem_flatten.1 hm
  obtain ⟨k, hk, rfl⟩ := List.mem_iff_getElem.1 hrs
  obtain ⟨i, hi, e⟩ := List.mem_iff_getElem.1 hr
  rw [← e]
  exact (rowsF_fits (hz k hk).1).1 i hi

set_option maxRecDepth 100000 in
set_option maxHeartbeats 4000000 in
theorem specScanPlaces_r (p : Pl) (vf : Value) (f m : Int) (w : World) (fp : List Nat) (hs : plsz p ≤ 1048576) (h : PlAt w p vf fp) :
    Calls Try.prog 18 #[plv p.mark vf, .int .i64 f, .int .i64 m] w (RResPost w (scC p f m) (scL p f m)) := by
  obtain ⟨A, c, rfl⟩ := h.form
  have HF := Lib.hid ((h.f.alloc (.cells #[.slice A p.fs.length c, .int .i64 p.mark] 26)).alloc (.cells #[.int .i64 0, .slice none 0 0] 31))
  have hsf : fsz p.fs ≤ 1048576 := hs
  have hcall := l6Fault_c w.heap.size p.mark A c p.fs _ fp (by omega) (plbox_new w _ p.mark (.cells #[.int .i64 0, .slice none 0 0] 31)) HF.out
  clear h
  by_cases h0 : placesF p = 0
  case neg =>
    have hC : scC p f m = placesF p := by unfold scC; rw [if_neg h0]
    have hL : scL p f m = [] := by unfold scL; rw [if_neg (by rw [hC]; exact h0)]
    rw [hC, hL]
    obtain ⟨V, hV⟩ : ∃ V, V = placesF p := ⟨_, rfl⟩
    have HV : Hid (placesF ⟨p.fs, p.mark⟩ = V) := hV.symm
    rw [← hV] at h0 ⊢
    have t1 : (V != 0) = true := by simpa using h0
    rw [HV.out] at hcall
    clear h0 hC hL hsf hV
    go_enter Try.func18, Try.ntmps18
    go_wp2_with fail
    refine hcall.mono ?_
    rintro e w1 ⟨rfl, hq⟩
    have HB1 := Lib.hid ((below_more (below_new (w := w) (.cells #[.slice A p.fs.length c, .int .i64 p.mark] 26)) (.cells #[.int .i64 0, .slice none 0 0] 31)).trans (hq.below.mono (by simp; omega)))
    have hg1 := (hq.below.block _ (by simp)).trans (heap_new (w.alloc (.cells #[.slice A p.fs.length c, .int .i64 p.mark] 26)) (.cells #[.int .i64 0, .slice none 0 0] 31) (g := w.heap.size + 1) (by simp))
    obtain ⟨y0, y1, z0, z1, z2⟩ := two_at hg1
    clear hq hg1 hcall
    go_wp2_with fail
    exact bodyPost_ret (v := .agg #[.int .i64 V, .slice none 0 0]) (by simp [results, Try.results18, go_sem, y0, y1]) rfl ⟨_, rfl, rres_nil _ _ _, HB1.out.trans ((But.two _ (w.heap.size + 1) 0 1 _ _).below HB1.out.size (by intro b hb; simp at hb; omega))⟩
  have HFITS := Lib.hid (files_fits h0)
  have htot := (placesF_zero h0).2.2.2.2
  have hpf : placesF ⟨p.fs, p.mark⟩ = 0 := h0
  rw [hpf] at hcall
  have HT := Lib.hid htot
  have hl4 : Hid (p.fs.length = 4) := (placesF_zero h0).1
  cases h1 : inB f 0 100
  case false =>
    have hC : scC p f m = 3 := by unfold scC; rw [if_pos h0, h1]; rfl
    have hL : scL p f m = [] := by unfold scL; rw [if_neg (by rw [hC]; decide)]
    rw [hC, hL]
    have H1 := Lib.hid h1
    clear h0 hC hL hsf hpf htot h1
    go_enter Try.func18, Try.ntmps18
    go_wp2_with fail
    refine hcall.mono ?_
    rintro e w1 ⟨rfl, hq⟩
    have HB1 := Lib.hid ((below_more (below_new (w := w) (.cells #[.slice A p.fs.length c, .int .i64 p.mark] 26)) (.cells #[.int .i64 0, .slice none 0 0] 31)).trans (hq.below.mono (by simp; omega)))
    have hg1 := (hq.below.block _ (by simp)).trans (heap_new (w.alloc (.cells #[.slice A p.fs.length c, .int .i64 p.mark] 26)) (.cells #[.int .i64 0, .slice none 0 0] 31) (g := w.heap.size + 1) (by simp))
    obtain ⟨y0, y1, z0, z1, z2⟩ := two_at hg1
    clear hq hg1 hcall
    go_wp2_with fail
    refine (l1In_c f 0 100 _).mono ?_
    rw [H1.out]
    rintro e w' ⟨rfl, hw⟩
    subst hw
    go_wp2_with fail
    exact bodyPost_ret (v := .agg #[.int .i64 3, .slice none 0 0]) (by simp [results, Try.results18, go_sem, y0, y1]) rfl ⟨_, rfl, rres_nil _ _ _, HB1.out.trans ((But.two _ (w.heap.size + 1) 0 1 _ _).below HB1.out.size (by intro b hb; simp at hb; omega))⟩
  cases h2 : inB m 1 12
  case false =>
    have hC : scC p f m = 3 := by unfold scC; rw [if_pos h0, h1, h2]; rfl
    have hL : scL p f m = [] := by unfold scL; rw [if_neg (by rw [hC]; decide)]
    rw [hC, hL]
    have H1 := Lib.hid h1; have H2 := Lib.hid h2
    clear h0 hC hL hsf hpf htot h1 h2
    go_enter Try.func18, Try.ntmps18
    go_wp2_with fail
    refine hcall.mono ?_
    rintro e w1 ⟨rfl, hq⟩
    have HB1 := Lib.hid ((below_more (below_new (w := w) (.cells #[.slice A p.fs.length c, .int .i64 p.mark] 26)) (.cells #[.int .i64 0, .slice none 0 0] 31)).trans (hq.below.mono (by simp; omega)))
    have hg1 := (hq.below.block _ (by simp)).trans (heap_new (w.alloc (.cells #[.slice A p.fs.length c, .int .i64 p.mark] 26)) (.cells #[.int .i64 0, .slice none 0 0] 31) (g := w.heap.size + 1) (by simp))
    obtain ⟨y0, y1, z0, z1, z2⟩ := two_at hg1
    clear hq hg1 hcall
    go_wp2_with fail
    refine (l1In_c f 0 100 _).mono ?_
    rw [H1.out]
    rintro e w' ⟨rfl, hw⟩
    subst hw
    go_wp2_with fail
    refine (l1In_c m 1 12 _).mono ?_
    rw [H2.out]
    rintro e w' ⟨rfl, hw⟩
    subst hw
    go_wp2_with fail
    exact bodyPost_ret (v := .agg #[.int .i64 3, .slice none 0 0]) (by simp [results, Try.results18, go_sem, y0, y1]) rfl ⟨_, rfl, rres_nil _ _ _, HB1.out.trans ((But.two _ (w.heap.size + 1) 0 1 _ _).below HB1.out.size (by intro b hb; simp at hb; omega))⟩
  have hC : scC p f m = 0 := by unfold scC; rw [if_pos h0, h1, h2]; rfl
  have hL : scL p f m = (cutR p.fs.flatten f 100).take (cap m (cutR p.fs.flatten f 100).length) := by unfold scL; rw [if_pos hC]
  rw [hC, hL]
  have hflen := flat_tot p.fs
  have hm0 : 0 ≤ m ∧ m ≤ 12 := by have := inB_true.1 h2; omega
  have hsz2 : fsz p.fs ≤ 1000 := by have := hl4.out; unfold fsz; omega
  generalize hLL : p.fs.flatten = L at *
  have HLL := Lib.hid hLL
  clear hLL
  generalize hS : cutR L f 100 = S
  have hmi := cap_int m S.length hm0.1
  have hcl := cap_le m S.length
  generalize cap m S.length = k at *
  have HS := Lib.hid hS; have H1 := Lib.hid h1; have H2 := Lib.hid h2; have HFL := Lib.hid hflen; have HMI := Lib.hid hmi; have HS2 := Lib.hid hsz2
  clear h0 hC hL hsf hpf htot h1 h2 hS hflen hmi hsz2
  go_enter Try.func18, Try.ntmps18
  go_wp2_with fail
  refine hcall.mono ?_
  rintro e w1 ⟨rfl, hq⟩
  have HB1 := Lib.hid ((below_more (below_new (w := w) (.cells #[.slice A p.fs.length c, .int .i64 p.mark] 26)) (.cells #[.int .i64 0, .slice none 0 0] 31)).trans (hq.below.mono (by simp; omega)))
  have HG1 := Lib.hid ((hq.below.block _ (by simp)).trans (heap_new (w.alloc (.cells #[.slice A p.fs.length c, .int .i64 p.mark] 26)) (.cells #[.int .i64 0, .slice none 0 0] 31) (g := w.heap.size + 1) (by simp)))
  have HR1 := Lib.hid (HF.out.qt hq)
  have HP1 := Lib.hid ((plbox_new w (.slice A p.fs.length c) p.mark (.cells #[.int .i64 0, .slice none 0 0] 31)).below hq.below (by simp; omega))
  clear hq hcall
  go_wp2_with fail
  refine (l1In_c f 0 100 _).mono ?_
  rw [H1.out]
  rintro e w' ⟨rfl, hw⟩
  subst hw
  go_wp2_with fail
  refine (l1In_c m 1 12 _).mono ?_
  rw [H2.out]
  rintro e w' ⟨rfl, hw⟩
  subst hw
  go_wp2_with fail
  refine (l6Rows_f w.heap.size p.mark A c p.fs L HLL.out _ fp (by have := HS2.out; omega) HP1.out HR1.out).mono ?_
  rintro e w2 ⟨v, fv, rfl, hrv, hnv, hfv, hb2, _⟩
  obtain ⟨A2, c2, rfl⟩ := hrv.rows_form
  have HB2 := Lib.hid (HB1.out.trans (hb2.mono HB1.out.size))
  have HG2 := Lib.hid ((hb2.block _ (heap_lt HG1.out)).trans HG1.out)
  have hl12 : L.length ≤ 1000000 := by have := HFL.out; have := HT.out; omega
  have HRV := Lib.hid hrv
  clear hb2 hrv hnv hfv
  go_wp2_with fail
  refine (l2Cut_c A2 c2 L f 100 _ fv hl12 HFITS.out HRV.out).mono ?_
  rw [HS.out]
  rintro e w3 ⟨v3, fv3, rfl, hrv3, hnv3, hfv3, hb3, _⟩
  obtain ⟨A3, c3, rfl⟩ := hrv3.rows_form
  have hz1 := heap_lt HG2.out
  have hg3 := (hb3.block _ hz1).trans HG2.out
  obtain ⟨y0, y1, z0, z1, z2⟩ := two_at hg3
  obtain ⟨fk, hrk, hfk⟩ := hrv3.rows_take k hcl
  have hkl : (S.take k).length = k := by rw [List.length_take, Nat.min_eq_left hcl]
  have hst := rres_stored (code := 0) (HB2.out.trans (hb3.mono HB2.out.size)) (Nat.le_succ _) hrk (fun x hx => hnv3 x (hfk x hx)) (fun x hx => by have := hfv3 x (hfk x hx); omega)
  have HX := Lib.hid hst
  have hcc := rcap hrv3
  have hcm := hrv3.len_le
  clear hrv3 hnv3 hfv3 hb3 hg3 hrk hfk hst
  go_wp2_with fail
  refine (l1Min_s m (S.length : Nat) _).mono ?_
  rw [HMI.out]
  rintro e w' ⟨rfl, hw⟩
  subst hw
  go_wp2_with fail
  exact bodyPost_ret (v := .agg #[.int .i64 0, .slice A3 k c3]) (by simp [results, Try.results18, go_sem, y0, y1]) rfl ⟨_, rfl, HX.out.1, HX.out.2⟩
end Go.Proofs.Ytoabohllphoioaa
