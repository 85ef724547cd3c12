/-
  The program's functions of chapter 7, fifth part: WritePart.
-/
import Derived.Test.YtoabohllphoioaaImpl7c
import Derived.Test.YtoabohllphoioaaImpl7d
import Derived.Test.YtoabohllphoioaaG19
import Derived.Deep.DeepCutAuto
namespace Go.Proofs.Ytoabohllphoioaa
open Go.RowKit

def AskWritePart : Prop := ∀ (A : Option Addr) (c : Nat) (l : List Pt) (r : R) (m : Int) (w : World) (fp : List Nat), psz l ≤ 1048576 → WfT l → WfR r → (Lit.int .i64 m).wf = true → RdP w (.slice A l.length c) l fp →
  Calls Try.prog 59 #[.slice A l.length c, rv r, .int .i64 m] w (PsResPost w (wqC l r m) (wqL l r m))

theorem prC_ok {M : List R} {r : R} (h : rowsF M = 0) (h1 : rowF r = 0) : prC M r = if 12 < (setR M r).length then 8 else 0 := by
  unfold prC; rw [if_neg (by simpa using h), if_neg (by simpa using h1)]
/-- The parts of all rows are the parts. -/
theorem np_same {l : List Pt} (h : partsF l = 0) : npL (mergeAll (allR l)) (l.getD 0 default).mark (l.getD 1 default).mark (l.getD 2 default).mark = l := by
  have h3 := (partsF_zero h).1
  have p0 := all_part h (j := 0) (by omega)
  have p1 := all_part h (j := 1) (by omega)
  have p2 := all_part h (j := 2) (by omega)
  unfold npL
  rw [p0, p1, p2]
  obtain ⟨a, b, c, rfl⟩ := eq_three h3
  rfl
/-- The parts of the rows with a row put among them. -/
theorem np_put {l : List Pt} {r : R} {m : Int} (h : partsF l = 0) (hr : rowF r = 0) (j : Nat) (hj : j < l.length) (he : rpart r = (j : Int)) :
    npL (setR (mergeAll (allR l)) r) (if j = 0 then m else (l.getD 0 default).mark) (if j = 1 then m else (l.getD 1 default).mark) (if j = 2 then m else (l.getD 2 default).mark) = l.set j ⟨setR l[j].rows r, m⟩ := by
  have h3 := (partsF_zero h).1
  have p0 := put_part h hr (j := 0) (by omega)
  have p1 := put_part h hr (j := 1) (by omega)
  have p2 := put_part h hr (j := 2) (by omega)
  unfold npL
  rw [p0, p1, p2]
  obtain ⟨a, b, c, rfl⟩ := eq_three h3
  simp only [List.length_cons, List.length_nil] at hj
  have hjj : j = 0 ∨ j = 1 ∨ j = 2 := by omega
  rcases hjj with rfl | rfl | rfl <;> simp [he]
theorem rising_fits {L : List R} (h : rowsF L = 0) : Fits L ∧ L.length ≤ 12 := rowsF_fits h
theorem set_wf {L : List R} {r : R} (hL : ∀ x ∈ L, WfR x) (hr : WfR r) : ∀ x ∈ setR L r, WfR x := fun x hx => by
  rcases mem_setR.1 hx with h | h
  · exact hL x h.1
  · rw [h.1]; exact hr
theorem merge_wf {l : List Pt} (h0 : partsF l = 0) (hw : WfT l) : ∀ x ∈ mergeAll (allR l), WfR x := fun x hx => by
  have hx := ((roL_facts h0).2.1 x).1 hx
  obtain ⟨k, hk, hx⟩ := mem_allR.1 hx
  exact (hw _ (List.getElem_mem hk)).2 x hx

set_option maxRecDepth 100000 in
set_option maxHeartbeats 8000000 in
theorem implWritePart_a : AskWritePart := by
  intro A c l r m w fp hs hwf hwr _ ha
  have hn := below_more (below_new (w := w) (.cells #[.int .i64 r.1, .int .i64 r.2.1, .int .i64 r.2.2.1, .int .i64 r.2.2.2] 34)) (.cells #[.int .i64 0, .slice none 0 0] 72)
  have GR := Lib.hid (heap_old (o' := .cells #[.int .i64 0, .slice none 0 0] 72) (heap_new w (.cells #[.int .i64 r.1, .int .i64 r.2.1, .int .i64 r.2.2.1, .int .i64 r.2.2.2] 34) rfl))
  have GZ := Lib.hid (heap_new (w.alloc (.cells #[.int .i64 r.1, .int .i64 r.2.1, .int .i64 r.2.2.1, .int .i64 r.2.2.2] 34)) (.cells #[.int .i64 0, .slice none 0 0] 72) (g := w.heap.size + 1) (by simp))
  have HB := Lib.hid hn
  have HA := Lib.hid (ha.below' hn)
  have hcall := implRowsOf_a A c l _ fp hs hwf (ha.below' hn)
  have HWR := Lib.hid hwr
  clear ha hn
  by_cases h0 : partsF l = 0
  case neg =>
    rw [wqC_a h0, wqL_no (by rw [wqC_a h0]; exact h0)]
    have e1 : roC l = partsF l := rfl
    have e2 : roL l = [] := by unfold roL; rw [if_neg h0]
    rw [e1, e2] at hcall
    have HC := Lib.hid hcall
    generalize partsF l = V at *
    have t1 : (V != 0) = true := by simpa using h0
    clear h0 hs hwf hwr hcall e1 e2
    go_enter Try.func59, Try.ntmps59
    go_wp2_with fail
    refine HC.out.mono ?_
    rintro e w1 ⟨q, rfl, ⟨v1, f1, rfl, hr1, hn1, hf1⟩, hb1⟩
    obtain ⟨A1, c1, hv1⟩ := Rd.rows_form (rs := []) hr1
    have hv1 : v1 = .slice A1 0 c1 := hv1
    subst hv1
    have HB1 := Lib.hid (below_more (HB.out.trans (hb1.mono HB.out.size)) (.cells #[.int .i64 V, .slice A1 0 c1] 31))
    have GZ1 := Lib.hid (heap_old (o' := .cells #[.int .i64 V, .slice A1 0 c1] 31) ((hb1.block _ (heap_lt GZ.out)).trans GZ.out))
    obtain ⟨y0, y1, z0, z1, yz⟩ := two_at GZ1.out
    clear hb1 hr1 hn1 hf1
    go_wp2_with fail
    exact bodyPost_ret (v := psv V (.slice none 0 0)) (by simp [results, Try.results59, go_sem, y0, y1]) rfl (psres_none (HB1.out.trans ((But.two _ (w.heap.size + 1) 0 1 _ _).below HB1.out.size (by intro b hb; simp at hb; omega))))
  have e1 : roC l = 0 := h0
  have e2 : roL l = mergeAll (allR l) := by unfold roL; rw [if_pos h0]
  rw [e1, e2] at hcall
  obtain ⟨_, _, hm12, hmz⟩ := roL_facts h0
  have hmw := merge_wf h0 hwf
  obtain ⟨M, hM⟩ : ∃ M, M = mergeAll (allR l) := ⟨_, rfl⟩
  rw [← hM] at hcall hm12 hmz hmw
  have HC := Lib.hid hcall; have HMZ := Lib.hid hmz; have HMW := Lib.hid hmw; have HM := Lib.hid hM
  have hmf := (rising_fits hmz).1
  have HMF := Lib.hid hmf
  clear hcall e1 e2 hmz hmw hmf hwf
  by_cases h1 : rowF r = 0
  case neg =>
    rw [wqC_b h0 h1, wqL_no (by rw [wqC_b h0 h1]; exact h1)]
    obtain ⟨V, hV⟩ : ∃ V, V = rowF r := ⟨_, rfl⟩
    have HV := Lib.hid hV.symm
    rw [← hV] at h1 ⊢
    have t1 : (V != 0) = true := by simpa using h1
    clear h0 h1 hV hs hM hwr
    go_enter Try.func59, Try.ntmps59
    go_wp2_with fail
    refine HC.out.mono ?_
    rintro e w1 ⟨q, rfl, ⟨v1, f1, rfl, hr1, hn1, hf1⟩, hb1⟩
    obtain ⟨A1, c1, rfl⟩ := hr1.rows_form
    have HB1 := Lib.hid (below_more (HB.out.trans (hb1.mono HB.out.size)) (.cells #[.int .i64 0, .slice A1 M.length c1] 31))
    have GZ1 := Lib.hid (heap_old (o' := .cells #[.int .i64 0, .slice A1 M.length c1] 31) ((hb1.block _ (heap_lt GZ.out)).trans GZ.out))
    have GR1 := Lib.hid (heap_old (o' := .cells #[.int .i64 0, .slice A1 M.length c1] 31) ((hb1.block _ (heap_lt GR.out)).trans GR.out))
    obtain ⟨r0, r1, r2, r3, _, _, _, _, rz⟩ := four_at GR1.out
    clear hb1 hr1 hn1 hf1
    go_wp2_with fail
    clear r0 r1 r2 r3 rz
    refine (implRowFault_a r _ HWR.out).mono ?_
    rw [HV.out]
    rintro e w2 ⟨rfl, hb2⟩
    have HB2 := Lib.hid (HB1.out.trans (hb2.mono HB1.out.size))
    obtain ⟨y0, y1, z0, z1, yz⟩ := two_at ((hb2.block _ (heap_lt GZ1.out)).trans GZ1.out)
    clear hb2
    go_wp2_with fail
    exact bodyPost_ret (v := psv V (.slice none 0 0)) (by simp [results, Try.results59, go_sem, y0, y1]) rfl (psres_none (HB2.out.trans ((But.two _ (w.heap.size + 1) 0 1 _ _).below HB2.out.size (by intro b hb; simp at hb; omega))))
  have H1 := Lib.hid h1
  cases h2 : inB m 0 999
  case false =>
    rw [wqC_c h0 h1 h2, wqL_no (by rw [wqC_c h0 h1 h2]; decide)]
    have H2 := Lib.hid h2
    clear h0 h1 h2 hs hM hwr
    go_enter Try.func59, Try.ntmps59
    go_wp2_with fail
    refine HC.out.mono ?_
    rintro e w1 ⟨q, rfl, ⟨v1, f1, rfl, hr1, hn1, hf1⟩, hb1⟩
    obtain ⟨A1, c1, rfl⟩ := hr1.rows_form
    have HB1 := Lib.hid (below_more (HB.out.trans (hb1.mono HB.out.size)) (.cells #[.int .i64 0, .slice A1 M.length c1] 31))
    have GZ1 := Lib.hid (heap_old (o' := .cells #[.int .i64 0, .slice A1 M.length c1] 31) ((hb1.block _ (heap_lt GZ.out)).trans GZ.out))
    have GR1 := Lib.hid (heap_old (o' := .cells #[.int .i64 0, .slice A1 M.length c1] 31) ((hb1.block _ (heap_lt GR.out)).trans GR.out))
    obtain ⟨r0, r1, r2, r3, _, _, _, _, rz⟩ := four_at GR1.out
    clear hb1 hr1 hn1 hf1
    go_wp2_with fail
    clear r0 r1 r2 r3 rz
    refine (implRowFault_a r _ HWR.out).mono ?_
    rw [H1.out]
    rintro e w2 ⟨rfl, hb2⟩
    have HB2 := Lib.hid (HB1.out.trans (hb2.mono HB1.out.size))
    have GZ2 := Lib.hid ((hb2.block _ (heap_lt GZ1.out)).trans GZ1.out)
    obtain ⟨y0, y1, z0, z1, yz⟩ := two_at GZ2.out
    clear hb2
    go_wp2_with fail
    refine (isMark_b m false H2.out _).mono ?_
    rintro e w' ⟨rfl, hw⟩
    subst hw
    go_wp2_with fail
    exact bodyPost_ret (v := psv 3 (.slice none 0 0)) (by simp [results, Try.results59, go_sem, y0, y1]) rfl (psres_none (HB2.out.trans ((But.two _ (w.heap.size + 1) 0 1 _ _).below HB2.out.size (by intro b hb; simp at hb; omega))))
  have H2 := Lib.hid h2
  have h3 := (partsF_zero h0).1
  obtain ⟨q1, q2⟩ := rpart_nat h3 r
  obtain ⟨j, hj⟩ : ∃ j, j = (rpart r).toNat := ⟨_, rfl⟩
  rw [← hj] at q1 q2
  have hold := fun hm => wqP_old (l := l) (m := m) j q1 q2.symm hm
  have hnew := fun hm => wqP_new (m := m) h0 j q1 q2.symm hm
  have hsame := np_same h0
  have hput := np_put (m := m) h0 h1 j q1 q2.symm
  have htot := put_tot (m := m) h0 h1 j q1 q2.symm
  have hcode := wqC_d h0 h1 h2
  have htl : totP l ≤ 12 := (partsF_zero h0).2.2
  have hlist : wqL l r m = if 12 < totP (wqP l r m) then [] else wqP l r m := by
    unfold wqL
    rw [hcode]
    by_cases h : 12 < totP (wqP l r m)
    · rw [if_pos h, if_pos h]; rfl
    · rw [if_neg h, if_neg h]; rfl
  rw [hcode, hlist]
  rw [← hM] at hsame hput htot
  have hmk := fun (w : World) (fp : List Nat) (ha : RdP w (.slice A l.length c) l fp) => partMarks_c A c l w fp h3 ha
  have hfr := fit_of_rowF h1
  have hj3 : j < 3 := by omega
  have hgd : l[j].mark = (if j = 0 then (l.getD 0 default).mark else if j = 1 then (l.getD 1 default).mark else (l.getD 2 default).mark) := by
    have := getD_at l j q1
    rw [← this]
    have hjj : j = 0 ∨ j = 1 ∨ j = 2 := by omega
    rcases hjj with rfl | rfl | rfl <;> rfl
  have HQ : Hid (rpart r = (j : Int)) := q2.symm
  have HFR := Lib.hid hfr; have HMK := Lib.hid hmk
  obtain ⟨K, hK⟩ : ∃ K, K = l[j].mark := ⟨_, rfl⟩
  rw [← hK] at hold hnew hgd
  obtain ⟨k0, hk0⟩ : ∃ k, k = (l.getD 0 default).mark := ⟨_, rfl⟩
  obtain ⟨k1, hk1⟩ : ∃ k, k = (l.getD 1 default).mark := ⟨_, rfl⟩
  obtain ⟨k2, hk2⟩ : ∃ k, k = (l.getD 2 default).mark := ⟨_, rfl⟩
  rw [← hk0, ← hk1, ← hk2] at hsame hput hgd HMK
  have j0 : (0 : Int) ≤ (j : Int) := by omega
  have j3 : (j : Int) < 3 := by omega
  have hcj : (#[Value.int .i64 k0, .int .i64 k1, .int .i64 k2] : Array Value)[j]? = some (.int .i64 K) := by
    rw [hgd]
    have hjj : j = 0 ∨ j = 1 ∨ j = 2 := by omega
    rcases hjj with rfl | rfl | rfl <;> rfl
  have HCJ := Lib.hid hcj; have HSAME := Lib.hid hsame
  obtain ⟨a0, ha0⟩ : ∃ a, a = (if j = 0 then m else k0) := ⟨_, rfl⟩
  obtain ⟨a1, ha1⟩ : ∃ a, a = (if j = 1 then m else k1) := ⟨_, rfl⟩
  obtain ⟨a2, ha2⟩ : ∃ a, a = (if j = 2 then m else k2) := ⟨_, rfl⟩
  have hset : (#[Value.int .i64 k0, .int .i64 k1, .int .i64 k2] : Array Value).setIfInBounds j (.int .i64 m) = #[.int .i64 a0, .int .i64 a1, .int .i64 a2] := by
    rw [ha0, ha1, ha2]
    have hjj : j = 0 ∨ j = 1 ∨ j = 2 := by omega
    rcases hjj with rfl | rfl | rfl <;> rfl
  rw [← ha0, ← ha1, ← ha2] at hput
  have HSET := Lib.hid hset; have HPUT := Lib.hid hput
  have hpr := prC_ok HMZ.out H1.out
  have hpl : prL M r = if prC M r = 0 then setR M r else [] := rfl
  have HPR := Lib.hid hpr; have HPL := Lib.hid hpl
  have hcond : (m ≤ K ∧ wqP l r m = l) ∨ (¬ m ≤ K ∧ wqP l r m = l.set j ⟨setR l[j].rows r, m⟩) := by
    by_cases h : m ≤ K
    · exact .inl ⟨h, hold h⟩
    · exact .inr ⟨h, hnew h⟩
  have hl3 : (l.set j ⟨setR l[j].rows r, m⟩).length = l.length := List.length_set
  generalize l.set j ⟨setR l[j].rows r, m⟩ = L at *
  have HCOND := Lib.hid hcond; have HTOT := Lib.hid htot; have HTL := Lib.hid htl; have HL3 := Lib.hid h3; have HLL := Lib.hid hl3
  clear h0 h1 h2 hs hM hwr hj q1 q2 hold hnew hsame hput htot hcode htl hlist hmk hfr hgd hcj ha0 ha1 ha2 hset hpr hpl hcond hK hk0 hk1 hk2 h3 hl3
  rcases HCOND.out with ⟨hle, hw⟩ | ⟨hgt, hw⟩
  all_goals
    rw [hw]
    have HW := Lib.hid hw; clear hw HCOND
  · rw [if_neg (by have := HTL.out; omega), if_neg (by have := HTL.out; omega)]
    go_enter Try.func59, Try.ntmps59
    go_wp2_with fail
    refine HC.out.mono ?_
    rintro e w1 ⟨q, rfl, ⟨v1, f1, rfl, hr1, hn1, hf1⟩, hb1⟩
    obtain ⟨A1, c1, rfl⟩ := hr1.rows_form
    replace GR := Lib.hid ((hb1.block _ (heap_lt GR.out)).trans GR.out)
    replace GZ := Lib.hid ((hb1.block _ (heap_lt GZ.out)).trans GZ.out)
    replace HA := Lib.hid (HA.out.below' hb1)
    replace HB := Lib.hid (HB.out.trans (hb1.mono HB.out.size))
    have RM := Lib.hid (hr1.alloc (.cells #[.int .i64 0, .slice A1 M.length c1] 31))
    have GX := Lib.hid (heap_new w1 (.cells #[.int .i64 0, .slice A1 M.length c1] 31) rfl)
    replace GR := Lib.hid (heap_old (o' := (.cells #[.int .i64 0, .slice A1 M.length c1] 31)) GR.out)
    replace GZ := Lib.hid (heap_old (o' := (.cells #[.int .i64 0, .slice A1 M.length c1] 31)) GZ.out)
    replace HA := Lib.hid (HA.out.alloc (.cells #[.int .i64 0, .slice A1 M.length c1] 31))
    replace HB := Lib.hid (below_more HB.out (.cells #[.int .i64 0, .slice A1 M.length c1] 31))
    have hgx : w.heap.size + 1 < w1.heap.size := by
      have h := heap_lt GZ.out
      have h2 := hb1.size
      simp at h h2
      omega
    clear hb1 hr1 hn1 hf1
    obtain ⟨r0, r1, r2, r3, _, _, _, _, rz⟩ := four_at GR.out
    obtain ⟨x0, x1, _, _, xz⟩ := two_at GX.out
    go_wp2_with fail
    clear r0 r1 r2 r3 rz x0 x1 xz
    generalize hW1 : w1.alloc (.cells #[.int .i64 0, .slice A1 M.length c1] 31) = W1 at GR GZ HA HB RM GX ⊢
    generalize w1.heap.size = g1 at *
    clear hW1
    refine (implRowFault_a r _ HWR.out).mono ?_
    rw [H1.out]
    rintro e w2 ⟨rfl, hb2⟩
    replace GR := Lib.hid ((hb2.block _ (heap_lt GR.out)).trans GR.out)
    replace GZ := Lib.hid ((hb2.block _ (heap_lt GZ.out)).trans GZ.out)
    replace GX := Lib.hid ((hb2.block _ (heap_lt GX.out)).trans GX.out)
    replace HA := Lib.hid (HA.out.below' hb2)
    replace RM := Lib.hid (RM.out.below' hb2)
    replace HB := Lib.hid (HB.out.trans (hb2.mono HB.out.size))
    clear hb2
    go_wp2_with fail
    refine (isMark_b m true H2.out _).mono ?_
    rintro e w' ⟨rfl, hw⟩
    subst hw
    go_wp2_with fail
    refine (HMK.out _ fp HA.out).mono ?_
    rintro e w3 ⟨rfl, hb3⟩
    replace GR := Lib.hid ((hb3.block _ (heap_lt GR.out)).trans GR.out)
    replace GZ := Lib.hid ((hb3.block _ (heap_lt GZ.out)).trans GZ.out)
    replace GX := Lib.hid ((hb3.block _ (heap_lt GX.out)).trans GX.out)
    replace HA := Lib.hid (HA.out.below' hb3)
    replace RM := Lib.hid (RM.out.below' hb3)
    replace HB := Lib.hid (HB.out.trans (hb3.mono HB.out.size))
    have hgm := heap_lt GX.out
    have hgz3 := heap_lt GZ.out
    have GM := Lib.hid (heap_new w3 (.cells #[.int .i64 k0, .int .i64 k1, .int .i64 k2] 130) rfl)
    replace GR := Lib.hid (heap_old (o' := (.cells #[.int .i64 k0, .int .i64 k1, .int .i64 k2] 130)) GR.out)
    replace GZ := Lib.hid (heap_old (o' := (.cells #[.int .i64 k0, .int .i64 k1, .int .i64 k2] 130)) GZ.out)
    replace GX := Lib.hid (heap_old (o' := (.cells #[.int .i64 k0, .int .i64 k1, .int .i64 k2] 130)) GX.out)
    replace RM := Lib.hid (RM.out.alloc (.cells #[.int .i64 k0, .int .i64 k1, .int .i64 k2] 130))
    replace HB := Lib.hid (below_more HB.out (.cells #[.int .i64 k0, .int .i64 k1, .int .i64 k2] 130))
    clear hb3
    obtain ⟨r0, r1, r2, r3, _, _, _, _, rz⟩ := four_at GR.out
    go_wp2_with fail
    clear r0 r1 r2 r3 rz
    generalize hW3 : w3.alloc (.cells #[.int .i64 k0, .int .i64 k1, .int .i64 k2] 130) = W3 at GR GZ GX GM RM HB ⊢
    generalize w3.heap.size = gm at *
    clear hW3
    refine (rowPart_q r (j : Int) HQ.out _ HFR.out).mono ?_
    rintro e w4 ⟨rfl, hb4⟩
    replace GR := Lib.hid ((hb4.block _ (heap_lt GR.out)).trans GR.out)
    replace GZ := Lib.hid ((hb4.block _ (heap_lt GZ.out)).trans GZ.out)
    replace GX := Lib.hid ((hb4.block _ (heap_lt GX.out)).trans GX.out)
    replace GM := Lib.hid ((hb4.block _ (heap_lt GM.out)).trans GM.out)
    replace RM := Lib.hid (RM.out.below' hb4)
    replace HB := Lib.hid (HB.out.trans (hb4.mono HB.out.size))
    clear hb4
    have mj : w4.cell? ⟨gm, j, none⟩ = some (.int .i64 K) := (cell_of_heap GM.out).trans HCJ.out
    have mz := heap_lt GM.out
    obtain ⟨m0, m1, m2, _, _, _, _⟩ := three_at6 GM.out
    obtain ⟨x0, x1, _, _, xz⟩ := two_at GX.out
    go_wp2_with fail
    refine (newParts_q A1 c1 M k0 k1 k2 l HSAME.out _ f1 hm12 HMF.out RM.out).mono ?_
    rintro e w5 ⟨A5, c5, f5, rfl, hr5, hn5, hf5, hd5, hb5⟩
    obtain ⟨y0, y1, z0, z1, yz⟩ := two_at ((hb5.block _ (heap_lt GZ.out)).trans GZ.out)
    have HX := Lib.hid (psres_stored (code := 0) (g := w.heap.size + 1) (HB.out.trans (hb5.mono HB.out.size)) (by omega) hr5 hn5 (hf5.mono (heap_lt GZ.out)) hd5)
    clear hr5 hn5 hf5 hd5 hb5
    go_wp2_with fail
    exact bodyPost_ret (v := psv 0 (.slice A5 l.length c5)) (by simp [results, Try.results59, go_sem, y0, y1]) rfl HX.out
  · by_cases h5 : 12 < (setR M r).length
    · rw [if_pos (by rw [HTOT.out]; exact h5), if_pos (by rw [HTOT.out]; exact h5)]
      go_enter Try.func59, Try.ntmps59
      go_wp2_with fail
      refine HC.out.mono ?_
      rintro e w1 ⟨q, rfl, ⟨v1, f1, rfl, hr1, hn1, hf1⟩, hb1⟩
      obtain ⟨A1, c1, rfl⟩ := hr1.rows_form
      replace GR := Lib.hid ((hb1.block _ (heap_lt GR.out)).trans GR.out)
      replace GZ := Lib.hid ((hb1.block _ (heap_lt GZ.out)).trans GZ.out)
      replace HA := Lib.hid (HA.out.below' hb1)
      replace HB := Lib.hid (HB.out.trans (hb1.mono HB.out.size))
      have RM := Lib.hid (hr1.alloc (.cells #[.int .i64 0, .slice A1 M.length c1] 31))
      have GX := Lib.hid (heap_new w1 (.cells #[.int .i64 0, .slice A1 M.length c1] 31) rfl)
      replace GR := Lib.hid (heap_old (o' := (.cells #[.int .i64 0, .slice A1 M.length c1] 31)) GR.out)
      replace GZ := Lib.hid (heap_old (o' := (.cells #[.int .i64 0, .slice A1 M.length c1] 31)) GZ.out)
      replace HA := Lib.hid (HA.out.alloc (.cells #[.int .i64 0, .slice A1 M.length c1] 31))
      replace HB := Lib.hid (below_more HB.out (.cells #[.int .i64 0, .slice A1 M.length c1] 31))
      have hgx : w.heap.size + 1 < w1.heap.size := by
        have h := heap_lt GZ.out
        have h2 := hb1.size
        simp at h h2
        omega
      clear hb1 hr1 hn1 hf1
      obtain ⟨r0, r1, r2, r3, _, _, _, _, rz⟩ := four_at GR.out
      obtain ⟨x0, x1, _, _, xz⟩ := two_at GX.out
      go_wp2_with fail
      clear r0 r1 r2 r3 rz x0 x1 xz
      generalize hW1 : w1.alloc (.cells #[.int .i64 0, .slice A1 M.length c1] 31) = W1 at GR GZ HA HB RM GX ⊢
      generalize w1.heap.size = g1 at *
      clear hW1
      refine (implRowFault_a r _ HWR.out).mono ?_
      rw [H1.out]
      rintro e w2 ⟨rfl, hb2⟩
      replace GR := Lib.hid ((hb2.block _ (heap_lt GR.out)).trans GR.out)
      replace GZ := Lib.hid ((hb2.block _ (heap_lt GZ.out)).trans GZ.out)
      replace GX := Lib.hid ((hb2.block _ (heap_lt GX.out)).trans GX.out)
      replace HA := Lib.hid (HA.out.below' hb2)
      replace RM := Lib.hid (RM.out.below' hb2)
      replace HB := Lib.hid (HB.out.trans (hb2.mono HB.out.size))
      clear hb2
      go_wp2_with fail
      refine (isMark_b m true H2.out _).mono ?_
      rintro e w' ⟨rfl, hw⟩
      subst hw
      go_wp2_with fail
      refine (HMK.out _ fp HA.out).mono ?_
      rintro e w3 ⟨rfl, hb3⟩
      replace GR := Lib.hid ((hb3.block _ (heap_lt GR.out)).trans GR.out)
      replace GZ := Lib.hid ((hb3.block _ (heap_lt GZ.out)).trans GZ.out)
      replace GX := Lib.hid ((hb3.block _ (heap_lt GX.out)).trans GX.out)
      replace HA := Lib.hid (HA.out.below' hb3)
      replace RM := Lib.hid (RM.out.below' hb3)
      replace HB := Lib.hid (HB.out.trans (hb3.mono HB.out.size))
      have hgm := heap_lt GX.out
      have hgz3 := heap_lt GZ.out
      have GM := Lib.hid (heap_new w3 (.cells #[.int .i64 k0, .int .i64 k1, .int .i64 k2] 130) rfl)
      replace GR := Lib.hid (heap_old (o' := (.cells #[.int .i64 k0, .int .i64 k1, .int .i64 k2] 130)) GR.out)
      replace GZ := Lib.hid (heap_old (o' := (.cells #[.int .i64 k0, .int .i64 k1, .int .i64 k2] 130)) GZ.out)
      replace GX := Lib.hid (heap_old (o' := (.cells #[.int .i64 k0, .int .i64 k1, .int .i64 k2] 130)) GX.out)
      replace RM := Lib.hid (RM.out.alloc (.cells #[.int .i64 k0, .int .i64 k1, .int .i64 k2] 130))
      replace HB := Lib.hid (below_more HB.out (.cells #[.int .i64 k0, .int .i64 k1, .int .i64 k2] 130))
      clear hb3
      obtain ⟨r0, r1, r2, r3, _, _, _, _, rz⟩ := four_at GR.out
      go_wp2_with fail
      clear r0 r1 r2 r3 rz
      generalize hW3 : w3.alloc (.cells #[.int .i64 k0, .int .i64 k1, .int .i64 k2] 130) = W3 at GR GZ GX GM RM HB ⊢
      generalize w3.heap.size = gm at *
      clear hW3
      refine (rowPart_q r (j : Int) HQ.out _ HFR.out).mono ?_
      rintro e w4 ⟨rfl, hb4⟩
      replace GR := Lib.hid ((hb4.block _ (heap_lt GR.out)).trans GR.out)
      replace GZ := Lib.hid ((hb4.block _ (heap_lt GZ.out)).trans GZ.out)
      replace GX := Lib.hid ((hb4.block _ (heap_lt GX.out)).trans GX.out)
      replace GM := Lib.hid ((hb4.block _ (heap_lt GM.out)).trans GM.out)
      replace RM := Lib.hid (RM.out.below' hb4)
      replace HB := Lib.hid (HB.out.trans (hb4.mono HB.out.size))
      clear hb4
      have mj : w4.cell? ⟨gm, j, none⟩ = some (.int .i64 K) := (cell_of_heap GM.out).trans HCJ.out
      have mz := heap_lt GM.out
      obtain ⟨m0, m1, m2, _, _, _, _⟩ := three_at6 GM.out
      obtain ⟨x0, x1, _, _, xz⟩ := two_at GX.out
      obtain ⟨r0, r1, r2, r3, _, _, _, _, rz⟩ := four_at GR.out
      have HPT := Lib.hid (implPutRow_a A1 c1 M r w4 f1 (by omega) HMW.out HWR.out RM.out)
      have hpr := HPR.out
      have hpl := HPL.out
      rw [if_pos h5] at hpr
      rw [hpr, if_neg (by decide)] at hpl
      have HP1 := Lib.hid hpr; have HP2 := Lib.hid hpl
      clear hpr hpl h5
      go_wp2_with fail
      refine HPT.out.mono ?_
      rw [HP1.out, HP2.out]
      rintro e w5 ⟨q, rfl, ⟨v5, f5, rfl, hr5, hn5, hf5⟩, hb5⟩
      obtain ⟨A5, c5, hv5⟩ := Rd.rows_form (rs := []) hr5
      have hv5 : v5 = .slice A5 0 c5 := hv5
      subst hv5
      have GZ5 := Lib.hid (heap_old (o' := .cells #[.int .i64 8, .slice A5 0 c5] 31) ((hb5.block _ (heap_lt GZ.out)).trans GZ.out))
      have HB5 := Lib.hid (below_more (HB.out.trans (hb5.mono HB.out.size)) (.cells #[.int .i64 8, .slice A5 0 c5] 31))
      obtain ⟨y0, y1, z0, z1, yz⟩ := two_at GZ5.out
      clear hb5 hr5 hn5 hf5 r0 r1 r2 r3 rz mj mz m0 m1 m2 x0 x1 xz
      go_wp2_with fail
      exact bodyPost_ret (v := psv 8 (.slice none 0 0)) (by simp [results, Try.results59, go_sem, y0, y1]) rfl (psres_none (HB5.out.trans ((But.two _ (w.heap.size + 1) 0 1 _ _).below HB5.out.size (by intro b hb; simp at hb; omega))))
    · rw [if_neg (by rw [HTOT.out]; exact h5), if_neg (by rw [HTOT.out]; exact h5)]
      go_enter Try.func59, Try.ntmps59
      go_wp2_with fail
      refine HC.out.mono ?_
      rintro e w1 ⟨q, rfl, ⟨v1, f1, rfl, hr1, hn1, hf1⟩, hb1⟩
      obtain ⟨A1, c1, rfl⟩ := hr1.rows_form
      replace GR := Lib.hid ((hb1.block _ (heap_lt GR.out)).trans GR.out)
      replace GZ := Lib.hid ((hb1.block _ (heap_lt GZ.out)).trans GZ.out)
      replace HA := Lib.hid (HA.out.below' hb1)
      replace HB := Lib.hid (HB.out.trans (hb1.mono HB.out.size))
      have RM := Lib.hid (hr1.alloc (.cells #[.int .i64 0, .slice A1 M.length c1] 31))
      have GX := Lib.hid (heap_new w1 (.cells #[.int .i64 0, .slice A1 M.length c1] 31) rfl)
      replace GR := Lib.hid (heap_old (o' := (.cells #[.int .i64 0, .slice A1 M.length c1] 31)) GR.out)
      replace GZ := Lib.hid (heap_old (o' := (.cells #[.int .i64 0, .slice A1 M.length c1] 31)) GZ.out)
      replace HA := Lib.hid (HA.out.alloc (.cells #[.int .i64 0, .slice A1 M.length c1] 31))
      replace HB := Lib.hid (below_more HB.out (.cells #[.int .i64 0, .slice A1 M.length c1] 31))
      have hgx : w.heap.size + 1 < w1.heap.size := by
        have h := heap_lt GZ.out
        have h2 := hb1.size
        simp at h h2
        omega
      clear hb1 hr1 hn1 hf1
      obtain ⟨r0, r1, r2, r3, _, _, _, _, rz⟩ := four_at GR.out
      obtain ⟨x0, x1, _, _, xz⟩ := two_at GX.out
      go_wp2_with fail
      clear r0 r1 r2 r3 rz x0 x1 xz
      generalize hW1 : w1.alloc (.cells #[.int .i64 0, .slice A1 M.length c1] 31) = W1 at GR GZ HA HB RM GX ⊢
      generalize w1.heap.size = g1 at *
      clear hW1
      refine (implRowFault_a r _ HWR.out).mono ?_
      rw [H1.out]
      rintro e w2 ⟨rfl, hb2⟩
      replace GR := Lib.hid ((hb2.block _ (heap_lt GR.out)).trans GR.out)
      replace GZ := Lib.hid ((hb2.block _ (heap_lt GZ.out)).trans GZ.out)
      replace GX := Lib.hid ((hb2.block _ (heap_lt GX.out)).trans GX.out)
      replace HA := Lib.hid (HA.out.below' hb2)
      replace RM := Lib.hid (RM.out.below' hb2)
      replace HB := Lib.hid (HB.out.trans (hb2.mono HB.out.size))
      clear hb2
      go_wp2_with fail
      refine (isMark_b m true H2.out _).mono ?_
      rintro e w' ⟨rfl, hw⟩
      subst hw
      go_wp2_with fail
      refine (HMK.out _ fp HA.out).mono ?_
      rintro e w3 ⟨rfl, hb3⟩
      replace GR := Lib.hid ((hb3.block _ (heap_lt GR.out)).trans GR.out)
      replace GZ := Lib.hid ((hb3.block _ (heap_lt GZ.out)).trans GZ.out)
      replace GX := Lib.hid ((hb3.block _ (heap_lt GX.out)).trans GX.out)
      replace HA := Lib.hid (HA.out.below' hb3)
      replace RM := Lib.hid (RM.out.below' hb3)
      replace HB := Lib.hid (HB.out.trans (hb3.mono HB.out.size))
      have hgm := heap_lt GX.out
      have hgz3 := heap_lt GZ.out
      have GM := Lib.hid (heap_new w3 (.cells #[.int .i64 k0, .int .i64 k1, .int .i64 k2] 130) rfl)
      replace GR := Lib.hid (heap_old (o' := (.cells #[.int .i64 k0, .int .i64 k1, .int .i64 k2] 130)) GR.out)
      replace GZ := Lib.hid (heap_old (o' := (.cells #[.int .i64 k0, .int .i64 k1, .int .i64 k2] 130)) GZ.out)
      replace GX := Lib.hid (heap_old (o' := (.cells #[.int .i64 k0, .int .i64 k1, .int .i64 k2] 130)) GX.out)
      replace RM := Lib.hid (RM.out.alloc (.cells #[.int .i64 k0, .int .i64 k1, .int .i64 k2] 130))
      replace HB := Lib.hid (below_more HB.out (.cells #[.int .i64 k0, .int .i64 k1, .int .i64 k2] 130))
      clear hb3
      obtain ⟨r0, r1, r2, r3, _, _, _, _, rz⟩ := four_at GR.out
      go_wp2_with fail
      clear r0 r1 r2 r3 rz
      generalize hW3 : w3.alloc (.cells #[.int .i64 k0, .int .i64 k1, .int .i64 k2] 130) = W3 at GR GZ GX GM RM HB ⊢
      generalize w3.heap.size = gm at *
      clear hW3
      refine (rowPart_q r (j : Int) HQ.out _ HFR.out).mono ?_
      rintro e w4 ⟨rfl, hb4⟩
      replace GR := Lib.hid ((hb4.block _ (heap_lt GR.out)).trans GR.out)
      replace GZ := Lib.hid ((hb4.block _ (heap_lt GZ.out)).trans GZ.out)
      replace GX := Lib.hid ((hb4.block _ (heap_lt GX.out)).trans GX.out)
      replace GM := Lib.hid ((hb4.block _ (heap_lt GM.out)).trans GM.out)
      replace RM := Lib.hid (RM.out.below' hb4)
      replace HB := Lib.hid (HB.out.trans (hb4.mono HB.out.size))
      clear hb4
      have mj : w4.cell? ⟨gm, j, none⟩ = some (.int .i64 K) := (cell_of_heap GM.out).trans HCJ.out
      have mz := heap_lt GM.out
      obtain ⟨m0, m1, m2, _, _, _, _⟩ := three_at6 GM.out
      obtain ⟨x0, x1, _, _, xz⟩ := two_at GX.out
      obtain ⟨r0, r1, r2, r3, _, _, _, _, rz⟩ := four_at GR.out
      have HPT := Lib.hid (implPutRow_a A1 c1 M r w4 f1 (by omega) HMW.out HWR.out RM.out)
      have hpr := HPR.out
      have hpl := HPL.out
      rw [if_neg h5] at hpr
      rw [hpr, if_pos rfl] at hpl
      have HP1 := Lib.hid hpr; have HP2 := Lib.hid hpl; have H5 := Lib.hid h5
      clear hpr hpl h5
      go_wp2_with fail
      refine HPT.out.mono ?_
      rw [HP1.out, HP2.out]
      rintro e w5 ⟨q, rfl, ⟨v5, f5, rfl, hr5, hn5, hf5⟩, hb5⟩
      obtain ⟨A5, c5, rfl⟩ := hr5.rows_form
      have hgm5 := Nat.lt_of_lt_of_le (heap_lt GM.out) hb5.size
      have GX5 := Lib.hid (heap_new w5 (.cells #[.int .i64 0, .slice A5 (setR M r).length c5] 31) rfl)
      have GM5 := Lib.hid (heap_old (o' := (.cells #[.int .i64 0, .slice A5 (setR M r).length c5] 31)) ((hb5.block _ (heap_lt GM.out)).trans GM.out))
      have GZ5 := Lib.hid (heap_old (o' := (.cells #[.int .i64 0, .slice A5 (setR M r).length c5] 31)) ((hb5.block _ (heap_lt GZ.out)).trans GZ.out))
      have HB5 := Lib.hid (below_more (HB.out.trans (hb5.mono HB.out.size)) (.cells #[.int .i64 0, .slice A5 (setR M r).length c5] 31))
      have RM5 := Lib.hid (hr5.alloc (.cells #[.int .i64 0, .slice A5 (setR M r).length c5] 31))
      have HF5 : Hid (∀ x ∈ f5, x ≠ gm) := fun x hx e => by have := hf5 x hx; have := heap_lt GM.out; omega
      have mj5 : (w5.alloc (.cells #[.int .i64 0, .slice A5 (setR M r).length c5] 31)).cell? ⟨gm, j, none⟩ = some (.int .i64 K) := (cell_of_heap GM5.out).trans HCJ.out
      have mf5 : (w5.alloc (.cells #[.int .i64 0, .slice A5 (setR M r).length c5] 31)).frozen? ⟨gm, j, none⟩ = false := frozen_of_heap GM5.out
      have mz5 := heap_lt GM5.out
      obtain ⟨s0, s1, _, _, sz⟩ := two_at GX5.out
      have HMW5 := Lib.hid ((hb5.block _ (heap_lt GM.out)).trans GM.out)
      have HZW5 := Lib.hid ((hb5.block _ (heap_lt GZ.out)).trans GZ.out)
      have HBW5 := Lib.hid (HB.out.trans (hb5.mono HB.out.size))
      have HRW5 := Lib.hid hr5
      have hgzm : w.heap.size + 1 < gm := by omega
      clear hb5 hr5 hn5 hf5 r0 r1 r2 r3 rz mj mz m0 m1 m2 x0 x1 xz
      go_upto_region 17 with (fail)
      have HM6 : Hid (((w5.setCell ⟨gm, j, none⟩ (.int .i64 m)).alloc (.cells #[.int .i64 0, .slice A5 (setR M r).length c5] 31)).heap[gm]? = some (.cells ((#[.int .i64 k0, .int .i64 k1, .int .i64 k2] : Array Value).setIfInBounds j (.int .i64 m)) 130 (0, 0))) := heap_old (heap_set1 (i := j) (v := .int .i64 m) HMW5.out)
      have HT6 : Hid (But [gm] w5 ((w5.setCell ⟨gm, j, none⟩ (.int .i64 m)).alloc (.cells #[.int .i64 0, .slice A5 (setR M r).length c5] 31))) := ((But.refl _ _).setCell (by simp) _).alloc _
      have HX6 : Hid (((w5.setCell ⟨gm, j, none⟩ (.int .i64 m)).alloc (.cells #[.int .i64 0, .slice A5 (setR M r).length c5] 31)).heap[w5.heap.size]? = some (.cells #[.int .i64 0, .slice A5 (setR M r).length c5] 31 (0, 0))) := heap_new _ _ (by simp [World.setCell])
      generalize hW6 : ((w5.setCell ⟨gm, j, none⟩ (.int .i64 m)).alloc (.cells #[.int .i64 0, .slice A5 (setR M r).length c5] 31)) = W6 at HM6 HT6 HX6 ⊢
      clear hW6 mj5 mf5 mz5 s0 s1 sz
      have hm6 := HM6.out
      rw [HSET.out] at hm6
      obtain ⟨m0, m1, m2, _, _, _, mz⟩ := three_at6 hm6
      obtain ⟨s0, s1, _, _, sz⟩ := two_at HX6.out
      have HZ6 := Lib.hid (HT6.out.heap HZW5.out (by simp; omega))
      have RM6 := Lib.hid (HRW5.out.but HT6.out (fun x hx he => HF5.out x hx (by simpa using he)))
      have HB6 := Lib.hid (HBW5.out.trans (HT6.out.below HBW5.out.size (by intro b hb; simp at hb; omega)))
      have hfs : Fits (setR M r) := fun k hk => fit_of_rowF (((setR_rising (rowsF_rising HMZ.out).1 H1.out).above _ (List.getElem_mem hk)).1)
      have HFS := Lib.hid hfs
      clear hm6 hfs
      go_wp2_with fail
      refine (newParts_q A5 c5 (setR M r) a0 a1 a2 L HPUT.out _ f5 (by have := H5.out; omega) HFS.out RM6.out).mono ?_
      rintro e w7 ⟨A7, c7, f7, rfl, hr7, hn7, hf7, hd7, hb7⟩
      obtain ⟨y0, y1, z0, z1, yz⟩ := two_at ((hb7.block _ (heap_lt HZ6.out)).trans HZ6.out)
      have HX := Lib.hid (psres_stored (code := 0) (g := w.heap.size + 1) (HB6.out.trans (hb7.mono HB6.out.size)) (by omega) hr7 hn7 (hf7.mono (heap_lt HZ6.out)) hd7)
      clear hr7 hn7 hf7 hd7 hb7
      go_wp2_with fail
      exact bodyPost_ret (v := psv 0 (.slice A7 L.length c7)) (by simp [results, Try.results59, go_sem, y0, y1]) rfl HX.out
end Go.Proofs.Ytoabohllphoioaa
