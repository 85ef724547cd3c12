/-
  The model's functions of chapter 8, second part: the digest of a range, of places and parts, the least difference.
-/
import Derived.Test.YtldimfmhbdhbnaaSpec8a
import Derived.Test.YtldimfmhbdhbnaaG28
import Derived.Test.YtldimfmhbdhbnaaSpec7b
namespace Go.Proofs.Ytldimfmhbdhbnaa
open Go.RowKit

set_option maxRecDepth 100000 in
set_option maxHeartbeats 2000000 in
theorem specRangeDigest_c (A : Option Addr) (c : Nat) (rs : List R) (f t : Int) (w : World) (fp : List Nat) (ha : Rd w 4 (.slice A rs.length c) (rcs rs) fp) :
    Calls Try.prog 32 #[.slice A rs.length c, .int .i64 f, .int .i64 t] w fun e w' => e = .returned (pairV (rdP rs f t)) ∧ Below w.heap.size w w' := by
  have HB0 := Lib.hid (below_new (w := w) (.cells #[.int .i64 0, .int .i64 0] 46))
  have HZ := Lib.hid (heap_new w (.cells #[.int .i64 0, .int .i64 0] 46) rfl)
  have HA := Lib.hid (ha.below' HB0.out)
  clear ha
  have hcut := specCutRows_c A c rs f t _ fp HA.out
  have hrd : rdP rs f t = if crC rs f t = 0 then (0, digL (crL rs f t)) else (crC rs f t, 0) := rfl
  have hok : crC rs f t = 0 → rowsF (crL rs f t) = 0 := fun h => by
    unfold crL
    rw [if_pos h]
    unfold crC at h
    split at h
    · rename_i h1; exact absurd h h1
    · rename_i h1; exact cut_right (by simpa using h1)
  generalize hC : crC rs f t = C at *
  generalize crL rs f t = L at *
  generalize rdP rs f t = Q at *
  have HC := Lib.hid hcut; have HRD := Lib.hid hrd; have HOK := Lib.hid hok
  clear hcut hrd hok hC
  go_enter Try.func32, Try.ntmps32
  go_wp2_with fail
  refine HC.out.mono ?_
  rintro e w1 ⟨_, rfl, ⟨v1, f1, rfl, hr1, _, _⟩, hb1⟩
  obtain ⟨A1, c1, hv1⟩ := hr1.rows_form
  subst hv1
  have HB1 := Lib.hid (HB0.out.trans (hb1.mono HB0.out.size))
  have HZ1 := Lib.hid (heap_old (o' := .cells #[.int .i64 C, .slice A1 L.length c1] 41) ((hb1.block _ (heap_lt HZ.out)).trans HZ.out))
  have HK1 := Lib.hid (heap_new w1 (.cells #[.int .i64 C, .slice A1 L.length c1] 41) rfl)
  have HR1 := Lib.hid (hr1.alloc (.cells #[.int .i64 C, .slice A1 L.length c1] 41))
  have HE1 := Lib.hid (below_more HB1.out (.cells #[.int .i64 C, .slice A1 L.length c1] 41))
  clear hb1 hr1
  obtain ⟨k0, k1, _, _, hzk⟩ := two_at HK1.out
  by_cases h0 : C = 0
  case neg =>
    have hq : Q = (C, 0) := by rw [HRD.out, if_neg h0]
    have HQ := Lib.hid hq
    have t1 : (C != 0) = true := by simpa using h0
    clear hq h0
    obtain ⟨z0, z1, y0, y1, hzz⟩ := two_at HZ1.out
    have hw1 := HB1.out.size
    go_wp2_with fail
    refine bodyPost_ret (v := pairV (C, 0)) (by simp [results, Try.results32, go_sem, z0, z1]) rfl ⟨by rw [HQ.out], ?_⟩
    exact below_set (below_set HE1.out _ _) _ _
  subst h0
  have hq : Q = (0, digL L) := by rw [HRD.out, if_pos rfl]
  have hok := rows_ok (HOK.out rfl)
  generalize hd : digL L = D at *
  have HQ := Lib.hid hq; have HL0 := Lib.hid hok; have HD := Lib.hid hd
  clear hq HOK HRD hok hd
  go_wp2_with fail
  refine (l8Digest_c A1 c1 L D HD.out _ f1 HL0.out HR1.out).mono ?_
  rintro e w2 ⟨rfl, hb2⟩
  have HE2 := Lib.hid (HE1.out.trans (hb2.mono HE1.out.size))
  obtain ⟨z0, z1, y0, y1, hzz⟩ := two_at ((hb2.block _ (heap_lt HZ1.out)).trans HZ1.out)
  clear hb2 k0 k1 hzk
  go_wp2_with fail
  refine bodyPost_ret (v := pairV (0, D)) (by simp [results, Try.results32, go_sem, z0, z1]) rfl ⟨by rw [HQ.out], ?_⟩
  exact below_set (below_set HE2.out _ _) _ _

/-- Whether both layouts have one digest. -/
def sdB (p : Pl) (l : List Pt) : Bool := decide (placesF p = 0) && decide (partsF l = 0) && decide (digL (riL p) = digL (roL l))
theorem riL_rows {p : Pl} (h : placesF p = 0) : ∀ x ∈ riL p, rowF x = 0 := by
  unfold riL
  rw [if_pos h]
  intro x hx
  obtain ⟨_, _, _, hf, _⟩ := placesF_zero h
  obtain ⟨l, hl, hx⟩ := List.mem_flatten.1 hx
  obtain ⟨k, hk, rfl⟩ := List.getElem_of_mem hl
  exact ((rowsF_rising (hf k hk).1).1.above x hx).1
theorem roL_rows {l : List Pt} (h : partsF l = 0) : ∀ x ∈ roL l, rowF x = 0 := by
  unfold roL
  rw [if_pos h]
  exact fun x hx => ((rowsF_rising (roL_facts h).2.2.2).1.above x hx).1

set_option maxRecDepth 100000 in
set_option maxHeartbeats 4000000 in
theorem specSameDigest_c (p : Pl) (vf : Value) (A : Option Addr) (c : Nat) (l : List Pt) (w : World) (fp fq : List Nat) (hs : plsz p ≤ 1048576) (hsl : psz l ≤ 1048576) (h : PlAt w p vf fp) (ha : RdP w (.slice A l.length c) l fq) :
    Calls Try.prog 36 #[plv p.mark vf, .slice A l.length c] w fun e w' => e = .returned (.bool (sdB p l)) ∧ Below w.heap.size w w' := by
  obtain ⟨B, d, rfl⟩ := h.form
  have HB0 := Lib.hid (below_new (w := w) (.cells #[.slice B p.fs.length d, .int .i64 p.mark] 29))
  have HF := Lib.hid (h.f.alloc (.cells #[.slice B p.fs.length d, .int .i64 p.mark] 29))
  have hpb : PlBox (w.alloc (.cells #[.slice B p.fs.length d, .int .i64 p.mark] 29)) w.heap.size (.slice B p.fs.length d) p.mark := ⟨by simp, by simp, by simp⟩
  have HPB := Lib.hid hpb
  have hsf : fsz p.fs ≤ 1048576 := hs
  have hcall := l6Fault_c w.heap.size p.mark B d p.fs _ fp (by omega) hpb HF.out
  have e : placesF ⟨p.fs, p.mark⟩ = placesF p := rfl
  rw [e] at hcall
  have HCL := Lib.hid hcall
  have HA := Lib.hid ha
  clear e h ha hpb hcall
  by_cases h0 : placesF p = 0
  case neg =>
    have hq : sdB p l = false := by unfold sdB; simp [h0]
    rw [hq]
    generalize placesF p = F at *
    have t1 : (F == 0) = false := by simpa using h0
    clear h0 hq
    go_enter Try.func36, Try.ntmps36
    go_wp2_with fail
    refine HCL.out.mono ?_
    rintro e w1 ⟨rfl, hq⟩
    have HB1 := Lib.hid (HB0.out.trans (hq.below.mono HB0.out.size))
    clear hq
    go_wp2_with fail
    go_ret
    exact ⟨rfl, HB1.out⟩
  have hcall := HCL.out
  rw [h0] at hcall
  replace HCL := Lib.hid hcall
  clear hcall
  by_cases h1 : partsF l = 0
  case neg =>
    have hq : sdB p l = false := by unfold sdB; simp [h1]
    rw [hq]
    obtain ⟨F, hF⟩ : ∃ F, partsF l = F := ⟨_, rfl⟩
    rw [hF] at h1
    have HFF := Lib.hid hF
    have t1 : (F == 0) = false := by simpa using h1
    clear h0 h1 hq hF
    go_enter Try.func36, Try.ntmps36
    go_wp2_with fail
    refine HCL.out.mono ?_
    rintro e w1 ⟨rfl, hq⟩
    have HB1 := Lib.hid (HB0.out.trans (hq.below.mono HB0.out.size))
    clear hq
    go_wp2_with fail
    refine (l7Fault_c A c l _ fq (by omega) (HA.out.below' HB1.out)).mono ?_
    rw [HFF.out]
    rintro e w2 ⟨rfl, hb2⟩
    have HB2 := Lib.hid (HB1.out.trans (hb2.mono HB1.out.size))
    clear hb2
    go_wp2_with fail
    go_ret
    exact ⟨rfl, HB2.out⟩
  have hL : riL p = p.fs.flatten := by unfold riL; rw [if_pos h0]
  have hR : roL l = mergeAll (allR l) := by unfold roL; rw [if_pos h1]
  have hq : sdB p l = decide (digL p.fs.flatten = digL (mergeAll (allR l))) := by unfold sdB; rw [hL, hR]; simp [h0, h1]
  rw [hq]
  have hLr := riL_rows h0; have hRr := roL_rows h1
  rw [hL] at hLr; rw [hR] at hRr
  obtain ⟨hl4, _, _, _, htot⟩ := placesF_zero h0
  have hsz2 : fsz p.fs ≤ 1000000 := by unfold fsz; omega
  have HR1 := fun W f (h : RdP W (.slice A l.length c) l f) => l7Rows_c A c l W f h1 h
  have HL7 := Lib.hid HR1; have H1 := Lib.hid h1; have HS2 := Lib.hid hsz2
  generalize hFL : p.fs.flatten = L at *
  generalize mergeAll (allR l) = M at *
  generalize hx : digL L = X at *
  generalize hy : digL M = Y at *
  have HX := Lib.hid hx; have HY := Lib.hid hy; have HFL := Lib.hid hFL
  have HLR := Lib.hid (fun k (hk : k < L.length) => hLr _ (List.getElem_mem hk)); have HMR := Lib.hid (fun k (hk : k < M.length) => hRr _ (List.getElem_mem hk))
  clear HR1 hx hy hFL hLr hRr hq hL hR h0 h1 hsz2 hl4 htot hsf
  go_enter Try.func36, Try.ntmps36
  go_wp2_with fail
  refine HCL.out.mono ?_
  rintro e w1 ⟨rfl, hq⟩
  have HB1 := Lib.hid (HB0.out.trans (hq.below.mono HB0.out.size))
  have HF1 := Lib.hid (HF.out.qt hq)
  have HP1 := Lib.hid (HPB.out.below hq.below (by simp))
  clear hq
  go_wp2_with fail
  refine (l7Fault_c A c l _ fq (by omega) (HA.out.below' HB1.out)).mono ?_
  rw [H1.out]
  rintro e w2 ⟨rfl, hb2⟩
  have HB2 := Lib.hid (HB1.out.trans (hb2.mono HB1.out.size))
  have HF2 := Lib.hid (HF1.out.below' hb2)
  have HP2 := Lib.hid (HP1.out.below hb2 HP1.out.lt)
  clear hb2
  go_wp2_with fail
  refine (l6Rows_c w.heap.size p.mark B d p.fs _ fp HS2.out HP2.out HF2.out).mono ?_
  rw [HFL.out]
  rintro e w3 ⟨v3, f3, rfl, hr3, _, _, hb3, _⟩
  obtain ⟨A3, c3, hv3⟩ := hr3.rows_form
  subst hv3
  have HB3 := Lib.hid (HB2.out.trans (hb3.mono HB2.out.size))
  have HR3 := Lib.hid hr3
  clear hr3 hb3
  go_wp2_with fail
  refine (l8Digest_c A3 c3 L X HX.out _ f3 HLR.out HR3.out).mono ?_
  rintro e w4 ⟨rfl, hb4⟩
  have HB4 := Lib.hid (HB3.out.trans (hb4.mono HB3.out.size))
  clear hb4
  go_wp2_with fail
  refine (HL7.out w4 fq (HA.out.below' HB4.out)).mono ?_
  rintro e w5 ⟨v5, f5, rfl, hr5, _, _, hb5⟩
  obtain ⟨A5, c5, hv5⟩ := hr5.rows_form
  subst hv5
  have HB5 := Lib.hid (HB4.out.trans (hb5.mono HB4.out.size))
  have HR5 := Lib.hid hr5
  clear hr5 hb5
  go_wp2_with fail
  refine (l8Digest_c A5 c5 M Y HY.out _ f5 HMR.out HR5.out).mono ?_
  rintro e w6 ⟨rfl, hb6⟩
  have HB6 := Lib.hid (HB5.out.trans (hb6.mono HB5.out.size))
  clear hb6
  by_cases hxy : X = Y
  · subst hxy
    go_wp2
    go_ret
    exact ⟨by simp, HB6.out⟩
  · have t1 : (X == Y) = false := by simpa using hxy
    have t2 : decide (X = Y) = false := by simpa using hxy
    have HT2 := Lib.hid t2
    clear hxy t2
    go_wp2
    go_ret
    exact ⟨congrArg (fun z => Ending.returned (Value.bool z)) HT2.out.symm, HB6.out⟩

def noDif (a b : List R) (n : Nat) : Prop := ∀ j, j < n → difK a b j = false
theorem dfP_hit {a b : List R} (ha : rowsF a = 0) (hb : rowsF b = 0) {j : Nat} (hj : j < 80) (hn : noDif a b j) (hd : difK a b j = true) : dfP a b = (0, keyK j) := by
  unfold dfP
  rw [if_pos ha, if_pos hb]
  have e : (List.range 80).find? (difK a b) = some j := by
    rw [List.find?_eq_some_iff_append]
    refine ⟨hd, List.range j, List.range' (j + 1) (79 - j), ?_, fun x hx => by rw [hn x (List.mem_range.1 hx)]; rfl⟩
    rw [List.range_eq_range', List.range_eq_range', ← List.range'_succ, show 80 = j + (79 - j + 1) by omega, ← List.range'_append_1]
    simp
  rw [e]
theorem dfP_end {a b : List R} (ha : rowsF a = 0) (hb : rowsF b = 0) (hn : noDif a b 80) : dfP a b = (4, 0) := by
  unfold dfP
  rw [if_pos ha, if_pos hb]
  have e : (List.range 80).find? (difK a b) = none := by
    rw [List.find?_eq_none]
    intro x hx
    rw [hn x (List.mem_range.1 hx)]; simp
  rw [e]
theorem difK_at (a b : List R) (k s : Nat) (h0 : 1 ≤ s) (h1 : s ≤ 20) : difK a b (20 * k + (s - 1)) = decide (getV a (k : Int) (s : Int) ≠ getV b (k : Int) (s : Int)) := by
  unfold difK dAt
  rw [show (20 * k + (s - 1)) / 20 = k by omega, show (20 * k + (s - 1)) % 20 + 1 = s by omega]
theorem keyK_at (k s : Nat) (h0 : 1 ≤ s) (h1 : s ≤ 20) : keyK (20 * k + (s - 1)) = 21 * (k : Int) + (s : Int) := by
  unfold keyK
  rw [show (20 * k + (s - 1)) / 20 = k by omega, show (20 * k + (s - 1)) % 20 + 1 = s by omega]
theorem noDif_more {a b : List R} {n : Nat} (h : noDif a b n) (hd : difK a b n = false) : noDif a b (n + 1) := fun j hj => by
  by_cases e : j = n
  · subst e; exact hd
  · exact h j (by omega)
theorem getV_at (rs : List R) (l s : Int) : (getV rs l s).1 = l ∧ (getV rs l s).2.1 = s := by
  rcases getV_cases rs l s with ⟨_, h1, h2⟩ | h
  · exact ⟨h1, h2⟩
  · rw [h]; exact ⟨rfl, rfl⟩

theorem l2Fault_b (A : Option Addr) (c : Nat) (rs : List R) (w : World) (fp : List Nat) (ha : Rd w 4 (.slice A rs.length c) (rcs rs) fp) :
    Calls Try.prog 69 #[.slice A rs.length c] w fun e w' => e = .returned (.int .i64 (rowsF rs)) ∧ Below w.heap.size w w' :=
  (l2Fault_c A c rs w fp ha).mono fun _ _ ⟨he, m, hw⟩ => ⟨he, hw ▸ below_drewN' (Below.refl _ _) m⟩

set_option maxRecDepth 100000 in
set_option maxHeartbeats 8000000 in
theorem specDifferAt_c (A B : Option Addr) (c d : Nat) (a b : List R) (w : World) (fp fq : List Nat) (ha : Rd w 4 (.slice A a.length c) (rcs a) fp) (hb : Rd w 4 (.slice B b.length d) (rcs b) fq) :
    Calls Try.prog 42 #[.slice A a.length c, .slice B b.length d] w fun e w' => e = .returned (pairV (dfP a b)) ∧ Below w.heap.size w w' := by
  have HB0 := Lib.hid (below_new (w := w) (.cells #[.int .i64 0, .int .i64 0] 46))
  have HZ := Lib.hid (heap_new w (.cells #[.int .i64 0, .int .i64 0] 46) rfl)
  have HA := Lib.hid ha; have HBB := Lib.hid hb
  have HA0 := Lib.hid (ha.below' HB0.out); have HBB0 := Lib.hid (hb.below' HB0.out)
  clear ha hb
  by_cases hva : rowsF a = 0
  case neg =>
    have e : dfP a b = (rowsF a, 0) := by unfold dfP; rw [if_neg hva]
    rw [e]
    generalize hF : rowsF a = F at *
    have HF := Lib.hid hF
    have t1 : (F != 0) = true := by simpa using hva
    clear hF e hva
    go_enter Try.func42, Try.ntmps42
    go_wp2_with fail
    refine (l2Fault_b A c a _ fp HA0.out).mono ?_
    rw [HF.out]
    rintro e w1 ⟨rfl, hb1⟩
    have HB1 := Lib.hid (HB0.out.trans (hb1.mono HB0.out.size))
    obtain ⟨z0, z1, y0, y1, hzz⟩ := two_at ((hb1.block _ (heap_lt HZ.out)).trans HZ.out)
    clear hb1
    go_wp2_with fail
    refine bodyPost_ret (v := pairV (F, 0)) (by simp [results, Try.results42, go_sem, z0, z1]) rfl ⟨rfl, ?_⟩
    exact below_set (below_set HB1.out _ _) _ _
  by_cases hvb : rowsF b = 0
  case neg =>
    have e : dfP a b = (rowsF b, 0) := by unfold dfP; rw [if_pos hva, if_neg hvb]
    rw [e]
    generalize hF : rowsF b = F at *
    have HF := Lib.hid hF; have HF0 := Lib.hid hva
    have t1 : (F != 0) = true := by simpa using hvb
    clear hF e hva hvb
    go_enter Try.func42, Try.ntmps42
    go_wp2_with fail
    refine (l2Fault_b A c a _ fp HA0.out).mono ?_
    rw [HF0.out]
    rintro e w1 ⟨rfl, hb1⟩
    have HB1 := Lib.hid (HB0.out.trans (hb1.mono HB0.out.size))
    have HZ1 := Lib.hid ((hb1.block _ (heap_lt HZ.out)).trans HZ.out)
    clear hb1
    go_wp2_with fail
    refine (l2Fault_b B d b _ fq (HBB.out.below' HB1.out)).mono ?_
    rw [HF.out]
    rintro e w2 ⟨rfl, hb2⟩
    have HB2 := Lib.hid (HB1.out.trans (hb2.mono HB1.out.size))
    obtain ⟨z0, z1, y0, y1, hzz⟩ := two_at ((hb2.block _ (heap_lt HZ1.out)).trans HZ1.out)
    clear hb2
    go_wp2_with fail
    refine bodyPost_ret (v := pairV (F, 0)) (by simp [results, Try.results42, go_sem, z0, z1]) rfl ⟨rfl, ?_⟩
    exact below_set (below_set HB2.out _ _) _ _
  have HF0 := Lib.hid hva; have HF1 := Lib.hid hvb
  generalize hQ : dfP a b = Q
  have HQ := Lib.hid hQ
  have q1 := rowNeq; have q2 := rowGuard
  clear hva hvb hQ
  go_enter Try.func42, Try.ntmps42
  go_wp2_with fail
  refine (l2Fault_b A c a _ fp HA0.out).mono ?_
  rw [HF0.out]
  rintro e w1 ⟨rfl, hb1⟩
  have HB1 := Lib.hid (HB0.out.trans (hb1.mono HB0.out.size))
  have HZ1 := Lib.hid ((hb1.block _ (heap_lt HZ.out)).trans HZ.out)
  clear hb1
  go_wp2_with fail
  refine (l2Fault_b B d b _ fq (HBB.out.below' HB1.out)).mono ?_
  rw [HF1.out]
  rintro e W ⟨rfl, hb2⟩
  have HB2 := Lib.hid (HB1.out.trans (hb2.mono HB1.out.size))
  have HZ2 := Lib.hid ((hb2.block _ (heap_lt HZ1.out)).trans HZ1.out)
  clear hb2
  go_wp2_with fail
  have hsz := heap_lt HZ2.out
  have HN0 := Lib.hid (show noDif a b (20 * 0) from fun j hj => absurd hj (by omega))
  go_loopw [7] (fun i wr => ∃ k : Nat, k ≤ 4 ∧ i = .int .i64 k ∧ Hid (Below (w.heap.size + 1) W wr) ∧ Hid (noDif a b (20 * k))) (fun i _ => 4 - (intOf i).toNat)
  case atStart => exact ⟨0, by omega, rfl, Lib.hid (Below.refl _ _), HN0⟩
  case round =>
    clear HN0
    obtain ⟨k, hk, rfl, HBW, HN⟩ := hrel
    by_cases hlt : k < 4
    · have HN1 := Lib.hid (show noDif a b (20 * k + (1 - 1)) from HN.out)
      have hk3 : decide ((k : Int) ≤ 3) = true := by simp; omega
      go_wp2_with fail
      go_loopw [8] (fun i wr => ∃ s : Nat, 1 ≤ s ∧ s ≤ 21 ∧ i = .int .i64 s ∧ Hid (Below (w.heap.size + 1) W wr) ∧ Hid (noDif a b (20 * k + (s - 1)))) (fun i _ => 21 - (intOf i).toNat)
      case atStart => exact ⟨1, by omega, by omega, rfl, HBW, HN1⟩
      case round =>
        clear HN1 HBW HN
        obtain ⟨s, hs1, hs, rfl, HBW, HN⟩ := hrel
        have HBT := Lib.hid (HB2.out.trans (HBW.out.mono (by omega)))
        by_cases hls : s ≤ 20
        · have hdk := difK_at a b k s hs1 hls
          have hkk := keyK_at k s hs1 hls
          obtain ⟨x1, x2⟩ := getV_at a k s
          obtain ⟨y1, y2⟩ := getV_at b k s
          have HGA := Lib.hid (fun W f (h : Rd W 4 (.slice A a.length c) (rcs a) f) => l2Get_c A c a (k : Int) (s : Int) W f h)
          have HGB := Lib.hid (fun W f (h : Rd W 4 (.slice B b.length d) (rcs b) f) => l2Get_c B d b (k : Int) (s : Int) W f h)
          generalize getV a k s = x at *
          generalize getV b k s = y at *
          generalize (getR a k s).isSome = xb at *
          generalize (getR b k s).isSome = yb at *
          have HDK := Lib.hid hdk; have HKK := Lib.hid hkk; have HX1 := Lib.hid x1; have HX2 := Lib.hid x2
          clear hdk hkk x1 x2 y1 y2
          go_wp2_with fail
          refine (HGA.out _ fp (HA.out.below' HBT.out)).mono ?_
          rintro e w3 ⟨rfl, hb3⟩
          have HX3 := Lib.hid (heap_new w3 (.cells #[.int .i64 x.1, .int .i64 x.2.1, .int .i64 x.2.2.1, .int .i64 x.2.2.2] 34) rfl)
          have hz3 := HBW.out.size
          have HW3 := Lib.hid (HBW.out.trans ((below_more hb3 (.cells #[.int .i64 x.1, .int .i64 x.2.1, .int .i64 x.2.2.1, .int .i64 x.2.2.2] 34)).mono (by omega)))
          have HT3 := Lib.hid (HB2.out.trans (HW3.out.mono (by omega)))
          have hw3 := hb3.size
          clear hb3
          go_wp2_with fail
          generalize w3.alloc (.cells #[.int .i64 x.1, .int .i64 x.2.1, .int .i64 x.2.2.1, .int .i64 x.2.2.2] 34) = W3 at *
          generalize w3.heap.size = gx at *
          refine (HGB.out _ fq (HBB.out.below' HT3.out)).mono ?_
          rintro e w4 ⟨rfl, hb4⟩
          have HY4 := Lib.hid (heap_new w4 (.cells #[.int .i64 y.1, .int .i64 y.2.1, .int .i64 y.2.2.1, .int .i64 y.2.2.2] 34) rfl)
          have HX4 := Lib.hid (heap_old (o' := .cells #[.int .i64 y.1, .int .i64 y.2.1, .int .i64 y.2.2.1, .int .i64 y.2.2.2] 34) ((hb4.block _ (heap_lt HX3.out)).trans HX3.out))
          have hz4 := HW3.out.size
          have HW4 := Lib.hid (HW3.out.trans ((below_more hb4 (.cells #[.int .i64 y.1, .int .i64 y.2.1, .int .i64 y.2.2.1, .int .i64 y.2.2.2] 34)).mono (by omega)))
          have HT4 := Lib.hid (HB2.out.trans (HW4.out.mono (by omega)))
          have HZ4 := Lib.hid ((HW4.out.block _ (by omega)).trans HZ2.out)
          clear hb4 HX3
          obtain ⟨p0, p1, p2, p3, _, _, _, _, hzx⟩ := four_at HX4.out
          obtain ⟨r0, r1, r2, r3, _, _, _, _, hzy⟩ := four_at HY4.out
          by_cases he : x = y
          · subst he
            have hd0 : difK a b (20 * k + (s - 1)) = false := by rw [HDK.out]; simp
            have HN2 := Lib.hid (show noDif a b (20 * k + (s + 1 - 1)) from by have := noDif_more HN.out hd0; rw [show 20 * k + (s - 1) + 1 = 20 * k + (s + 1 - 1) by omega] at this; exact this)
            clear hd0
            go_wp2_with fail
            exact ⟨⟨s + 1, by omega, by omega, by go_num, HW4, HN2⟩, by simp [intOf]; omega⟩
          · have hd0 : difK a b (20 * k + (s - 1)) = true := by rw [HDK.out]; simpa using he
            have hq : Q = (0, keyR x) := by
              rw [← HQ.out, dfP_hit HF0.out HF1.out (by omega) HN.out hd0, HKK.out]
              unfold keyR; rw [HX1.out, HX2.out]
            have HQ2 := Lib.hid hq
            have te : decide (x = y) = false := decide_eq_false he
            have hrx : RowAt (w4.alloc (.cells #[.int .i64 y.1, .int .i64 y.2.1, .int .i64 y.2.2.1, .int .i64 y.2.2.2] 34)) gx 0 x := ⟨p0, p1, p2, p3⟩
            have HRX := Lib.hid hrx
            clear hd0 hq he hrx
            go_wp2_with fail
            clear p0 p1 p2 p3 r0 r1 r2 r3
            refine (l2Key_c gx 0 x _ HRX.out (by rw [HX1.out]; omega) (by rw [HX1.out]; omega) (by rw [HX2.out]; omega) (by rw [HX2.out]; omega)).mono ?_
            rintro e w5 ⟨rfl, m, rfl⟩
            obtain ⟨z0, z1, y0, y1, hzz⟩ := two_at HZ4.out
            go_wp2_with fail
            refine bodyPost_ret (v := pairV (0, keyR x)) (by simp [results, Try.results42, go_sem, z0, z1]) rfl ⟨by rw [HQ2.out], ?_⟩
            exact below_set (below_set (below_drewN' HT4.out m) _ _) _ _
        · obtain rfl : s = 21 := by omega
          have HN2 := Lib.hid (show noDif a b (20 * (k + 1)) from HN.out)
          go_wp2
          exact ⟨⟨k + 1, by omega, by go_num, HBW, HN2⟩, by simp [intOf]; omega⟩
    · obtain rfl : k = 4 := by omega
      have hq : Q = (4, 0) := by rw [← HQ.out]; exact dfP_end HF0.out HF1.out HN.out
      have HQ2 := Lib.hid hq
      have HZ3 := Lib.hid ((HBW.out.block _ (by omega)).trans HZ2.out)
      have HBT := Lib.hid (HB2.out.trans (HBW.out.mono (by omega)))
      obtain ⟨z0, z1, y0, y1, hzz⟩ := two_at HZ3.out
      clear hq
      go_wp2_with fail
      refine bodyPost_ret (v := pairV (4, 0)) (by simp [results, Try.results42, go_sem, z0, z1]) rfl ⟨by rw [HQ2.out], ?_⟩
      exact below_set (below_set HBT.out _ _) _ _
end Go.Proofs.Ytldimfmhbdhbnaa
