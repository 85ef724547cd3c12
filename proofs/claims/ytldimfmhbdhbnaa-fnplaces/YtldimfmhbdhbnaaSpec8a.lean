/-
  The model's functions of chapter 8, first part: the sum of a row, adding digests, the digest of rows and of a range.
-/
import Derived.Test.YtldimfmhbdhbnaaSum7
import Derived.Test.YtldimfmhbdhbnaaG39
import Derived.Test.YtldimfmhbdhbnaaG15
import Derived.Test.YtldimfmhbdhbnaaG11
namespace Go.Proofs.Ytldimfmhbdhbnaa
open Go.RowKit

theorem byt_pk4 (l s h d : Int) : Byt (pk [l, s, h, d] 4) := by
  intro z hz
  simp only [pk, List.length_cons, List.length_nil, List.take_succ_cons, List.take_zero, List.flatMap_cons, List.flatMap_nil, List.append_nil, put2, List.mem_cons, List.mem_append, List.not_mem_nil, or_false] at hz
  omega
theorem allShort_four {l s h d : Int} (hv : rowF (l, s, h, d) = 0) : allShort [l, s, h, d] := by
  have h0 := rowF_zero hv
  simp only at h0
  have hs : ∀ z : Int, 0 ≤ z → z ≤ 9999 → shortB z = true := fun z h0 h1 => inB_true.2 ⟨by omega, by omega⟩
  intro k hk
  match k, hk with
  | 0, _ => exact hs l (by omega) (by omega)
  | 1, _ => exact hs s (by omega) (by omega)
  | 2, _ => exact hs h (by omega) (by omega)
  | 3, _ => exact hs d (by omega) (by omega)
/-- Four integers in a block of their own. -/
theorem four_ints (w : World) (l s h d : Int) (t : TypeId) : Rd (w.alloc (.cells #[.int .i64 l, .int .i64 s, .int .i64 h, .int .i64 d] t)) 1 (.slice (some ⟨w.heap.size, 0, none⟩) [l, s, h, d].length 4) (cellsOf .i64 [l, s, h, d]) [w.heap.size] :=
  ⟨_, 4, 4, rfl, rfl, by unfold maxLen; omega, Nat.le_refl _, .inr ⟨_, 0, rfl, rfl, heap_lt (heap_new w _ rfl), fun i u hu => by
    rw [Nat.zero_add, cell_of_heap (heap_new w _ rfl), List.getElem?_toArray]; exact hu⟩⟩
theorem packFour_c (l s h d : Int) (A : Option Addr) (w : World) (fp : List Nat) (P : List Int) (hP : pk [l, s, h, d] 4 = P) (hv : rowF (l, s, h, d) = 0) (ha : Rd w 1 (.slice A 4 4) (cellsOf .i64 [l, s, h, d]) fp) :
    Calls Try.prog 115 #[.slice A 4 4] w (SlicePost .u8 w P) := by
  subst hP
  exact l1Pack_c _ 4 [l, s, h, d] _ fp (by simp) (allShort_four hv) ha
theorem packFourI_c (l s h d : Int) (A : Option Addr) (w : World) (fp : List Nat) (P : List Int) (hP : pk [l, s, h, d] 4 = P) (hv : rowF (l, s, h, d) = 0) (ha : Rd w 1 (.slice A 4 4) (cellsOf .i64 [l, s, h, d]) fp) :
    Calls Try.prog 117 #[.slice A 4 4] w (BytesPost w 0 P) := by
  subst hP
  have h := implPackNumbers_c _ 4 [l, s, h, d] _ _ ha
  rw [packC_0 (by simp) (allShort_four hv), packL_0 (by simp) (allShort_four hv)] at h
  exact h

theorem RowAt.drewN {w : World} {b o : Nat} {r : R} (h : RowAt w b o r) (m : Nat) : RowAt (w.drewN m) b o r := h
set_option maxRecDepth 100000 in
set_option maxHeartbeats 2000000 in
theorem l8Row_c (b off : Nat) (r : R) (V : Int) (hV : rs8 r = V) (w : World) (hv : rowF r = 0) (h : RowAt w b off r) :
    Calls Try.prog 73 #[.pointer (some ⟨b, off, none⟩)] w fun e w' => e = .returned (.int .i64 V) ∧ Below w.heap.size w w' := by
  obtain ⟨l, s, q, d⟩ := r
  have HN := Lib.hid (l6Nothing_c b off (l, s, q, d) w h)
  obtain ⟨c0, c1, c2, c3⟩ := h
  simp only at c0 c1 c2 c3
  cases he : emptyB (l, s, q, d)
  case true =>
    have e0 : V = 0 := by rw [← hV]; unfold rs8; rw [he]; rfl
    have HE := Lib.hid he; have HV := Lib.hid e0
    clear he hV e0 hv c0 c1 c2 c3
    go_enter Try.func73, Try.ntmps73
    go_wp2_with fail
    refine HN.out.mono ?_
    rintro e w1 ⟨rfl, rfl⟩
    rw [HE.out]
    go_wp2_with fail
    go_ret
    exact ⟨congrArg (fun z => Ending.returned (Value.int .i64 z)) HV.out.symm, Below.refl _ _⟩
  have hV2 : sumL (pk [l, s, q, d] 4) = V := by rw [← hV]; unfold rs8; rw [he]; rfl
  have hby := byt_pk4 l s q d
  generalize hP : pk [l, s, q, d] 4 = P at *
  have HP := Lib.hid hP; have HV := Lib.hid hV2; have HBY := Lib.hid hby; have HVR := Lib.hid hv; have HE := Lib.hid he
  clear hP hV hV2 hby hv he
  go_enter Try.func73, Try.ntmps73
  go_wp2_with fail
  refine HN.out.mono ?_
  rintro e w1 ⟨rfl, rfl⟩
  rw [HE.out]
  have n0 := World.new_ne w _ c0
  have n1 := World.new_ne w _ c1
  have n2 := World.new_ne w _ c2
  have n3 := World.new_ne w _ c3
  have hbz := cell_lt c0
  go_wp2_with fail
  go_region_held3 (fun w' => w'.cell? ⟨b, off, none⟩ = some (.int .i64 l) ∧ w'.cell? ⟨b, off + 1, none⟩ = some (.int .i64 s) ∧ w'.cell? ⟨b, off + 2, none⟩ = some (.int .i64 q) ∧ w'.cell? ⟨b, off + 3, none⟩ = some (.int .i64 d))
    (first
      | go_keep
      | exact ⟨(hq1.cell (p := ⟨b, off, none⟩) hbz).trans c0, (hq1.cell (p := ⟨b, off + 1, none⟩) hbz).trans c1, (hq1.cell (p := ⟨b, off + 2, none⟩) hbz).trans c2, (hq1.cell (p := ⟨b, off + 3, none⟩) hbz).trans c3⟩)
    (first
      | (go_at_call 115
         refine (packFour_c l s q d _ _ _ P HP.out HVR.out (Rd.drew (four_ints w l s q d 2))).mono ?_
         rintro e u1 ⟨v1, f1, rfl, hr1, hn1, hf1, hbq⟩
         obtain ⟨A1, k1, hv1⟩ := hr1.form
         subst hv1
         have hq1 : Below w.heap.size w u1 := (below_new (.cells #[.int .i64 l, .int .i64 s, .int .i64 q, .int .i64 d] 2)).drew.trans (hbq.mono (by simp))
         clear hbq)
      | (go_at_call 114
         refine (l1Sum_q A1 k1 P V HV.out _ f1 HBY.out hr1).mono ?_
         rintro e u2 ⟨rfl, rfl⟩))
  go_wp2_with fail
  go_ret
  exact ⟨rfl, hq1⟩

set_option maxRecDepth 100000 in
set_option maxHeartbeats 2000000 in
theorem specRowSum_c (r : R) (w : World) :
    Calls Try.prog 23 #[rv r] w fun e w' => e = .returned (pairV (rsP r)) ∧ Below w.heap.size w w' := by
  have HB0 := Lib.hid (below_more (below_new (w := w) (.cells #[.int .i64 r.1, .int .i64 r.2.1, .int .i64 r.2.2.1, .int .i64 r.2.2.2] 34)) (.cells #[.int .i64 0, .int .i64 0] 46))
  have HK := Lib.hid (heap_old (o' := .cells #[.int .i64 0, .int .i64 0] 46) (heap_new w (.cells #[.int .i64 r.1, .int .i64 r.2.1, .int .i64 r.2.2.1, .int .i64 r.2.2.2] 34) rfl))
  have HZ := Lib.hid (heap_new (w.alloc (.cells #[.int .i64 r.1, .int .i64 r.2.1, .int .i64 r.2.2.1, .int .i64 r.2.2.2] 34)) (.cells #[.int .i64 0, .int .i64 0] 46) (g := w.heap.size + 1) (by simp))
  have hra : RowAt ((w.alloc (.cells #[.int .i64 r.1, .int .i64 r.2.1, .int .i64 r.2.2.1, .int .i64 r.2.2.2] 34)).alloc (.cells #[.int .i64 0, .int .i64 0] 46)) w.heap.size 0 r := by
    obtain ⟨k0, k1, k2, k3, _⟩ := four_at HK.out; exact ⟨k0, k1, k2, k3⟩
  have HRA := Lib.hid hra
  clear hra
  by_cases hv : rowF r = 0
  case neg =>
    have e : rsP r = (rowF r, 0) := by unfold rsP; rw [if_neg hv]
    rw [e]
    generalize hF : rowF r = F at *
    have HF := Lib.hid hF
    have t1 : (F != 0) = true := by simpa using hv
    clear hF e hv
    go_enter Try.func23, Try.ntmps23
    go_wp2_with fail
    refine (l2Row_c _ 0 r _ HRA.out).mono ?_
    rw [HF.out]
    rintro e w1 ⟨rfl, m, rfl⟩
    obtain ⟨z0, z1, y0, y1, hzz⟩ := two_at HZ.out
    go_wp2_with fail
    refine bodyPost_ret (v := pairV (F, 0)) (by simp [results, Try.results23, go_sem, z0, z1]) rfl ⟨rfl, ?_⟩
    exact (below_drewN' HB0.out m).trans ((But.two _ (w.heap.size + 1) 0 1 _ _).below (by have := HB0.out.size; simpa using this) (by intro x hx; simp at hx; omega))
  have e : rsP r = (0, rs8 r) := by unfold rsP; rw [if_pos hv]
  rw [e]
  generalize hV : rs8 r = V at *
  have HV := Lib.hid hV; have HF := Lib.hid hv
  clear hV e hv
  go_enter Try.func23, Try.ntmps23
  go_wp2_with fail
  refine (l2Row_c _ 0 r _ HRA.out).mono ?_
  rw [HF.out]
  rintro e w1 ⟨rfl, m, rfl⟩
  go_wp2_with fail
  refine (l8Row_c _ 0 r V HV.out _ HF.out (HRA.out.drewN m)).mono ?_
  rintro e w2 ⟨rfl, hb2⟩
  have HB2 := Lib.hid ((below_drewN' HB0.out m).trans (hb2.mono (by have := HB0.out.size; simpa using this)))
  have HZ2 := Lib.hid ((hb2.block _ (heap_lt (w := World.drewN _ m) HZ.out)).trans HZ.out)
  clear hb2
  obtain ⟨z0, z1, y0, y1, hzz⟩ := two_at HZ2.out
  go_wp2_with fail
  refine bodyPost_ret (v := pairV (0, V)) (by simp [results, Try.results23, go_sem, z0, z1]) rfl ⟨rfl, ?_⟩
  exact HB2.out.trans ((But.two _ (w.heap.size + 1) 0 1 _ _).below HB2.out.size (by intro x hx; simp at hx; omega))

set_option maxRecDepth 100000 in
set_option maxHeartbeats 2000000 in
theorem specAddDigest_c (a b : Int) (w : World) :
    Calls Try.prog 43 #[.int .i64 a, .int .i64 b] w fun e w' => e = .returned (pairV (adP a b)) ∧ Below w.heap.size w w' := by
  cases h1 : inB a 0 65520
  · have e : adP a b = (3, 0) := by simp [adP, h1]
    rw [e]
    have H1 := Lib.hid h1; clear h1 e
    go_enter Try.func43, Try.ntmps43
    go_wp2_with fail
    refine (l1In_c _ _ _ _).mono ?_
    rw [H1.out]
    rintro e w1 ⟨rfl, rfl⟩
    go_wp2_with fail
    exact bodyPost_ret (v := pairV (3, 0)) (by simp [results, Try.results43, go_sem]) rfl ⟨rfl, below_new _⟩
  cases h2 : inB b 0 65520
  · have e : adP a b = (3, 0) := by simp [adP, h1, h2]
    rw [e]
    have H1 := Lib.hid h1; have H2 := Lib.hid h2; clear h1 h2 e
    go_enter Try.func43, Try.ntmps43
    go_wp2_with fail
    refine (l1In_c _ _ _ _).mono ?_
    rw [H1.out]
    rintro e w1 ⟨rfl, rfl⟩
    go_wp2_with fail
    refine (l1In_c _ _ _ _).mono ?_
    rw [H2.out]
    rintro e w1 ⟨rfl, rfl⟩
    go_wp2_with fail
    exact bodyPost_ret (v := pairV (3, 0)) (by simp [results, Try.results43, go_sem]) rfl ⟨rfl, below_new _⟩
  have e : adP a b = (0, addS a b) := by simp [adP, h1, h2]
  rw [e]
  have ha := inB_true.1 h1; have hb := inB_true.1 h2
  have H1 := Lib.hid h1; have H2 := Lib.hid h2; clear h1 h2 e
  obtain ⟨a0, a1⟩ := ha
  obtain ⟨b0, b1⟩ := hb
  go_enter Try.func43, Try.ntmps43
  go_wp2_with fail
  refine (l1In_c _ _ _ _).mono ?_
  rw [H1.out]
  rintro e w1 ⟨rfl, rfl⟩
  go_wp2_with fail
  refine (l1In_c _ _ _ _).mono ?_
  rw [H2.out]
  rintro e w1 ⟨rfl, rfl⟩
  go_wp2_with fail
  exact bodyPost_ret (v := pairV (0, addS a b)) (by simp [results, Try.results43, go_sem]; rfl) rfl ⟨rfl, below_new _⟩

set_option maxRecDepth 100000 in
set_option maxHeartbeats 2000000 in
theorem l8Digest_c (A : Option Addr) (c : Nat) (rs : List R) (V : Int) (hV : digL rs = V) (w : World) (fp : List Nat) (hv : ∀ k (h : k < rs.length), rowF rs[k] = 0) (ha : Rd w 4 (.slice A rs.length c) (rcs rs) fp) :
    Calls Try.prog 75 #[.slice A rs.length c] w fun e w' => e = .returned (.int .i64 V) ∧ Below w.heap.size w w' := by
  have hmax := ha.len_le
  have HA := Lib.hid ha; have HVR := Lib.hid hv; have HV := Lib.hid hV
  clear ha hv hV
  go_enter Try.func75, Try.ntmps75
  go_wp2
  go_loopw [3, 4] (fun s i wr => ∃ k : Nat, k ≤ rs.length ∧ i = .int .i64 k ∧ (∃ n : Int, s = .int .i64 n ∧ Hid (digL (rs.take k) = n) ∧ 0 ≤ n ∧ n ≤ 65520) ∧ Hid (Below w.heap.size w wr)) (fun _ i _ => rs.length - (intOf i).toNat)
  case atStart => exact ⟨0, Nat.zero_le _, rfl, ⟨0, rfl, Lib.hid rfl, by omega, by omega⟩, Lib.hid (Below.refl _ _)⟩
  case round =>
    obtain ⟨k, hk, rfl, ⟨n, rfl, hn, n0, n1⟩, HB⟩ := hrel
    by_cases hlt : k < rs.length
    · obtain ⟨b, off, rfl, _, hbl, p0, p1, p2, p3⟩ := (HA.out.below' HB.out).row_at hlt
      have ht := digL_take rs k hlt
      rw [hn.out] at ht
      have hvk := HVR.out k hlt
      generalize rs[k] = r at *
      generalize hq : rs8 r = q at *
      have hqb := rs8_bd r
      rw [hq] at hqb
      obtain ⟨q0, q1⟩ := hqb
      have hadd := addS_bd n q
      have HT := Lib.hid ht; have HQ := Lib.hid hq; have HR := Lib.hid (show RowAt wr b (off + k * 4) r from ⟨p0, p1, p2, p3⟩); have HVK := Lib.hid hvk
      clear ht hq p0 p1 p2 p3 hvk hn
      go_wp2_with fail
      refine (l8Row_c b (off + k * 4) r q HQ.out _ HVK.out HR.out).mono ?_
      rintro e w2 ⟨rfl, hb2⟩
      have HB2 := Lib.hid (HB.out.trans (hb2.mono HB.out.size))
      clear hb2
      go_wp2_with fail
      exact ⟨⟨k + 1, by omega, by go_num, ⟨addS n q, rfl, HT, hadd.1, hadd.2⟩, HB2⟩, by simp [intOf]; omega⟩
    · obtain rfl : k = rs.length := by omega
      have h := hn.out
      rw [List.take_length, HV.out] at h
      have H := Lib.hid h; clear h
      go_wp2
      go_ret
      exact ⟨congrArg (fun z => Ending.returned (Value.int .i64 z)) H.out.symm, HB.out⟩
theorem rows_ok {rs : List R} (h : rowsF rs = 0) : ∀ k (h : k < rs.length), rowF rs[k] = 0 := fun _ hk => ((rowsF_rising h).1.above _ (List.getElem_mem hk)).1

set_option maxRecDepth 100000 in
set_option maxHeartbeats 2000000 in
theorem specDigestOf_c (A : Option Addr) (c : Nat) (rs : List R) (w : World) (fp : List Nat) (ha : Rd w 4 (.slice A rs.length c) (rcs rs) fp) :
    Calls Try.prog 28 #[.slice A rs.length c] w fun e w' => e = .returned (pairV (dgP rs)) ∧ Below w.heap.size w w' := by
  have HB0 := Lib.hid (below_new (w := w) (.cells #[.int .i64 0, .int .i64 0] 46))
  have HZ := Lib.hid (heap_new w (.cells #[.int .i64 0, .int .i64 0] 46) rfl)
  have HA := Lib.hid (ha.below' HB0.out)
  clear ha
  by_cases hv : rowsF rs = 0
  case neg =>
    have e : dgP rs = (rowsF rs, 0) := by unfold dgP; rw [if_neg hv]
    rw [e]
    generalize hF : rowsF rs = F at *
    have HF := Lib.hid hF
    have t1 : (F != 0) = true := by simpa using hv
    clear hF e hv
    go_enter Try.func28, Try.ntmps28
    go_wp2_with fail
    refine (l2Fault_c A c rs _ fp HA.out).mono ?_
    rw [HF.out]
    rintro e w1 ⟨rfl, m, rfl⟩
    obtain ⟨z0, z1, y0, y1, hzz⟩ := two_at HZ.out
    go_wp2_with fail
    refine bodyPost_ret (v := pairV (F, 0)) (by simp [results, Try.results28, go_sem, z0, z1]) rfl ⟨rfl, ?_⟩
    exact below_set (below_set (below_drewN' HB0.out m) _ _) _ _
  have e : dgP rs = (0, digL rs) := by unfold dgP; rw [if_pos hv]
  rw [e]
  generalize hV : digL rs = V at *
  have HV := Lib.hid hV; have HF := Lib.hid hv; have HOK := Lib.hid (rows_ok hv)
  clear hV e hv
  go_enter Try.func28, Try.ntmps28
  go_wp2_with fail
  refine (l2Fault_c A c rs _ fp HA.out).mono ?_
  rw [HF.out]
  rintro e w1 ⟨rfl, m, rfl⟩
  go_wp2_with fail
  refine (l8Digest_c A c rs V HV.out _ fp HOK.out (HA.out.drewN m)).mono ?_
  rintro e w2 ⟨rfl, hb2⟩
  have HB2 := Lib.hid ((below_drewN' HB0.out m).trans (hb2.mono (by simp)))
  have HZ2 := Lib.hid ((hb2.block _ (heap_lt (w := World.drewN _ m) HZ.out)).trans HZ.out)
  clear hb2
  obtain ⟨z0, z1, y0, y1, hzz⟩ := two_at HZ2.out
  go_wp2_with fail
  refine bodyPost_ret (v := pairV (0, V)) (by simp [results, Try.results28, go_sem, z0, z1]) rfl ⟨rfl, ?_⟩
  exact below_set (below_set HB2.out _ _) _ _
end Go.Proofs.Ytldimfmhbdhbnaa
