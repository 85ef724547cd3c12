/-
  The model's functions of chapter 8, first part: the sum of a row, adding digests, the digest of rows and of a range.
-/
import Derived.Test.YtldimfmhbdhbnaaGreatG43
import Derived.Test.YtldimfmhbdhbnaaGreatG39
import Derived.Test.YtldimfmhbdhbnaaGreatG15
import Derived.Test.YtldimfmhbdhbnaaGreatG11
import Derived.Test.YtldimfmhbdhbnaaGreatG28
import Derived.Test.YtldimfmhbdhbnaaGreatSpec7b
namespace Go.Proofs.YtldimfmhbdhbnaaGreat
open Go.RowKit

theorem byt_pk4 (l s h d : Int) : Byt (pk [l, s, h, d] 4) := by
  intro z hz
  simp only [pk, List.length_cons, List.length_nil, List.take_succ_cons, List.take_zero, List.flatMap_cons, List.flatMap_nil, List.append_nil, put2, List.mem_cons, List.mem_append, List.not_mem_nil, or_false] at hz
  omega
theorem allShort_four {l s h d : Int} (hv : rowF (l, s, h, d) = 0) : allShort [l, s, h, d] := by
  have h0 := rowF_zero hv
  simp only at h0
  have hs : ∀ z : Int, 0 ≤ z → z ≤ 9999 → shortB z = true := fun z h0 h1 => inB_true.2 ⟨by omega, by omega⟩
  intro k hk
  match k, hk with
  | 0, _ => exact hs l (by omega) (by omega)
  | 1, _ => exact hs s (by omega) (by omega)
  | 2, _ => exact hs h (by omega) (by omega)
  | 3, _ => exact hs d (by omega) (by omega)
/-- Four integers in a block of their own. -/
theorem four_ints (w : World) (l s h d : Int) (t : TypeId) : Rd (w.alloc (.cells #[.int .i64 l, .int .i64 s, .int .i64 h, .int .i64 d] t)) 1 (.slice (some ⟨w.heap.size, 0, none⟩) [l, s, h, d].length 4) (cellsOf .i64 [l, s, h, d]) [w.heap.size] :=
  ⟨_, 4, 4, rfl, rfl, by unfold maxLen; omega, Nat.le_refl _, .inr ⟨_, 0, rfl, rfl, heap_lt (heap_new w _ rfl), fun i u hu => by
    rw [Nat.zero_add, cell_of_heap (heap_new w _ rfl), List.getElem?_toArray]; exact hu⟩⟩
theorem packFour_c (l s h d : Int) (A : Option Addr) (w : World) (fp : List Nat) (P : List Int) (hP : pk [l, s, h, d] 4 = P) (hv : rowF (l, s, h, d) = 0) (ha : Rd w 1 (.slice A 4 4) (cellsOf .i64 [l, s, h, d]) fp) :
    Calls Tryz.prog 94 #[.slice A 4 4] w (SlicePost .u8 w P) := by
  subst hP
  exact l1Pack_c _ 4 [l, s, h, d] _ fp (by simp) (allShort_four hv) ha
theorem packFourI_c (l s h d : Int) (A : Option Addr) (w : World) (fp : List Nat) (P : List Int) (hP : pk [l, s, h, d] 4 = P) (hv : rowF (l, s, h, d) = 0) (ha : Rd w 1 (.slice A 4 4) (cellsOf .i64 [l, s, h, d]) fp) :
    Calls Tryz.prog 89 #[.slice A 4 4] w (BytesPost w 0 P) := by
  subst hP
  have h := implPackNumbers_c _ 4 [l, s, h, d] _ _ ha
  rw [packC_0 (by simp) (allShort_four hv), packL_0 (by simp) (allShort_four hv)] at h
  exact h

theorem RowAt.drewN {w : World} {b o : Nat} {r : R} (h : RowAt w b o r) (m : Nat) : RowAt (w.drewN m) b o r := h
set_option maxRecDepth 100000 in
set_option maxHeartbeats 2000000 in
theorem l8Row_c (b off : Nat) (r : R) (V : Int) (hV : rs8 r = V) (w : World) (hv : rowF r = 0) (h : RowAt w b off r) :
    Calls Tryz.prog 53 #[.pointer (some ⟨b, off, none⟩)] w fun e w' => e = .returned (.int .i64 V) ∧ Below w.heap.size w w' := by
  obtain ⟨l, s, q, d⟩ := r
  have HN := Lib.hid (l6Nothing_c b off (l, s, q, d) w h)
  obtain ⟨c0, c1, c2, c3⟩ := h
  simp only at c0 c1 c2 c3
  cases he : emptyB (l, s, q, d)
  case true =>
    have e0 : V = 0 := by rw [← hV]; unfold rs8; rw [he]; rfl
    have HE := Lib.hid he; have HV := Lib.hid e0
    clear he hV e0 hv c0 c1 c2 c3
    go_enter Tryz.func53, Tryz.ntmps53
    go_wp2_with fail
    refine HN.out.mono ?_
    rintro e w1 ⟨rfl, rfl⟩
    rw [HE.out]
    go_wp2_with fail
    go_ret
    exact ⟨congrArg (fun z => Ending.returned (Value.int .i64 z)) HV.out.symm, Below.refl _ _⟩
  have hV2 : sumL (pk [l, s, q, d] 4) = V := by rw [← hV]; unfold rs8; rw [he]; rfl
  have hby := byt_pk4 l s q d
  generalize hP : pk [l, s, q, d] 4 = P at *
  have HP := Lib.hid hP; have HV := Lib.hid hV2; have HBY := Lib.hid hby; have HVR := Lib.hid hv; have HE := Lib.hid he
  clear hP hV hV2 hby hv he
  go_enter Tryz.func53, Tryz.ntmps53
  go_wp2_with fail
  refine HN.out.mono ?_
  rintro e w1 ⟨rfl, rfl⟩
  rw [HE.out]
  have n0 := World.new_ne w _ c0
  have n1 := World.new_ne w _ c1
  have n2 := World.new_ne w _ c2
  have n3 := World.new_ne w _ c3
  have hbz := cell_lt c0
  go_wp2_with fail
  go_region_held3 (fun w' => w'.cell? ⟨b, off, none⟩ = some (.int .i64 l) ∧ w'.cell? ⟨b, off + 1, none⟩ = some (.int .i64 s) ∧ w'.cell? ⟨b, off + 2, none⟩ = some (.int .i64 q) ∧ w'.cell? ⟨b, off + 3, none⟩ = some (.int .i64 d))
    (first
      | go_keep
      | exact ⟨(hq1.cell (p := ⟨b, off, none⟩) hbz).trans c0, (hq1.cell (p := ⟨b, off + 1, none⟩) hbz).trans c1, (hq1.cell (p := ⟨b, off + 2, none⟩) hbz).trans c2, (hq1.cell (p := ⟨b, off + 3, none⟩) hbz).trans c3⟩)
    (first
      | (go_at_call 94
         refine (packFour_c l s q d _ _ _ P HP.out HVR.out (Rd.drew (four_ints w l s q d 2))).mono ?_
         rintro e u1 ⟨v1, f1, rfl, hr1, hn1, hf1, hbq⟩
         obtain ⟨A1, k1, hv1⟩ := hr1.form
         subst hv1
         have hq1 : Below w.heap.size w u1 := (below_new (.cells #[.int .i64 l, .int .i64 s, .int .i64 q, .int .i64 d] 2)).drew.trans (hbq.mono (by simp))
         clear hbq)
      | (go_at_call 93
         refine (l1Sum_q A1 k1 P V HV.out _ f1 HBY.out hr1).mono ?_
         rintro e u2 ⟨rfl, rfl⟩))
  go_wp2_with fail
  go_ret
  exact ⟨rfl, hq1⟩

set_option maxRecDepth 100000 in
set_option maxHeartbeats 2000000 in
theorem specRowSum_c (r : R) (w : World) :
    Calls Tryz.prog 18 #[rv r] w fun e w' => e = .returned (pairV (rsP r)) ∧ Below w.heap.size w w' := by
  have HB0 := Lib.hid (below_more (below_new (w := w) (.cells #[.int .i64 r.1, .int .i64 r.2.1, .int .i64 r.2.2.1, .int .i64 r.2.2.2] 40)) (.cells #[.int .i64 0, .int .i64 0] 28))
  have HK := Lib.hid (heap_old (o' := .cells #[.int .i64 0, .int .i64 0] 28) (heap_new w (.cells #[.int .i64 r.1, .int .i64 r.2.1, .int .i64 r.2.2.1, .int .i64 r.2.2.2] 40) rfl))
  have HZ := Lib.hid (heap_new (w.alloc (.cells #[.int .i64 r.1, .int .i64 r.2.1, .int .i64 r.2.2.1, .int .i64 r.2.2.2] 40)) (.cells #[.int .i64 0, .int .i64 0] 28) (g := w.heap.size + 1) (by simp))
  have hra : RowAt ((w.alloc (.cells #[.int .i64 r.1, .int .i64 r.2.1, .int .i64 r.2.2.1, .int .i64 r.2.2.2] 40)).alloc (.cells #[.int .i64 0, .int .i64 0] 28)) w.heap.size 0 r := by
    obtain ⟨k0, k1, k2, k3, _⟩ := four_at HK.out; exact ⟨k0, k1, k2, k3⟩
  have HRA := Lib.hid hra
  clear hra
  by_cases hv : rowF r = 0
  case neg =>
    have e : rsP r = (rowF r, 0) := by unfold rsP; rw [if_neg hv]
    rw [e]
    generalize hF : rowF r = F at *
    have HF := Lib.hid hF
    have t1 : (F != 0) = true := by simpa using hv
    clear hF e hv
    go_enter Tryz.func18, Tryz.ntmps18
    go_wp2_with fail
    refine (l2Row_c _ 0 r _ HRA.out).mono ?_
    rw [HF.out]
    rintro e w1 ⟨rfl, m, rfl⟩
    obtain ⟨z0, z1, y0, y1, hzz⟩ := two_at HZ.out
    go_wp2_with fail
    refine bodyPost_ret (v := pairV (F, 0)) (by simp [results, Tryz.results18, go_sem, z0, z1]) rfl ⟨rfl, ?_⟩
    exact (below_drewN' HB0.out m).trans ((But.two _ (w.heap.size + 1) 0 1 _ _).below (by have := HB0.out.size; simpa using this) (by intro x hx; simp at hx; omega))
  have e : rsP r = (0, rs8 r) := by unfold rsP; rw [if_pos hv]
  rw [e]
  generalize hV : rs8 r = V at *
  have HV := Lib.hid hV; have HF := Lib.hid hv
  clear hV e hv
  go_enter Tryz.func18, Tryz.ntmps18
  go_wp2_with fail
  refine (l2Row_c _ 0 r _ HRA.out).mono ?_
  rw [HF.out]
  rintro e w1 ⟨rfl, m, rfl⟩
  go_wp2_with fail
  refine (l8Row_c _ 0 r V HV.out _ HF.out (HRA.out.drewN m)).mono ?_
  rintro e w2 ⟨rfl, hb2⟩
  have HB2 := Lib.hid ((below_drewN' HB0.out m).trans (hb2.mono (by have := HB0.out.size; simpa using this)))
  have HZ2 := Lib.hid ((hb2.block _ (heap_lt (w := World.drewN _ m) HZ.out)).trans HZ.out)
  clear hb2
  obtain ⟨z0, z1, y0, y1, hzz⟩ := two_at HZ2.out
  go_wp2_with fail
  refine bodyPost_ret (v := pairV (0, V)) (by simp [results, Tryz.results18, go_sem, z0, z1]) rfl ⟨rfl, ?_⟩
  exact HB2.out.trans ((But.two _ (w.heap.size + 1) 0 1 _ _).below HB2.out.size (by intro x hx; simp at hx; omega))

set_option maxRecDepth 100000 in
set_option maxHeartbeats 2000000 in
theorem specAddDigest_c (a b : Int) (w : World) :
    Calls Tryz.prog 20 #[.int .i64 a, .int .i64 b] w fun e w' => e = .returned (pairV (adP a b)) ∧ Below w.heap.size w w' := by
  cases h1 : inB a 0 65520
  · have e : adP a b = (3, 0) := by simp [adP, h1]
    rw [e]
    have H1 := Lib.hid h1; clear h1 e
    go_enter Tryz.func20, Tryz.ntmps20
    go_wp2_with fail
    refine (l1In_c _ _ _ _).mono ?_
    rw [H1.out]
    rintro e w1 ⟨rfl, rfl⟩
    go_wp2_with fail
    exact bodyPost_ret (v := pairV (3, 0)) (by simp [results, Tryz.results20, go_sem]) rfl ⟨rfl, below_new _⟩
  cases h2 : inB b 0 65520
  · have e : adP a b = (3, 0) := by simp [adP, h1, h2]
    rw [e]
    have H1 := Lib.hid h1; have H2 := Lib.hid h2; clear h1 h2 e
    go_enter Tryz.func20, Tryz.ntmps20
    go_wp2_with fail
    refine (l1In_c _ _ _ _).mono ?_
    rw [H1.out]
    rintro e w1 ⟨rfl, rfl⟩
    go_wp2_with fail
    refine (l1In_c _ _ _ _).mono ?_
    rw [H2.out]
    rintro e w1 ⟨rfl, rfl⟩
    go_wp2_with fail
    exact bodyPost_ret (v := pairV (3, 0)) (by simp [results, Tryz.results20, go_sem]) rfl ⟨rfl, below_new _⟩
  have e : adP a b = (0, addS a b) := by simp [adP, h1, h2]
  rw [e]
  have ha := inB_true.1 h1; have hb := inB_true.1 h2
  have H1 := Lib.hid h1; have H2 := Lib.hid h2; clear h1 h2 e
  obtain ⟨a0, a1⟩ := ha
  obtain ⟨b0, b1⟩ := hb
  go_enter Tryz.func20, Tryz.ntmps20
  go_wp2_with fail
  refine (l1In_c _ _ _ _).mono ?_
  rw [H1.out]
  rintro e w1 ⟨rfl, rfl⟩
  go_wp2_with fail
  refine (l1In_c _ _ _ _).mono ?_
  rw [H2.out]
  rintro e w1 ⟨rfl, rfl⟩
  go_wp2_with fail
  exact bodyPost_ret (v := pairV (0, addS a b)) (by simp [results, Tryz.results20, go_sem]; rfl) rfl ⟨rfl, below_new _⟩

set_option maxRecDepth 100000 in
set_option maxHeartbeats 2000000 in
theorem l8Digest_c (A : Option Addr) (c : Nat) (rs : List R) (V : Int) (hV : digL rs = V) (w : World) (fp : List Nat) (hv : ∀ k (h : k < rs.length), rowF rs[k] = 0) (ha : Rd w 4 (.slice A rs.length c) (rcs rs) fp) :
    Calls Tryz.prog 42 #[.slice A rs.length c] w fun e w' => e = .returned (.int .i64 V) ∧ Below w.heap.size w w' := by
  have hmax := ha.len_le
  have HA := Lib.hid ha; have HVR := Lib.hid hv; have HV := Lib.hid hV
  clear ha hv hV
  go_enter Tryz.func42, Tryz.ntmps42
  go_wp2
  go_loopw [3, 4] (fun s i wr => ∃ k : Nat, k ≤ rs.length ∧ i = .int .i64 k ∧ (∃ n : Int, s = .int .i64 n ∧ Hid (digL (rs.take k) = n) ∧ 0 ≤ n ∧ n ≤ 65520) ∧ Hid (Below w.heap.size w wr)) (fun _ i _ => rs.length - (intOf i).toNat)
  case atStart => exact ⟨0, Nat.zero_le _, rfl, ⟨0, rfl, Lib.hid rfl, by omega, by omega⟩, Lib.hid (Below.refl _ _)⟩
  case round =>
    obtain ⟨k, hk, rfl, ⟨n, rfl, hn, n0, n1⟩, HB⟩ := hrel
    by_cases hlt : k < rs.length
    · obtain ⟨b, off, rfl, _, hbl, p0, p1, p2, p3⟩ := (HA.out.below' HB.out).row_at hlt
      have ht := digL_take rs k hlt
      rw [hn.out] at ht
      have hvk := HVR.out k hlt
      generalize rs[k] = r at *
      generalize hq : rs8 r = q at *
      have hqb := rs8_bd r
      rw [hq] at hqb
      obtain ⟨q0, q1⟩ := hqb
      have hadd := addS_bd n q
      have HT := Lib.hid ht; have HQ := Lib.hid hq; have HR := Lib.hid (show RowAt wr b (off + k * 4) r from ⟨p0, p1, p2, p3⟩); have HVK := Lib.hid hvk
      clear ht hq p0 p1 p2 p3 hvk hn
      go_wp2_with fail
      refine (l8Row_c b (off + k * 4) r q HQ.out _ HVK.out HR.out).mono ?_
      rintro e w2 ⟨rfl, hb2⟩
      have HB2 := Lib.hid (HB.out.trans (hb2.mono HB.out.size))
      clear hb2
      go_wp2_with fail
      exact ⟨⟨k + 1, by omega, by go_num, ⟨addS n q, rfl, HT, hadd.1, hadd.2⟩, HB2⟩, by simp [intOf]; omega⟩
    · obtain rfl : k = rs.length := by omega
      have h := hn.out
      rw [List.take_length, HV.out] at h
      have H := Lib.hid h; clear h
      go_wp2
      go_ret
      exact ⟨congrArg (fun z => Ending.returned (Value.int .i64 z)) H.out.symm, HB.out⟩
theorem rows_ok {rs : List R} (h : rowsF rs = 0) : ∀ k (h : k < rs.length), rowF rs[k] = 0 := fun _ hk => ((rowsF_rising h).1.above _ (List.getElem_mem hk)).1

end Go.Proofs.YtldimfmhbdhbnaaGreat

/-
  The model's functions of chapter 8, second part: the digest of a range, of places and parts, the least difference.
-/
namespace Go.Proofs.YtldimfmhbdhbnaaGreat
open Go.RowKit

set_option maxRecDepth 100000 in
set_option maxHeartbeats 2000000 in
theorem specRangeDigest_c (A : Option Addr) (c : Nat) (rs : List R) (f t : Int) (w : World) (fp : List Nat) (ha : Rd w 4 (.slice A rs.length c) (rcs rs) fp) :
    Calls Tryz.prog 21 #[.slice A rs.length c, .int .i64 f, .int .i64 t] w fun e w' => e = .returned (pairV (rdP rs f t)) ∧ Below w.heap.size w w' := by
  have HB0 := Lib.hid (below_new (w := w) (.cells #[.int .i64 0, .int .i64 0] 28))
  have HZ := Lib.hid (heap_new w (.cells #[.int .i64 0, .int .i64 0] 28) rfl)
  have HA := Lib.hid (ha.below' HB0.out)
  clear ha
  have hcut := specCutRows_c A c rs f t _ fp HA.out
  have hrd : rdP rs f t = if crC rs f t = 0 then (0, digL (crL rs f t)) else (crC rs f t, 0) := rfl
  have hok : crC rs f t = 0 → rowsF (crL rs f t) = 0 := fun h => by
    unfold crL
    rw [if_pos h]
    unfold crC at h
    split at h
    · rename_i h1; exact absurd h h1
    · rename_i h1; exact cut_right (by simpa using h1)
  generalize hC : crC rs f t = C at *
  generalize crL rs f t = L at *
  generalize rdP rs f t = Q at *
  have HC := Lib.hid hcut; have HRD := Lib.hid hrd; have HOK := Lib.hid hok
  clear hcut hrd hok hC
  go_enter Tryz.func21, Tryz.ntmps21
  go_wp2_with fail
  refine HC.out.mono ?_
  rintro e w1 ⟨_, rfl, ⟨v1, f1, rfl, hr1, _, _⟩, hb1⟩
  obtain ⟨A1, c1, hv1⟩ := hr1.rows_form
  subst hv1
  have HB1 := Lib.hid (HB0.out.trans (hb1.mono HB0.out.size))
  have HZ1 := Lib.hid (heap_old (o' := .cells #[.int .i64 C, .slice A1 L.length c1] 56) ((hb1.block _ (heap_lt HZ.out)).trans HZ.out))
  have HK1 := Lib.hid (heap_new w1 (.cells #[.int .i64 C, .slice A1 L.length c1] 56) rfl)
  have HR1 := Lib.hid (hr1.alloc (.cells #[.int .i64 C, .slice A1 L.length c1] 56))
  have HE1 := Lib.hid (below_more HB1.out (.cells #[.int .i64 C, .slice A1 L.length c1] 56))
  clear hb1 hr1
  obtain ⟨k0, k1, _, _, hzk⟩ := two_at HK1.out
  by_cases h0 : C = 0
  case neg =>
    have hq : Q = (C, 0) := by rw [HRD.out, if_neg h0]
    have HQ := Lib.hid hq
    have t1 : (C != 0) = true := by simpa using h0
    clear hq h0
    obtain ⟨z0, z1, y0, y1, hzz⟩ := two_at HZ1.out
    have hw1 := HB1.out.size
    go_wp2_with fail
    refine bodyPost_ret (v := pairV (C, 0)) (by simp [results, Tryz.results21, go_sem, z0, z1]) rfl ⟨by rw [HQ.out], ?_⟩
    exact below_set (below_set HE1.out _ _) _ _
  subst h0
  have hq : Q = (0, digL L) := by rw [HRD.out, if_pos rfl]
  have hok := rows_ok (HOK.out rfl)
  generalize hd : digL L = D at *
  have HQ := Lib.hid hq; have HL0 := Lib.hid hok; have HD := Lib.hid hd
  clear hq HOK HRD hok hd
  go_wp2_with fail
  refine (l8Digest_c A1 c1 L D HD.out _ f1 HL0.out HR1.out).mono ?_
  rintro e w2 ⟨rfl, hb2⟩
  have HE2 := Lib.hid (HE1.out.trans (hb2.mono HE1.out.size))
  obtain ⟨z0, z1, y0, y1, hzz⟩ := two_at ((hb2.block _ (heap_lt HZ1.out)).trans HZ1.out)
  clear hb2 k0 k1 hzk
  go_wp2_with fail
  refine bodyPost_ret (v := pairV (0, D)) (by simp [results, Tryz.results21, go_sem, z0, z1]) rfl ⟨by rw [HQ.out], ?_⟩
  exact below_set (below_set HE2.out _ _) _ _

/-- Whether both layouts have one digest. -/
def sdB (p : Pl) (l : List Pt) : Bool := decide (placesF p = 0) && decide (partsF l = 0) && decide (digL (riL p) = digL (roL l))
theorem riL_rows {p : Pl} (h : placesF p = 0) : ∀ x ∈ riL p, rowF x = 0 := by
  unfold riL
  rw [if_pos h]
  intro x hx
  obtain ⟨_, _, _, hf, _⟩ := placesF_zero h
  obtain ⟨l, hl, hx⟩ := List.mem_flatten.1 hx
  obtain ⟨k, hk, rfl⟩ := List.getElem_of_mem hl
  exact ((rowsF_rising (hf k hk).1).1.above x hx).1
theorem roL_rows {l : List Pt} (h : partsF l = 0) : ∀ x ∈ roL l, rowF x = 0 := by
  unfold roL
  rw [if_pos h]
  exact fun x hx => ((rowsF_rising (roL_facts h).2.2.2).1.above x hx).1

set_option maxRecDepth 100000 in
set_option maxHeartbeats 4000000 in
theorem specSameDigest_c (p : Pl) (vf : Value) (A : Option Addr) (c : Nat) (l : List Pt) (w : World) (fp fq : List Nat) (hs : plsz p ≤ 1048576) (hsl : psz l ≤ 1048576) (h : PlAt w p vf fp) (ha : RdP w (.slice A l.length c) l fq) :
    Calls Tryz.prog 13 #[plv p.mark vf, .slice A l.length c] w fun e w' => e = .returned (.bool (sdB p l)) ∧ Below w.heap.size w w' := by
  obtain ⟨B, d, rfl⟩ := h.form
  have HB0 := Lib.hid (below_new (w := w) (.cells #[.slice B p.fs.length d, .int .i64 p.mark] 32))
  have HF := Lib.hid (h.f.alloc (.cells #[.slice B p.fs.length d, .int .i64 p.mark] 32))
  have hpb : PlBox (w.alloc (.cells #[.slice B p.fs.length d, .int .i64 p.mark] 32)) w.heap.size (.slice B p.fs.length d) p.mark := ⟨by simp, by simp, by simp⟩
  have HPB := Lib.hid hpb
  have hsf : fsz p.fs ≤ 1048576 := hs
  have hcall := l6Fault_c w.heap.size p.mark B d p.fs _ fp (by omega) hpb HF.out
  have e : placesF ⟨p.fs, p.mark⟩ = placesF p := rfl
  rw [e] at hcall
  have HCL := Lib.hid hcall
  have HA := Lib.hid ha
  clear e h ha hpb hcall
  by_cases h0 : placesF p = 0
  case neg =>
    have hq : sdB p l = false := by unfold sdB; simp [h0]
    rw [hq]
    generalize placesF p = F at *
    have t1 : (F == 0) = false := by simpa using h0
    clear h0 hq
    go_enter Tryz.func13, Tryz.ntmps13
    go_wp2_with fail
    refine HCL.out.mono ?_
    rintro e w1 ⟨rfl, hq⟩
    have HB1 := Lib.hid (HB0.out.trans (hq.below.mono HB0.out.size))
    clear hq
    go_wp2_with fail
    go_ret
    exact ⟨rfl, HB1.out⟩
  have hcall := HCL.out
  rw [h0] at hcall
  replace HCL := Lib.hid hcall
  clear hcall
  by_cases h1 : partsF l = 0
  case neg =>
    have hq : sdB p l = false := by unfold sdB; simp [h1]
    rw [hq]
    obtain ⟨F, hF⟩ : ∃ F, partsF l = F := ⟨_, rfl⟩
    rw [hF] at h1
    have HFF := Lib.hid hF
    have t1 : (F == 0) = false := by simpa using h1
    clear h0 h1 hq hF
    go_enter Tryz.func13, Tryz.ntmps13
    go_wp2_with fail
    refine HCL.out.mono ?_
    rintro e w1 ⟨rfl, hq⟩
    have HB1 := Lib.hid (HB0.out.trans (hq.below.mono HB0.out.size))
    clear hq
    go_wp2_with fail
    refine (l7Fault_c A c l _ fq (by omega) (HA.out.below' HB1.out)).mono ?_
    rw [HFF.out]
    rintro e w2 ⟨rfl, hb2⟩
    have HB2 := Lib.hid (HB1.out.trans (hb2.mono HB1.out.size))
    clear hb2
    go_wp2_with fail
    go_ret
    exact ⟨rfl, HB2.out⟩
  have hL : riL p = p.fs.flatten := by unfold riL; rw [if_pos h0]
  have hR : roL l = mergeAll (allR l) := by unfold roL; rw [if_pos h1]
  have hq : sdB p l = decide (digL p.fs.flatten = digL (mergeAll (allR l))) := by unfold sdB; rw [hL, hR]; simp [h0, h1]
  rw [hq]
  have hLr := riL_rows h0; have hRr := roL_rows h1
  rw [hL] at hLr; rw [hR] at hRr
  obtain ⟨hl4, _, _, _, htot⟩ := placesF_zero h0
  have hsz2 : fsz p.fs ≤ 1000000 := by unfold fsz; omega
  have HR1 := fun W f (h : RdP W (.slice A l.length c) l f) => l7Rows_c A c l W f h1 h
  have HL7 := Lib.hid HR1; have H1 := Lib.hid h1; have HS2 := Lib.hid hsz2
  generalize hFL : p.fs.flatten = L at *
  generalize mergeAll (allR l) = M at *
  generalize hx : digL L = X at *
  generalize hy : digL M = Y at *
  have HX := Lib.hid hx; have HY := Lib.hid hy; have HFL := Lib.hid hFL
  have HLR := Lib.hid (fun k (hk : k < L.length) => hLr _ (List.getElem_mem hk)); have HMR := Lib.hid (fun k (hk : k < M.length) => hRr _ (List.getElem_mem hk))
  clear HR1 hx hy hFL hLr hRr hq hL hR h0 h1 hsz2 hl4 htot hsf
  go_enter Tryz.func13, Tryz.ntmps13
  go_wp2_with fail
  refine HCL.out.mono ?_
  rintro e w1 ⟨rfl, hq⟩
  have HB1 := Lib.hid (HB0.out.trans (hq.below.mono HB0.out.size))
  have HF1 := Lib.hid (HF.out.qt hq)
  have HP1 := Lib.hid (HPB.out.below hq.below (by simp))
  clear hq
  go_wp2_with fail
  refine (l7Fault_c A c l _ fq (by omega) (HA.out.below' HB1.out)).mono ?_
  rw [H1.out]
  rintro e w2 ⟨rfl, hb2⟩
  have HB2 := Lib.hid (HB1.out.trans (hb2.mono HB1.out.size))
  have HF2 := Lib.hid (HF1.out.below' hb2)
  have HP2 := Lib.hid (HP1.out.below hb2 HP1.out.lt)
  clear hb2
  go_wp2_with fail
  refine (l6Rows_c w.heap.size p.mark B d p.fs _ fp HS2.out HP2.out HF2.out).mono ?_
  rw [HFL.out]
  rintro e w3 ⟨v3, f3, rfl, hr3, _, _, hb3, _⟩
  obtain ⟨A3, c3, hv3⟩ := hr3.rows_form
  subst hv3
  have HB3 := Lib.hid (HB2.out.trans (hb3.mono HB2.out.size))
  have HR3 := Lib.hid hr3
  clear hr3 hb3
  go_wp2_with fail
  refine (l8Digest_c A3 c3 L X HX.out _ f3 HLR.out HR3.out).mono ?_
  rintro e w4 ⟨rfl, hb4⟩
  have HB4 := Lib.hid (HB3.out.trans (hb4.mono HB3.out.size))
  clear hb4
  go_wp2_with fail
  refine (HL7.out w4 fq (HA.out.below' HB4.out)).mono ?_
  rintro e w5 ⟨v5, f5, rfl, hr5, _, _, hb5⟩
  obtain ⟨A5, c5, hv5⟩ := hr5.rows_form
  subst hv5
  have HB5 := Lib.hid (HB4.out.trans (hb5.mono HB4.out.size))
  have HR5 := Lib.hid hr5
  clear hr5 hb5
  go_wp2_with fail
  refine (l8Digest_c A5 c5 M Y HY.out _ f5 HMR.out HR5.out).mono ?_
  rintro e w6 ⟨rfl, hb6⟩
  have HB6 := Lib.hid (HB5.out.trans (hb6.mono HB5.out.size))
  clear hb6
  by_cases hxy : X = Y
  · subst hxy
    go_wp2
    go_ret
    exact ⟨by simp, HB6.out⟩
  · have t1 : (X == Y) = false := by simpa using hxy
    have t2 : decide (X = Y) = false := by simpa using hxy
    have HT2 := Lib.hid t2
    clear hxy t2
    go_wp2
    go_ret
    exact ⟨congrArg (fun z => Ending.returned (Value.bool z)) HT2.out.symm, HB6.out⟩

def noDif (a b : List R) (n : Nat) : Prop := ∀ j, j < n → difK a b j = false
theorem dfP_hit {a b : List R} (ha : rowsF a = 0) (hb : rowsF b = 0) {j : Nat} (hj : j < 80) (hn : noDif a b j) (hd : difK a b j = true) : dfP a b = (0, keyK j) := by
  unfold dfP
  rw [if_pos ha, if_pos hb]
  have e : (List.range 80).find? (difK a b) = some j := by
    rw [List.find?_eq_some_iff_append]
    refine ⟨hd, List.range j, List.range' (j + 1) (79 - j), ?_, fun x hx => by rw [hn x (List.mem_range.1 hx)]; rfl⟩
    rw [List.range_eq_range', List.range_eq_range', ← List.range'_succ, show 80 = j + (79 - j + 1) by omega, ← List.range'_append_1]
    simp
  rw [e]
theorem dfP_end {a b : List R} (ha : rowsF a = 0) (hb : rowsF b = 0) (hn : noDif a b 80) : dfP a b = (4, 0) := by
  unfold dfP
  rw [if_pos ha, if_pos hb]
  have e : (List.range 80).find? (difK a b) = none := by
    rw [List.find?_eq_none]
    intro x hx
    rw [hn x (List.mem_range.1 hx)]; simp
  rw [e]
theorem difK_at (a b : List R) (k s : Nat) (h0 : 1 ≤ s) (h1 : s ≤ 20) : difK a b (20 * k + (s - 1)) = decide (getV a (k : Int) (s : Int) ≠ getV b (k : Int) (s : Int)) := by
  unfold difK dAt
  rw [show (20 * k + (s - 1)) / 20 = k by omega, show (20 * k + (s - 1)) % 20 + 1 = s by omega]
theorem keyK_at (k s : Nat) (h0 : 1 ≤ s) (h1 : s ≤ 20) : keyK (20 * k + (s - 1)) = 21 * (k : Int) + (s : Int) := by
  unfold keyK
  rw [show (20 * k + (s - 1)) / 20 = k by omega, show (20 * k + (s - 1)) % 20 + 1 = s by omega]
theorem noDif_more {a b : List R} {n : Nat} (h : noDif a b n) (hd : difK a b n = false) : noDif a b (n + 1) := fun j hj => by
  by_cases e : j = n
  · subst e; exact hd
  · exact h j (by omega)
theorem getV_at (rs : List R) (l s : Int) : (getV rs l s).1 = l ∧ (getV rs l s).2.1 = s := by
  rcases getV_cases rs l s with ⟨_, h1, h2⟩ | h
  · exact ⟨h1, h2⟩
  · rw [h]; exact ⟨rfl, rfl⟩

theorem l2Fault_b (A : Option Addr) (c : Nat) (rs : List R) (w : World) (fp : List Nat) (ha : Rd w 4 (.slice A rs.length c) (rcs rs) fp) :
    Calls Tryz.prog 44 #[.slice A rs.length c] w fun e w' => e = .returned (.int .i64 (rowsF rs)) ∧ Below w.heap.size w w' :=
  (l2Fault_c A c rs w fp ha).mono fun _ _ ⟨he, m, hw⟩ => ⟨he, hw ▸ below_drewN' (Below.refl _ _) m⟩

set_option maxRecDepth 100000 in
set_option maxHeartbeats 8000000 in
theorem specDifferAt_c (A B : Option Addr) (c d : Nat) (a b : List R) (w : World) (fp fq : List Nat) (ha : Rd w 4 (.slice A a.length c) (rcs a) fp) (hb : Rd w 4 (.slice B b.length d) (rcs b) fq) :
    Calls Tryz.prog 14 #[.slice A a.length c, .slice B b.length d] w fun e w' => e = .returned (pairV (dfP a b)) ∧ Below w.heap.size w w' := by
  have HB0 := Lib.hid (below_new (w := w) (.cells #[.int .i64 0, .int .i64 0] 28))
  have HZ := Lib.hid (heap_new w (.cells #[.int .i64 0, .int .i64 0] 28) rfl)
  have HA := Lib.hid ha; have HBB := Lib.hid hb
  have HA0 := Lib.hid (ha.below' HB0.out); have HBB0 := Lib.hid (hb.below' HB0.out)
  clear ha hb
  by_cases hva : rowsF a = 0
  case neg =>
    have e : dfP a b = (rowsF a, 0) := by unfold dfP; rw [if_neg hva]
    rw [e]
    generalize hF : rowsF a = F at *
    have HF := Lib.hid hF
    have t1 : (F != 0) = true := by simpa using hva
    clear hF e hva
    go_enter Tryz.func14, Tryz.ntmps14
    go_wp2_with fail
    refine (l2Fault_b A c a _ fp HA0.out).mono ?_
    rw [HF.out]
    rintro e w1 ⟨rfl, hb1⟩
    have HB1 := Lib.hid (HB0.out.trans (hb1.mono HB0.out.size))
    obtain ⟨z0, z1, y0, y1, hzz⟩ := two_at ((hb1.block _ (heap_lt HZ.out)).trans HZ.out)
    clear hb1
    go_wp2_with fail
    refine bodyPost_ret (v := pairV (F, 0)) (by simp [results, Tryz.results14, go_sem, z0, z1]) rfl ⟨rfl, ?_⟩
    exact below_set (below_set HB1.out _ _) _ _
  by_cases hvb : rowsF b = 0
  case neg =>
    have e : dfP a b = (rowsF b, 0) := by unfold dfP; rw [if_pos hva, if_neg hvb]
    rw [e]
    generalize hF : rowsF b = F at *
    have HF := Lib.hid hF; have HF0 := Lib.hid hva
    have t1 : (F != 0) = true := by simpa using hvb
    clear hF e hva hvb
    go_enter Tryz.func14, Tryz.ntmps14
    go_wp2_with fail
    refine (l2Fault_b A c a _ fp HA0.out).mono ?_
    rw [HF0.out]
    rintro e w1 ⟨rfl, hb1⟩
    have HB1 := Lib.hid (HB0.out.trans (hb1.mono HB0.out.size))
    have HZ1 := Lib.hid ((hb1.block _ (heap_lt HZ.out)).trans HZ.out)
    clear hb1
    go_wp2_with fail
    refine (l2Fault_b B d b _ fq (HBB.out.below' HB1.out)).mono ?_
    rw [HF.out]
    rintro e w2 ⟨rfl, hb2⟩
    have HB2 := Lib.hid (HB1.out.trans (hb2.mono HB1.out.size))
    obtain ⟨z0, z1, y0, y1, hzz⟩ := two_at ((hb2.block _ (heap_lt HZ1.out)).trans HZ1.out)
    clear hb2
    go_wp2_with fail
    refine bodyPost_ret (v := pairV (F, 0)) (by simp [results, Tryz.results14, go_sem, z0, z1]) rfl ⟨rfl, ?_⟩
    exact below_set (below_set HB2.out _ _) _ _
  have HF0 := Lib.hid hva; have HF1 := Lib.hid hvb
  generalize hQ : dfP a b = Q
  have HQ := Lib.hid hQ
  have q1 := rowNeq; have q2 := rowGuard
  clear hva hvb hQ
  go_enter Tryz.func14, Tryz.ntmps14
  go_wp2_with fail
  refine (l2Fault_b A c a _ fp HA0.out).mono ?_
  rw [HF0.out]
  rintro e w1 ⟨rfl, hb1⟩
  have HB1 := Lib.hid (HB0.out.trans (hb1.mono HB0.out.size))
  have HZ1 := Lib.hid ((hb1.block _ (heap_lt HZ.out)).trans HZ.out)
  clear hb1
  go_wp2_with fail
  refine (l2Fault_b B d b _ fq (HBB.out.below' HB1.out)).mono ?_
  rw [HF1.out]
  rintro e W ⟨rfl, hb2⟩
  have HB2 := Lib.hid (HB1.out.trans (hb2.mono HB1.out.size))
  have HZ2 := Lib.hid ((hb2.block _ (heap_lt HZ1.out)).trans HZ1.out)
  clear hb2
  go_wp2_with fail
  have hsz := heap_lt HZ2.out
  have HN0 := Lib.hid (show noDif a b (20 * 0) from fun j hj => absurd hj (by omega))
  go_loopw [7] (fun i wr => ∃ k : Nat, k ≤ 4 ∧ i = .int .i64 k ∧ Hid (Below (w.heap.size + 1) W wr) ∧ Hid (noDif a b (20 * k))) (fun i _ => 4 - (intOf i).toNat)
  case atStart => exact ⟨0, by omega, rfl, Lib.hid (Below.refl _ _), HN0⟩
  case round =>
    clear HN0
    obtain ⟨k, hk, rfl, HBW, HN⟩ := hrel
    by_cases hlt : k < 4
    · have HN1 := Lib.hid (show noDif a b (20 * k + (1 - 1)) from HN.out)
      have hk3 : decide ((k : Int) ≤ 3) = true := by simp; omega
      go_wp2_with fail
      go_loopw [8] (fun i wr => ∃ s : Nat, 1 ≤ s ∧ s ≤ 21 ∧ i = .int .i64 s ∧ Hid (Below (w.heap.size + 1) W wr) ∧ Hid (noDif a b (20 * k + (s - 1)))) (fun i _ => 21 - (intOf i).toNat)
      case atStart => exact ⟨1, by omega, by omega, rfl, HBW, HN1⟩
      case round =>
        clear HN1 HBW HN
        obtain ⟨s, hs1, hs, rfl, HBW, HN⟩ := hrel
        have HBT := Lib.hid (HB2.out.trans (HBW.out.mono (by omega)))
        by_cases hls : s ≤ 20
        · have hdk := difK_at a b k s hs1 hls
          have hkk := keyK_at k s hs1 hls
          obtain ⟨x1, x2⟩ := getV_at a k s
          obtain ⟨y1, y2⟩ := getV_at b k s
          have HGA := Lib.hid (fun W f (h : Rd W 4 (.slice A a.length c) (rcs a) f) => l2Get_c A c a (k : Int) (s : Int) W f h)
          have HGB := Lib.hid (fun W f (h : Rd W 4 (.slice B b.length d) (rcs b) f) => l2Get_c B d b (k : Int) (s : Int) W f h)
          generalize getV a k s = x at *
          generalize getV b k s = y at *
          generalize (getR a k s).isSome = xb at *
          generalize (getR b k s).isSome = yb at *
          have HDK := Lib.hid hdk; have HKK := Lib.hid hkk; have HX1 := Lib.hid x1; have HX2 := Lib.hid x2
          clear hdk hkk x1 x2 y1 y2
          go_wp2_with fail
          refine (HGA.out _ fp (HA.out.below' HBT.out)).mono ?_
          rintro e w3 ⟨rfl, hb3⟩
          have HX3 := Lib.hid (heap_new w3 (.cells #[.int .i64 x.1, .int .i64 x.2.1, .int .i64 x.2.2.1, .int .i64 x.2.2.2] 40) rfl)
          have hz3 := HBW.out.size
          have HW3 := Lib.hid (HBW.out.trans ((below_more hb3 (.cells #[.int .i64 x.1, .int .i64 x.2.1, .int .i64 x.2.2.1, .int .i64 x.2.2.2] 40)).mono (by omega)))
          have HT3 := Lib.hid (HB2.out.trans (HW3.out.mono (by omega)))
          have hw3 := hb3.size
          clear hb3
          go_wp2_with fail
          generalize w3.alloc (.cells #[.int .i64 x.1, .int .i64 x.2.1, .int .i64 x.2.2.1, .int .i64 x.2.2.2] 40) = W3 at *
          generalize w3.heap.size = gx at *
          refine (HGB.out _ fq (HBB.out.below' HT3.out)).mono ?_
          rintro e w4 ⟨rfl, hb4⟩
          have HY4 := Lib.hid (heap_new w4 (.cells #[.int .i64 y.1, .int .i64 y.2.1, .int .i64 y.2.2.1, .int .i64 y.2.2.2] 40) rfl)
          have HX4 := Lib.hid (heap_old (o' := .cells #[.int .i64 y.1, .int .i64 y.2.1, .int .i64 y.2.2.1, .int .i64 y.2.2.2] 40) ((hb4.block _ (heap_lt HX3.out)).trans HX3.out))
          have hz4 := HW3.out.size
          have HW4 := Lib.hid (HW3.out.trans ((below_more hb4 (.cells #[.int .i64 y.1, .int .i64 y.2.1, .int .i64 y.2.2.1, .int .i64 y.2.2.2] 40)).mono (by omega)))
          have HT4 := Lib.hid (HB2.out.trans (HW4.out.mono (by omega)))
          have HZ4 := Lib.hid ((HW4.out.block _ (by omega)).trans HZ2.out)
          clear hb4 HX3
          obtain ⟨p0, p1, p2, p3, _, _, _, _, hzx⟩ := four_at HX4.out
          obtain ⟨r0, r1, r2, r3, _, _, _, _, hzy⟩ := four_at HY4.out
          by_cases he : x = y
          · subst he
            have hd0 : difK a b (20 * k + (s - 1)) = false := by rw [HDK.out]; simp
            have HN2 := Lib.hid (show noDif a b (20 * k + (s + 1 - 1)) from by have := noDif_more HN.out hd0; rw [show 20 * k + (s - 1) + 1 = 20 * k + (s + 1 - 1) by omega] at this; exact this)
            clear hd0
            go_wp2_with fail
            exact ⟨⟨s + 1, by omega, by omega, by go_num, HW4, HN2⟩, by simp [intOf]; omega⟩
          · have hd0 : difK a b (20 * k + (s - 1)) = true := by rw [HDK.out]; simpa using he
            have hq : Q = (0, keyR x) := by
              rw [← HQ.out, dfP_hit HF0.out HF1.out (by omega) HN.out hd0, HKK.out]
              unfold keyR; rw [HX1.out, HX2.out]
            have HQ2 := Lib.hid hq
            have te : decide (x = y) = false := decide_eq_false he
            have hrx : RowAt (w4.alloc (.cells #[.int .i64 y.1, .int .i64 y.2.1, .int .i64 y.2.2.1, .int .i64 y.2.2.2] 40)) gx 0 x := ⟨p0, p1, p2, p3⟩
            have HRX := Lib.hid hrx
            clear hd0 hq he hrx
            go_wp2_with fail
            clear p0 p1 p2 p3 r0 r1 r2 r3
            refine (l2Key_c gx 0 x _ HRX.out (by rw [HX1.out]; omega) (by rw [HX1.out]; omega) (by rw [HX2.out]; omega) (by rw [HX2.out]; omega)).mono ?_
            rintro e w5 ⟨rfl, m, rfl⟩
            obtain ⟨z0, z1, y0, y1, hzz⟩ := two_at HZ4.out
            go_wp2_with fail
            refine bodyPost_ret (v := pairV (0, keyR x)) (by simp [results, Tryz.results14, go_sem, z0, z1]) rfl ⟨by rw [HQ2.out], ?_⟩
            exact below_set (below_set (below_drewN' HT4.out m) _ _) _ _
        · obtain rfl : s = 21 := by omega
          have HN2 := Lib.hid (show noDif a b (20 * (k + 1)) from HN.out)
          go_wp2
          exact ⟨⟨k + 1, by omega, by go_num, HBW, HN2⟩, by simp [intOf]; omega⟩
    · obtain rfl : k = 4 := by omega
      have hq : Q = (4, 0) := by rw [← HQ.out]; exact dfP_end HF0.out HF1.out HN.out
      have HQ2 := Lib.hid hq
      have HZ3 := Lib.hid ((HBW.out.block _ (by omega)).trans HZ2.out)
      have HBT := Lib.hid (HB2.out.trans (HBW.out.mono (by omega)))
      obtain ⟨z0, z1, y0, y1, hzz⟩ := two_at HZ3.out
      clear hq
      go_wp2_with fail
      refine bodyPost_ret (v := pairV (4, 0)) (by simp [results, Tryz.results14, go_sem, z0, z1]) rfl ⟨by rw [HQ2.out], ?_⟩
      exact below_set (below_set HBT.out _ _) _ _
end Go.Proofs.YtldimfmhbdhbnaaGreat
