/-
  Contracts of the program's functions of chapter 4, third part: what is free, held, in total.
-/
import Derived.Test.YtfohlopbfanaeaaImpl4b
namespace Go.Proofs.Ytfohlopbfanaeaa
open Go.RowKit

/-- The row of a question: four zeros if there is none. -/
def rowV (b : Bk) (l s : Int) : R := if askedF b l s = 0 then (getR b.rs l s).getD (0, 0, 0, 0) else (0, 0, 0, 0)
theorem rowV_qty (b : Bk) (l s : Int) : (rowV b l s).2.2.1 = (if askedF b l s = 0 then (getV b.rs l s).2.2.1 else 0) ∧ (rowV b l s).2.2.2 = (if askedF b l s = 0 then (getV b.rs l s).2.2.2 else 0) := by
  unfold rowV getV
  split
  · cases getR b.rs l s <;> simp
  · simp
theorem rowV_bd (b : Bk) (l s : Int) : 0 ≤ (rowV b l s).2.2.1 ∧ (rowV b l s).2.2.1 ≤ 9999 ∧ 0 ≤ (rowV b l s).2.2.2 ∧ (rowV b l s).2.2.2 ≤ 9999 := by
  obtain ⟨h1, h2⟩ := rowV_qty b l s
  rw [h1, h2]
  by_cases h : askedF b l s = 0
  · have := getV_bd (bookF_zero (askedF_zero h).1).2.2.1 l s
    rw [if_pos h, if_pos h]; exact this
  · rw [if_neg h, if_neg h]; omega
theorem freeP_row (b : Bk) (l s : Int) : freeP b l s = (askedF b l s, (rowV b l s).2.2.1 - (rowV b l s).2.2.2) := by
  obtain ⟨h1, h2⟩ := rowV_qty b l s
  unfold freeP
  rw [h1, h2]
  split <;> simp
theorem heldP_row (b : Bk) (l s : Int) : heldP b l s = (askedF b l s, (rowV b l s).2.2.2) := by
  obtain ⟨h1, h2⟩ := rowV_qty b l s
  unfold heldP
  rw [h2]

set_option maxRecDepth 100000 in
set_option maxHeartbeats 2000000 in
theorem rowOf_c (b : Bk) (vr vh : Value) (fa fb : List Nat) (l s : Int) (w : World) (hs : bsz b ≤ 1048576) (wn : (Lit.int .i64 b.now).wf = true) (hwr : ∀ r ∈ b.rs, WfR r) (hwh : ∀ h ∈ b.hs, WfH h) (wl : (Lit.int .i64 l).wf = true) (ws : (Lit.int .i64 s).wf = true) (hk : BkAt w b vr vh fa fb) :
    Calls Try.prog 64 #[bv b.now vr vh, .int .i64 l, .int .i64 s] w fun e w' => e = .returned (rrv (askedF b l s) (rowV b l s)) ∧ Below w.heap.size w w' := by
  generalize hC : askedF b l s = C
  generalize hV : rowV b l s = V
  have HC := Lib.hid hC; have HV := Lib.hid hV
  have hs1 : b.rs.length ≤ 1048576 := by unfold bsz at hs; omega
  have HWR := Lib.hid hwr; have HWH := Lib.hid hwh; have HK := Lib.hid hk
  obtain ⟨A, c, B, d, eA, eB⟩ := hk.form
  have HEA := Lib.hid eA
  clear hC hV hwr hwh hk eA eB
  go_enter Try.func64, Try.ntmps64
  go_wp2_with fail
  generalize hW : ((w.alloc (.cells #[.int .i64 b.now, vr, vh] 31)).alloc (.cells #[.int .i64 0, .int .i64 0, .int .i64 0, .int .i64 0, .int .i64 0] 94)) = W
  have HBW : Hid (Below w.heap.size w W) := by rw [← hW]; exact below_more (below_new _) _
  have GB : Hid (W.heap[w.heap.size]? = some (.cells #[.int .i64 b.now, vr, vh] 31 (0, 0))) := by rw [← hW]; exact heap_old (heap_new w _ rfl)
  have GR : Hid (W.heap[w.heap.size + 1]? = some (.cells #[.int .i64 0, .int .i64 0, .int .i64 0, .int .i64 0, .int .i64 0] 94 (0, 0))) := by rw [← hW]; exact heap_new _ _ (by simp)
  clear hW
  refine (implBookFault_a b vr vh fa fb _ hs wn HWR.out HWH.out (HK.out.below' HBW.out)).mono ?_
  rintro e w1 ⟨rfl, hb1⟩
  have GB1 := Lib.hid ((hb1.block _ (heap_lt GB.out)).trans GB.out)
  have GR1 := Lib.hid ((hb1.block _ (heap_lt GR.out)).trans GR.out)
  have HB1 := Lib.hid (HBW.out.trans (hb1.mono HBW.out.size))
  clear hb1
  by_cases h0 : bookF b = 0
  case neg =>
    have hC : bookF b = C := by rw [← HC.out]; unfold askedF; rw [if_neg h0]
    have hV : V = (0, 0, 0, 0) := by rw [← HV.out]; unfold rowV; rw [HC.out, if_neg (by rw [← hC]; exact h0)]
    rw [hC] at h0
    rw [hC]
    subst hV
    have t1 : (C != 0) = true := by simpa using h0
    obtain ⟨c0, c1, c2, c3, c4, f0, f1, f2, f3, f4, hz⟩ := five_at GR1.out
    clear hC h0 HC HV
    go_wp2_with fail
    refine bodyPost_ret (v := rrv C (0, 0, 0, 0)) (by simp [results, Try.results64, go_sem, c0, c1, c2, c3, c4]) rfl ⟨rfl, ?_⟩
    exact HB1.out.trans ((But.five w1 (w.heap.size + 1) _ _ _ _ _).below HB1.out.size (by intro x hx; simp at hx; omega))
  rw [h0]
  have hrf := (bookF_zero h0).2.2.1
  obtain ⟨c0, c1, c2, _, _, _, hz⟩ := three_at GB1.out
  have hasked : askedF b l s = if isB l s then 0 else 3 := by unfold askedF; rw [if_pos h0]
  have hfc : findC b.rs l s = if isB l s then (if (getR b.rs l s).isSome then 0 else 4) else 3 := by unfold findC; rw [if_neg (by simpa using hrf)]
  have hfv : findV b.rs l s = if findC b.rs l s = 0 then getV b.rs l s else (0, 0, 0, 0) := rfl
  have hrv : rowV b l s = if askedF b l s = 0 then (getR b.rs l s).getD (0, 0, 0, 0) else (0, 0, 0, 0) := rfl
  have hK1 := HK.out.below' HB1.out
  have hR1 := hK1.r
  rw [HEA.out] at hR1
  have HR1 := Lib.hid hR1
  have HX : Hid ((C = 0 ∧ findC b.rs l s = 0 ∧ findV b.rs l s = V) ∨ (C = 0 ∧ findC b.rs l s = 4 ∧ V = (0, 0, 0, 0)) ∨ (C = 3 ∧ findC b.rs l s = 3 ∧ V = (0, 0, 0, 0) ∧ findV b.rs l s = (0, 0, 0, 0))) := by
    rw [← HC.out, ← HV.out]
    cases hi : isB l s
    · rw [hi] at hasked hfc
      simp at hasked hfc
      right; right
      exact ⟨hasked, hfc, by rw [hrv, hasked]; rfl, by rw [hfv, hfc]; rfl⟩
    · rw [hi] at hasked hfc
      simp at hasked hfc
      cases hg : getR b.rs l s with
      | none =>
        rw [hg] at hfc hrv
        right; left
        exact ⟨hasked, by rw [hfc]; rfl, by rw [hrv, hasked]; rfl⟩
      | some r =>
        rw [hg] at hfc hrv
        left
        have hz : findC b.rs l s = 0 := by rw [hfc]; rfl
        refine ⟨hasked, hz, ?_⟩
        rw [hfv, hz, hrv, hasked]
        unfold getV
        rw [hg]
        rfl
  clear h0 hrf hasked hfc hfv hrv hK1 hR1 HC HV
  go_wp2_with fail
  rw [HEA.out]
  refine (implFindRow_a A c b.rs l s _ fa hs1 HWR.out wl ws HR1.out).mono ?_
  rintro e w2 ⟨rfl, hb2⟩
  have GR2 := Lib.hid ((hb2.block _ (heap_lt GR1.out)).trans GR1.out)
  have HB2 := Lib.hid (HB1.out.trans (hb2.mono HB1.out.size))
  clear hb2 c0 c1 c2 hz
  generalize findC b.rs l s = C' at *
  generalize findV b.rs l s = V' at *
  obtain ⟨c0, c1, c2, c3, c4, f0, f1, f2, f3, f4, hz⟩ := five_at GR2.out
  rcases HX.out with ⟨e1, e2, e3⟩ | ⟨e1, e2, e3⟩ | ⟨e1, e2, e3, e4⟩
  · subst e1 e2 e3
    clear HX
    go_wp2_with fail
    refine bodyPost_ret (v := rrv 0 V') (by simp [results, Try.results64, go_sem, c0, c1, c2, c3, c4, hz]) rfl ⟨rfl, ?_⟩
    exact below_more (HB2.out.trans ((But.five w2 (w.heap.size + 1) _ _ _ _ _).below HB2.out.size (by intro x hx; simp at hx; omega))) _
  · subst e1 e2 e3
    clear HX
    go_wp2_with fail
    refine bodyPost_ret (v := rrv 0 (0, 0, 0, 0)) (by simp [results, Try.results64, go_sem, c0, c1, c2, c3, c4, hz]) rfl ⟨rfl, ?_⟩
    exact below_more (HB2.out.trans ((But.five w2 (w.heap.size + 1) _ _ _ _ _).below HB2.out.size (by intro x hx; simp at hx; omega))) _
  · subst e1 e2 e3 e4
    clear HX
    go_wp2_with fail
    refine bodyPost_ret (v := rrv 3 (0, 0, 0, 0)) (by simp [results, Try.results64, go_sem, c0, c1, c2, c3, c4, hz]) rfl ⟨rfl, ?_⟩
    exact below_more (HB2.out.trans ((But.five w2 (w.heap.size + 1) _ _ _ _ _).below HB2.out.size (by intro x hx; simp at hx; omega))) _

def AskFreeOf : Prop := ∀ (b : Bk) (vr vh : Value) (fa fb : List Nat) (l s : Int) (w : World), bsz b ≤ 1048576 → (Lit.int .i64 b.now).wf = true → (∀ r ∈ b.rs, WfR r) → (∀ h ∈ b.hs, WfH h) → (Lit.int .i64 l).wf = true → (Lit.int .i64 s).wf = true → BkAt w b vr vh fa fb →
  Calls Try.prog 20 #[bv b.now vr vh, .int .i64 l, .int .i64 s] w fun e w' => e = .returned (pairV (freeP b l s)) ∧ Below w.heap.size w w'
def AskHeldOf : Prop := ∀ (b : Bk) (vr vh : Value) (fa fb : List Nat) (l s : Int) (w : World), bsz b ≤ 1048576 → (Lit.int .i64 b.now).wf = true → (∀ r ∈ b.rs, WfR r) → (∀ h ∈ b.hs, WfH h) → (Lit.int .i64 l).wf = true → (Lit.int .i64 s).wf = true → BkAt w b vr vh fa fb →
  Calls Try.prog 23 #[bv b.now vr vh, .int .i64 l, .int .i64 s] w fun e w' => e = .returned (pairV (heldP b l s)) ∧ Below w.heap.size w w'
def AskTotalOf : Prop := ∀ (b : Bk) (vr vh : Value) (fa fb : List Nat) (s : Int) (w : World), bsz b ≤ 1048576 → (Lit.int .i64 b.now).wf = true → (∀ r ∈ b.rs, WfR r) → (∀ h ∈ b.hs, WfH h) → (Lit.int .i64 s).wf = true → BkAt w b vr vh fa fb →
  Calls Try.prog 27 #[bv b.now vr vh, .int .i64 s] w fun e w' => e = .returned (pairV (totalP b s)) ∧ Below w.heap.size w w'
theorem below_pair {w w1 : World} {g : Nat} (hb : Below w.heap.size w w1) (hg : w.heap.size ≤ g) (a b : Value) : Below w.heap.size w ((w1.setCell ⟨g, 0, none⟩ a).setCell ⟨g, 1, none⟩ b) :=
  (hb.setCell hg a).setCell hg b

set_option maxRecDepth 100000 in
set_option maxHeartbeats 1000000 in
theorem implFreeOf_a : AskFreeOf := by
  intro b vr vh fa fb l s w hs wn hwr hwh wl ws hk
  rw [freeP_row]
  obtain ⟨b1, b2, b3, b4⟩ := rowV_bd b l s
  have hcall := fun W h => rowOf_c b vr vh fa fb l s W hs wn hwr hwh wl ws (hk.below' (w' := W) h)
  generalize askedF b l s = C at *
  generalize rowV b l s = V at *
  have HCALL := Lib.hid hcall
  clear hcall hwr hwh hk
  go_enter Try.func20, Try.ntmps20
  go_wp2_with fail
  generalize hW : ((w.alloc (.cells #[.int .i64 b.now, vr, vh] 31)).alloc (.cells #[.int .i64 0, .int .i64 0] 36)) = W
  have HBW : Hid (Below w.heap.size w W) := by rw [← hW]; exact below_more (below_new _) _
  have GR : Hid (W.heap[w.heap.size + 1]? = some (.cells #[.int .i64 0, .int .i64 0] 36 (0, 0))) := by rw [← hW]; exact heap_new _ _ (by simp)
  clear hW
  refine (HCALL.out _ HBW.out).mono ?_
  rintro e w1 ⟨rfl, hb1⟩
  have hg1 := (hb1.block _ (heap_lt GR.out)).trans GR.out
  obtain ⟨c0, c1, f0, f1, hz⟩ := pair_at hg1
  have HB1 := Lib.hid (HBW.out.trans (hb1.mono HBW.out.size))
  clear hb1 hg1 HCALL
  go_wp2_with fail
  refine bodyPost_ret (v := pairV (C, V.2.2.1 - V.2.2.2)) (by simp [results, Try.results20, go_sem, c0, c1, hz]) rfl ⟨rfl, ?_⟩
  exact below_more (below_pair HB1.out (by omega) _ _) _

set_option maxRecDepth 100000 in
set_option maxHeartbeats 1000000 in
theorem implHeldOf_a : AskHeldOf := by
  intro b vr vh fa fb l s w hs wn hwr hwh wl ws hk
  rw [heldP_row]
  have hcall := fun W h => rowOf_c b vr vh fa fb l s W hs wn hwr hwh wl ws (hk.below' (w' := W) h)
  generalize askedF b l s = C at *
  generalize rowV b l s = V at *
  have HCALL := Lib.hid hcall
  clear hcall hwr hwh hk
  go_enter Try.func23, Try.ntmps23
  go_wp2_with fail
  generalize hW : ((w.alloc (.cells #[.int .i64 b.now, vr, vh] 31)).alloc (.cells #[.int .i64 0, .int .i64 0] 36)) = W
  have HBW : Hid (Below w.heap.size w W) := by rw [← hW]; exact below_more (below_new _) _
  have GR : Hid (W.heap[w.heap.size + 1]? = some (.cells #[.int .i64 0, .int .i64 0] 36 (0, 0))) := by rw [← hW]; exact heap_new _ _ (by simp)
  clear hW
  refine (HCALL.out _ HBW.out).mono ?_
  rintro e w1 ⟨rfl, hb1⟩
  have hg1 := (hb1.block _ (heap_lt GR.out)).trans GR.out
  obtain ⟨c0, c1, f0, f1, hz⟩ := pair_at hg1
  have HB1 := Lib.hid (HBW.out.trans (hb1.mono HBW.out.size))
  clear hb1 hg1 HCALL
  go_wp2_with fail
  refine bodyPost_ret (v := pairV (C, V.2.2.2)) (by simp [results, Try.results23, go_sem, c0, c1, hz]) rfl ⟨rfl, ?_⟩
  exact below_more (below_pair HB1.out (by omega) _ _) _

set_option maxRecDepth 100000 in
set_option maxHeartbeats 2000000 in
theorem implTotalOf_a : AskTotalOf := by
  intro b vr vh fa fb s w hs wn hwr hwh ws hk
  have hmx := hk.r
  obtain ⟨A, c, B, d, eA, eB⟩ := hk.form
  have HEA := Lib.hid eA
  have HWR := Lib.hid hwr; have HWH := Lib.hid hwh; have HK := Lib.hid hk
  generalize hP : totalP b s = res
  have HP := Lib.hid hP
  clear hwr hwh hk eA eB hmx hP
  go_enter Try.func27, Try.ntmps27
  go_wp2_with fail
  generalize hW : ((w.alloc (.cells #[.int .i64 b.now, vr, vh] 31)).alloc (.cells #[.int .i64 0, .int .i64 0] 36)) = W
  have HBW : Hid (Below w.heap.size w W) := by rw [← hW]; exact below_more (below_new _) _
  have GB : Hid (W.heap[w.heap.size]? = some (.cells #[.int .i64 b.now, vr, vh] 31 (0, 0))) := by rw [← hW]; exact heap_old (heap_new w _ rfl)
  have GR : Hid (W.heap[w.heap.size + 1]? = some (.cells #[.int .i64 0, .int .i64 0] 36 (0, 0))) := by rw [← hW]; exact heap_new _ _ (by simp)
  clear hW
  refine (implBookFault_a b vr vh fa fb _ hs wn HWR.out HWH.out (HK.out.below' HBW.out)).mono ?_
  rintro e w1 ⟨rfl, hb1⟩
  have GB1 := Lib.hid ((hb1.block _ (heap_lt GB.out)).trans GB.out)
  have GR1 := Lib.hid ((hb1.block _ (heap_lt GR.out)).trans GR.out)
  have HB1 := Lib.hid (HBW.out.trans (hb1.mono HBW.out.size))
  clear hb1
  obtain ⟨c0, c1, f0, f1, hz⟩ := pair_at GR1.out
  by_cases h0 : bookF b = 0
  case neg =>
    have hr : res = (bookF b, 0) := by
      rw [← HP.out]; unfold totalP askedF; rw [if_neg h0, if_neg h0]
    subst hr
    have t1 : (bookF b != 0) = true := by simpa using h0
    clear h0 HP
    go_wp2_with fail
    refine bodyPost_ret (v := pairV (bookF b, 0)) (by simp [results, Try.results27, go_sem, c0, c1, hz]) rfl ⟨rfl, ?_⟩
    exact below_pair HB1.out (by omega) _ _
  rw [h0]
  have hi0 : inB 0 0 3 = true := by decide
  cases hi : inB s 1 20
  · have hr : res = (3, 0) := by
      rw [← HP.out]; unfold totalP askedF; rw [if_pos h0]; simp [isB, hi]
    subst hr
    have HI := Lib.hid hi
    clear h0 HP hi
    go_wp2_with (go_at_call 69; refine (isSku_b _ _ HI.out _).mono ?_; rintro e w' ⟨rfl, rfl⟩)
    refine bodyPost_ret (v := pairV (3, 0)) (by simp [results, Try.results27, go_sem, c0, c1, hz]) rfl ⟨rfl, ?_⟩
    exact below_pair HB1.out (by omega) _ _
  · have hr : res = (0, sumF b.rs s) := by
      have ha : askedF b 0 s = 0 := by unfold askedF; rw [if_pos h0]; simp [isB, hi, hi0]
      rw [← HP.out]; unfold totalP; rw [ha]; rfl
    subst hr
    have HI := Lib.hid hi
    have hrf := (bookF_zero h0).2.2.1
    have hlen := (rowsF_fits hrf).2
    have HRF := Lib.hid (rowsF_mem hrf)
    have hR1 := (HK.out.below' HB1.out).r
    rw [HEA.out] at hR1
    have HR1 := Lib.hid hR1
    obtain ⟨g0, g1, g2, _, _, _, hzb⟩ := three_at GB1.out
    rw [HEA.out] at g1
    clear h0 HP hi hrf hR1 hi0
    go_wp2_with (go_at_call 69; refine (isSku_b _ _ HI.out _).mono ?_; rintro e w' ⟨rfl, rfl⟩)
    rw [HEA.out]
    go_loopw [6, 22] (fun n i wr => ∃ k : Nat, k ≤ b.rs.length ∧ i = .int .i64 k ∧ n = .int .i64 (sumF (b.rs.take k) s) ∧ Hid (Below w1.heap.size w1 wr)) (fun _ i _ => b.rs.length - (intOf i).toNat)
    case atStart => exact ⟨0, Nat.zero_le _, rfl, rfl, Below.refl _ _⟩
    case round =>
      obtain ⟨k, hk, rfl, rfl, HB⟩ := hrel
      have HBW2 := Lib.hid (HB1.out.trans (HB.out.mono HB1.out.size))
      have hgr := (HB.out.block _ (heap_lt GR1.out)).trans GR1.out
      clear c0 c1 f0 f1 hz
      obtain ⟨c0, c1, f0, f1, hz⟩ := pair_at hgr
      clear hgr
      by_cases hlt : k < b.rs.length
      · obtain ⟨b1, o1, hA, _, hl1, p0, p1, p2, p3⟩ := (HR1.out.below' HB.out).row_at hlt
        subst hA
        have hstep := sumF_succ b.rs s k hlt
        have hbd := sumF_bd b.rs s HRF.out k (by omega)
        have hft := rowF_zero (HRF.out b.rs[k] (List.getElem_mem hlt))
        generalize sumF (b.rs.take k) s = n at *
        generalize b.rs[k] = x at *
        have r1 := hft.2.2.2.2.1
        have r2 := hft.2.2.2.2.2.1
        have r3 := hbd.1; have r4 := hbd.2
        have HST := Lib.hid hstep
        have HBN := Lib.hid (below_more HB.out (rbox x))
        clear hft hbd hstep
        by_cases e : x.2.1 = s
        · have H := Lib.hid (HST.out.trans (if_pos e))
          have t1 : (x.2.1 == s) = true := by simpa using e
          clear HST e
          go_wp2_with fail
          exact ⟨⟨k + 1, by omega, by go_num, by rw [H.out], HBN.out⟩, by simp [intOf]; omega⟩
        · have H := Lib.hid (HST.out.trans (if_neg e))
          have t1 : (x.2.1 == s) = false := by simpa using e
          clear HST e
          go_wp2_with fail
          exact ⟨⟨k + 1, by omega, by go_num, by rw [H.out], HBN.out⟩, by simp [intOf]; omega⟩
      · obtain rfl : k = b.rs.length := by omega
        rw [List.take_length]
        go_wp2_with fail
        refine bodyPost_ret (v := pairV (0, sumF b.rs s)) (by simp [results, Try.results27, go_sem, c0, c1, hz]) rfl ⟨rfl, ?_⟩
        exact below_pair HBW2.out (by omega) _ _
end Go.Proofs.Ytfohlopbfanaeaa
