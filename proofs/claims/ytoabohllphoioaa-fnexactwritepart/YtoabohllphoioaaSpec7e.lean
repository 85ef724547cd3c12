/-
  The model's functions of chapter 7, fifth part: WritePart.
-/
import Derived.Test.YtoabohllphoioaaSpec7d
namespace Go.Proofs.Ytoabohllphoioaa
open Go.RowKit

set_option maxRecDepth 100000 in
set_option maxHeartbeats 8000000 in
theorem specWritePart_r (A : Option Addr) (c : Nat) (l : List Pt) (r : R) (m : Int) (w : World) (fp : List Nat) (hs : psz l ≤ 1048576) (ha : RdP w (.slice A l.length c) l fp) :
    Calls Try.prog 58 #[.slice A l.length c, rv r, .int .i64 m] w (PsResPost w (wqC l r m) (wqL l r m)) := by
  have hn := below_more (below_new (w := w) (.cells #[.int .i64 r.1, .int .i64 r.2.1, .int .i64 r.2.2.1, .int .i64 r.2.2.2] 34)) (.cells #[.int .i64 0, .slice none 0 0] 72)
  have GR := Lib.hid (heap_old (o' := .cells #[.int .i64 0, .slice none 0 0] 72) (heap_new w (.cells #[.int .i64 r.1, .int .i64 r.2.1, .int .i64 r.2.2.1, .int .i64 r.2.2.2] 34) rfl))
  have GZ := Lib.hid (heap_new (w.alloc (.cells #[.int .i64 r.1, .int .i64 r.2.1, .int .i64 r.2.2.1, .int .i64 r.2.2.2] 34)) (.cells #[.int .i64 0, .slice none 0 0] 72) (g := w.heap.size + 1) (by simp))
  have HB := Lib.hid hn
  have HA := Lib.hid (ha.below' hn); have HS := Lib.hid hs
  have hcall := l7Fault_c A c l _ fp (by omega) (ha.below' hn)
  have HC := Lib.hid hcall
  clear ha hn hcall
  by_cases h0 : partsF l = 0
  case neg =>
    rw [wqC_a h0, wqL_no (by rw [wqC_a h0]; exact h0)]
    generalize partsF l = V at *
    have t1 : (V != 0) = true := by simpa using h0
    clear h0 hs
    go_enter Try.func58, Try.ntmps58
    go_wp2_with fail
    refine HC.out.mono ?_
    rintro e w1 ⟨rfl, hb1⟩
    have HB1 := Lib.hid (HB.out.trans (hb1.mono HB.out.size))
    obtain ⟨y0, y1, z0, z1, yz⟩ := two_at ((hb1.block _ (heap_lt GZ.out)).trans GZ.out)
    clear hb1
    go_wp2_with fail
    exact bodyPost_ret (v := psv V (.slice none 0 0)) (by simp [results, Try.results58, go_sem, y0, y1]) rfl (psres_none (HB1.out.trans ((But.two _ (w.heap.size + 1) 0 1 _ _).below HB1.out.size (by intro b hb; simp at hb; omega))))
  rw [h0] at HC
  by_cases h1 : rowF r = 0
  case neg =>
    rw [wqC_b h0 h1, wqL_no (by rw [wqC_b h0 h1]; exact h1)]
    obtain ⟨V, hV⟩ : ∃ V, V = rowF r := ⟨_, rfl⟩
    have HV := Lib.hid hV.symm
    rw [← hV] at h1 ⊢
    have t1 : (V != 0) = true := by simpa using h1
    clear h0 h1 hV hs
    go_enter Try.func58, Try.ntmps58
    go_wp2_with fail
    refine HC.out.mono ?_
    rintro e w1 ⟨rfl, hb1⟩
    have HB1 := Lib.hid (HB.out.trans (hb1.mono HB.out.size))
    have GR1 := Lib.hid ((hb1.block _ (heap_lt GR.out)).trans GR.out)
    have GZ1 := Lib.hid ((hb1.block _ (heap_lt GZ.out)).trans GZ.out)
    clear hb1
    go_wp2_with fail
    refine (l2Row_c w.heap.size 0 r _ ⟨cell_of_heap GR1.out, cell_of_heap GR1.out, cell_of_heap GR1.out, cell_of_heap GR1.out⟩).mono ?_
    rw [HV.out]
    rintro e w2 ⟨rfl, hq⟩
    have hb2 : Below _ _ w2 := Qt.below hq
    have HB2 := Lib.hid (HB1.out.trans (hb2.mono HB1.out.size))
    obtain ⟨y0, y1, z0, z1, yz⟩ := two_at ((hb2.block _ (heap_lt GZ1.out)).trans GZ1.out)
    clear hb2 hq
    go_wp2_with fail
    exact bodyPost_ret (v := psv V (.slice none 0 0)) (by simp [results, Try.results58, go_sem, y0, y1]) rfl (psres_none (HB2.out.trans ((But.two _ (w.heap.size + 1) 0 1 _ _).below HB2.out.size (by intro b hb; simp at hb; omega))))
  have H1 := Lib.hid h1
  cases h2 : inB m 0 999
  case false =>
    rw [wqC_c h0 h1 h2, wqL_no (by rw [wqC_c h0 h1 h2]; decide)]
    have H2 := Lib.hid h2
    clear h0 h1 h2 hs
    go_enter Try.func58, Try.ntmps58
    go_wp2_with fail
    refine HC.out.mono ?_
    rintro e w1 ⟨rfl, hb1⟩
    have HB1 := Lib.hid (HB.out.trans (hb1.mono HB.out.size))
    have GR1 := Lib.hid ((hb1.block _ (heap_lt GR.out)).trans GR.out)
    have GZ1 := Lib.hid ((hb1.block _ (heap_lt GZ.out)).trans GZ.out)
    clear hb1
    go_wp2_with fail
    refine (l2Row_c w.heap.size 0 r _ ⟨cell_of_heap GR1.out, cell_of_heap GR1.out, cell_of_heap GR1.out, cell_of_heap GR1.out⟩).mono ?_
    rw [H1.out]
    rintro e w2 ⟨rfl, hq⟩
    have hb2 : Below _ _ w2 := Qt.below hq
    have HB2 := Lib.hid (HB1.out.trans (hb2.mono HB1.out.size))
    obtain ⟨y0, y1, z0, z1, yz⟩ := two_at ((hb2.block _ (heap_lt GZ1.out)).trans GZ1.out)
    clear hb2 hq
    go_wp2_with fail
    refine (l1In_c m 0 999 _).mono ?_
    rw [H2.out]
    rintro e w' ⟨rfl, hw⟩
    subst hw
    go_wp2_with fail
    exact bodyPost_ret (v := psv 3 (.slice none 0 0)) (by simp [results, Try.results58, go_sem, y0, y1]) rfl (psres_none (HB2.out.trans ((But.two _ (w.heap.size + 1) 0 1 _ _).below HB2.out.size (by intro b hb; simp at hb; omega))))
  have H2 := Lib.hid h2
  obtain ⟨k3, kt⟩ := wqP_sz (m := m) h0 h1
  have hwl : (wqP l r m).length = l.length := by rw [k3, (partsF_zero h0).1]
  have hwr := fun (A : Option Addr) (c : Nat) (w : World) (fp : List Nat) (ha : RdP w (.slice A l.length c) l fp) (hnf : NF w fp) (hnd : fp.Nodup) => l7Write_c A c l r m w fp h0 h1 ha hnf hnd
  have hcode := wqC_d h0 h1 h2
  have hlist : wqL l r m = if 12 < totP (wqP l r m) then [] else wqP l r m := by
    unfold wqL
    rw [hcode]
    by_cases h : 12 < totP (wqP l r m)
    · rw [if_pos h, if_pos h]; rfl
    · rw [if_neg h, if_neg h]; rfl
  rw [hcode, hlist]
  obtain ⟨T, hT⟩ : ∃ T, T = totP (wqP l r m) := ⟨_, rfl⟩
  obtain ⟨L, hL⟩ : ∃ L, L = wqP l r m := ⟨_, rfl⟩
  have hpz : psz L ≤ 4194304 := by rw [hL]; unfold psz; omega
  rw [← hL] at hT hwl ⊢
  rw [← hT]
  have HT := Lib.hid hT.symm; have HL := Lib.hid hL.symm; have HWL := Lib.hid hwl; have HWR := Lib.hid hwr; have HPZ := Lib.hid hpz
  have hT4 : T ≤ 25 := by rw [hT, hL]; exact kt
  clear h0 h1 h2 hs hcode hlist hT hL k3 kt hwl hwr hpz
  by_cases h4 : 12 < T
  all_goals
    first | rw [if_pos h4, if_pos h4] | rw [if_neg h4, if_neg h4]
    go_enter Try.func58, Try.ntmps58
    go_wp2_with fail
    refine HC.out.mono ?_
    rintro e w1 ⟨rfl, hb1⟩
    have HB1 := Lib.hid (HB.out.trans (hb1.mono HB.out.size))
    have GR1 := Lib.hid ((hb1.block _ (heap_lt GR.out)).trans GR.out)
    have GZ1 := Lib.hid ((hb1.block _ (heap_lt GZ.out)).trans GZ.out)
    have HA1 := Lib.hid (HA.out.below' hb1)
    clear hb1
    go_wp2_with fail
    refine (l2Row_c w.heap.size 0 r _ ⟨cell_of_heap GR1.out, cell_of_heap GR1.out, cell_of_heap GR1.out, cell_of_heap GR1.out⟩).mono ?_
    rw [H1.out]
    rintro e w2 ⟨rfl, hq⟩
    have hb2 : Below _ _ w2 := Qt.below hq
    have HB2 := Lib.hid (HB1.out.trans (hb2.mono HB1.out.size))
    have GR2 := Lib.hid ((hb2.block _ (heap_lt GR1.out)).trans GR1.out)
    have GZ2 := Lib.hid ((hb2.block _ (heap_lt GZ1.out)).trans GZ1.out)
    have HA2 := Lib.hid (HA1.out.below' hb2)
    clear hb2 hq
    go_wp2_with fail
    refine (l1In_c m 0 999 _).mono ?_
    rw [H2.out]
    rintro e w' ⟨rfl, hw⟩
    subst hw
    go_wp2_with fail
    refine (l7Copy_c A c l _ fp HS.out HA2.out).mono ?_
    rintro e w3 ⟨A3, c3, f3, rfl, hr3, hn3, hf3, hd3, hb3⟩
    have HB3 := Lib.hid (HB2.out.trans (hb3.mono HB2.out.size))
    have GR3 := Lib.hid ((hb3.block _ (heap_lt GR2.out)).trans GR2.out)
    have GZ3 := Lib.hid ((hb3.block _ (heap_lt GZ2.out)).trans GZ2.out)
    have HZ2 := Lib.hid (heap_lt GZ2.out)
    have HF3 : Hid (From (w.heap.size + 1 + 1) f3) := hf3.mono HZ2.out
    have HW3 := Lib.hid (HWR.out A3 c3 w3 f3 hr3 hn3 hd3)
    obtain ⟨r0, r1, r2, r3, _, _, _, _, rz⟩ := four_at GR3.out
    clear hr3 hn3 hf3 hd3 hb3
    go_wp2_with fail
    clear r0 r1 r2 r3 rz
    refine HW3.out.mono ?_
    rintro e w4 ⟨rfl, f4, hr4, hn4, hd4, hx4, hb4⟩
    rw [HL.out, ← HWL.out] at hr4
    have HF4 : Hid (From (w.heap.size + 1 + 1) f4) := fun x hx => by
      rcases hx4 x hx with h | h
      · exact HF3.out x h
      · have := heap_lt GZ3.out; omega
    have HB4 := Lib.hid (HB3.out.trans (hb4.below HB3.out.size (fun x hx => by have := HF3.out x hx; omega)))
    have GZ4 := Lib.hid (hb4.heap GZ3.out (fun hm => by have := HF3.out _ hm; omega))
    have HR4 := Lib.hid hr4; have HN4 := Lib.hid hn4; have HD4 := Lib.hid hd4
    have hcnt := l7Count_q A3 c3 L T HT.out w4 f4 HPZ.out hr4
    rw [HWL.out] at hcnt
    have HCN := Lib.hid hcnt
    clear hr4 hn4 hd4 hx4 hb4 hcnt
    go_wp2_with fail
    refine HCN.out.mono ?_
    rintro e w5 ⟨rfl, hw⟩
    subst hw
    obtain ⟨y0, y1, z0, z1, yz⟩ := two_at GZ4.out
    go_wp2_with fail
  · exact bodyPost_ret (v := psv 8 (.slice none 0 0)) (by simp [results, Try.results58, go_sem, y0, y1]) rfl (psres_none (HB4.out.trans ((But.two _ (w.heap.size + 1) 0 1 _ _).below HB4.out.size (by intro b hb; simp at hb; omega))))
  · have hr4 := HR4.out
    rw [HWL.out] at hr4
    exact bodyPost_ret (v := psv 0 (.slice A3 l.length c3)) (by simp [results, Try.results58, go_sem, y0, y1]) rfl (psres_stored HB4.out (by omega) hr4 HN4.out HF4.out HD4.out)
end Go.Proofs.Ytoabohllphoioaa
