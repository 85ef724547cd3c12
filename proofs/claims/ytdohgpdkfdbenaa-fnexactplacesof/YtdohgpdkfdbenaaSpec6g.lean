/-
  The model's functions of chapter 6, seventh part: what is answered of rows laid into files.
-/
import Derived.Test.YtdohgpdkfdbenaaSpec6f
namespace Go.Proofs.Ytdohgpdkfdbenaa
open Go.RowKit

set_option maxRecDepth 100000 in
set_option maxHeartbeats 4000000 in
theorem specPlacesOf_r (A : Option Addr) (c : Nat) (rs : List R) (m : Int) (w : World) (fp : List Nat) (_hs : rs.length ≤ 1048576) (ha : Rd w 4 (.slice A rs.length c) (rcs rs) fp) :
    Calls Try.prog 23 #[.slice A rs.length c, .int .i64 m] w (PResPost w (poC rs m) (poL rs m)) := by
  have HB0 := Lib.hid (below_new (w := w) (.cells #[.int .i64 0, .slice none 0 0, .int .i64 0] 51))
  have HG0 := Lib.hid (heap_new w (.cells #[.int .i64 0, .slice none 0 0, .int .i64 0] 51) rfl)
  have HA := Lib.hid (ha.alloc (.cells #[.int .i64 0, .slice none 0 0, .int .i64 0] 51))
  clear ha
  by_cases h0 : rowsF rs = 0
  case neg =>
    have hC : poC rs m = rowsF rs := by unfold poC; rw [if_neg h0]
    have hL : poL rs m = ⟨[], 0⟩ := by unfold poL; rw [if_neg (by rw [hC]; exact h0)]
    rw [hC, hL]
    generalize hV : rowsF rs = V at h0 ⊢
    have HV := Lib.hid hV
    have t1 : (V != 0) = true := by simpa using h0
    clear h0 hC hL hV
    go_enter Try.func23, Try.ntmps23
    go_wp2_with fail
    refine (l2Fault_c A c rs _ fp HA.out).mono ?_
    rw [HV.out]
    rintro e w1 ⟨rfl, hq⟩
    have hb1 : Below _ _ w1 := Qt.below hq
    have HB1 := Lib.hid (HB0.out.trans (hb1.mono HB0.out.size))
    obtain ⟨y0, y1, y2, z0, z1, z2, yz⟩ := three_at6 ((hb1.block _ (heap_lt HG0.out)).trans HG0.out)
    clear hb1 hq
    go_wp2_with fail
    refine bodyPost_ret (v := plrv V 0 (.slice none 0 0)) (by simp [results, Try.results23, go_sem, y0, y1, y2]) rfl (pres_none ?_)
    exact HB1.out.trans (((((But.refl [w.heap.size] w1).setCell (p := ⟨w.heap.size, 0, none⟩) (by simp) _).setCell (p := ⟨w.heap.size, 1, none⟩) (by simp) _).setCell (p := ⟨w.heap.size, 2, none⟩) (by simp) _).below HB1.out.size (by intro b hb; simp at hb; omega))
  cases h1 : inB m 0 999
  case false =>
    have hC : poC rs m = 3 := by unfold poC; rw [if_pos h0, h1]; rfl
    have hL : poL rs m = ⟨[], 0⟩ := by unfold poL; rw [if_neg (by rw [hC]; decide)]
    rw [hC, hL]
    have H0 := Lib.hid h0; have H1 := Lib.hid h1
    clear h0 hC hL h1
    go_enter Try.func23, Try.ntmps23
    go_wp2_with fail
    refine (l2Fault_c A c rs _ fp HA.out).mono ?_
    rw [H0.out]
    rintro e w1 ⟨rfl, hq⟩
    have hb1 : Below _ _ w1 := Qt.below hq
    have HB1 := Lib.hid (HB0.out.trans (hb1.mono HB0.out.size))
    obtain ⟨y0, y1, y2, z0, z1, z2, yz⟩ := three_at6 ((hb1.block _ (heap_lt HG0.out)).trans HG0.out)
    clear hb1 hq
    go_wp2_with fail
    refine (l1In_c m 0 999 _).mono ?_
    rw [H1.out]
    rintro e w' ⟨rfl, hw⟩
    subst hw
    go_wp2_with fail
    refine bodyPost_ret (v := plrv 3 0 (.slice none 0 0)) (by simp [results, Try.results23, go_sem, y0, y1, y2]) rfl (pres_none ?_)
    exact HB1.out.trans (((((But.refl [w.heap.size] w1).setCell (p := ⟨w.heap.size, 0, none⟩) (by simp) _).setCell (p := ⟨w.heap.size, 1, none⟩) (by simp) _).setCell (p := ⟨w.heap.size, 2, none⟩) (by simp) _).below HB1.out.size (by intro b hb; simp at hb; omega))
  have hC : poC rs m = 0 := by unfold poC; rw [if_pos h0, h1]; rfl
  have hL : poL rs m = ⟨filesOf rs, m⟩ := by unfold poL; rw [if_pos hC]
  rw [hC, hL]
  obtain ⟨hfit, h12⟩ := rowsF_fits h0
  have H0 := Lib.hid h0; have H1 := Lib.hid h1; have HFIT := Lib.hid hfit
  have hcall := fun W f (h : Rd W 4 (.slice A rs.length c) (rcs rs) f) => l6Of_c A c rs m W f h12 hfit h
  have HCALL := Lib.hid hcall
  generalize filesOf rs = l at *
  clear h0 hC hL h1 hfit hcall
  go_enter Try.func23, Try.ntmps23
  go_wp2_with fail
  refine (l2Fault_c A c rs _ fp HA.out).mono ?_
  rw [H0.out]
  rintro e w1 ⟨rfl, hq⟩
  have hb1 : Below _ _ w1 := Qt.below hq
  have HB1 := Lib.hid (HB0.out.trans (hb1.mono HB0.out.size))
  have HG1 := Lib.hid ((hb1.block _ (heap_lt HG0.out)).trans HG0.out)
  have HA1 := Lib.hid (HA.out.below' hb1)
  clear hb1 hq
  go_wp2_with fail
  refine (l1In_c m 0 999 _).mono ?_
  rw [H1.out]
  rintro e w' ⟨rfl, hw⟩
  subst hw
  go_wp2_with fail
  refine (HCALL.out _ fp HA1.out).mono ?_
  rintro e w2 ⟨v2, f2, rfl, hr2, hn2, ⟨hf2, hd2⟩, hb2⟩
  obtain ⟨A2, c2, rfl⟩ := hr2.form
  have hz1 := heap_lt HG1.out
  obtain ⟨y0, y1, y2, z0, z1, z2, yz⟩ := three_at6 ((hb2.block _ hz1).trans HG1.out)
  have HX := Lib.hid (pres_stored (code := 0) (HB1.out.trans (hb2.mono HB1.out.size)) (Nat.le_refl _) hr2 hn2 (hf2.mono hz1) hd2)
  clear hr2 hn2 hf2 hd2 hb2 hz1
  go_wp2_with fail
  exact bodyPost_ret (v := plrv 0 m (.slice A2 l.length c2)) (by simp [results, Try.results23, go_sem, y0, y1, y2]) rfl HX.out
end Go.Proofs.Ytdohgpdkfdbenaa
