/-
  Contract of the model's CutRows.
-/
import Derived.Test.YthmmjkpgepffeaaSpec2d
namespace Go.Proofs.Ythmmjkpgepffeaa
open Go.RowKit

/-- CutRows's code and rows. -/
def crC (rs : List R) (f t : Int) : Int := if rowsF rs ≠ 0 then rowsF rs else if inB f 0 100 && inB t f 100 then 0 else 3
def crL (rs : List R) (f t : Int) : List R := if crC rs f t = 0 then cutR rs f t else []

set_option maxRecDepth 100000 in
set_option maxHeartbeats 2000000 in
theorem specCutRows_c (A : Option Addr) (c : Nat) (rs : List R) (f t : Int) (w : World) (fp : List Nat) (ha : Rd w 4 (.slice A rs.length c) (rcs rs) fp) :
    Calls Try.prog 34 #[.slice A rs.length c, .int .i64 f, .int .i64 t] w (RResPost w (crC rs f t) (crL rs f t)) := by
  have ha' := ha.alloc (.cells #[.int .i64 0, .slice none 0 0] 30)
  by_cases h0 : rowsF rs = 0
  · obtain ⟨hfit, hl12⟩ := rowsF_fits h0
    have H0 := Lib.hid h0; have HFT := Lib.hid hfit; clear hfit
    cases h1 : inB f 0 100
    · have hC : crC rs f t = 3 := by simp [crC, h0, h1]
      have hL : crL rs f t = [] := by simp [crL, hC]
      rw [hC, hL]
      have H1 := Lib.hid h1
      clear h0 h1 hC hL
      go_enter Try.func34, Try.ntmps34
      go_wp2_with fail
      refine (l2Fault_c A c rs _ fp ha').mono ?_
      rintro e w1 ⟨rfl, m, rfl⟩
      rw [H0.out]
      go_wp2_with fail
      refine (l1In_c f 0 100 _).mono ?_
      rintro e w1 ⟨rfl, rfl⟩
      rw [H1.out]
      go_wp2_with fail
      exact bodyPost_ret (v := .agg #[.int .i64 3, .slice none 0 0]) (by simp [results, Try.results34, go_sem]) rfl ⟨_, rfl, rres_nil _ _ _, (below_drewN' (below_new _) m).trans ((But.two _ (w.heap.size) 0 1 _ _).below (by simp) (by intro b hb; simp at hb; omega))⟩
    · cases h2 : inB t f 100
      · have hC : crC rs f t = 3 := by simp [crC, h0, h1, h2]
        have hL : crL rs f t = [] := by simp [crL, hC]
        rw [hC, hL]
        have H1 := Lib.hid h1; have H2 := Lib.hid h2
        clear h0 h1 h2 hC hL
        go_enter Try.func34, Try.ntmps34
        go_wp2_with fail
        refine (l2Fault_c A c rs _ fp ha').mono ?_
        rintro e w1 ⟨rfl, m, rfl⟩
        rw [H0.out]
        go_wp2_with fail
        refine (l1In_c f 0 100 _).mono ?_
        rintro e w1 ⟨rfl, rfl⟩
        rw [H1.out]
        go_wp2_with fail
        refine (l1In_c t f 100 _).mono ?_
        rintro e w1 ⟨rfl, rfl⟩
        rw [H2.out]
        go_wp2_with fail
        exact bodyPost_ret (v := .agg #[.int .i64 3, .slice none 0 0]) (by simp [results, Try.results34, go_sem]) rfl ⟨_, rfl, rres_nil _ _ _, (below_drewN' (below_new _) m).trans ((But.two _ (w.heap.size) 0 1 _ _).below (by simp) (by intro b hb; simp at hb; omega))⟩
      · have hC : crC rs f t = 0 := by simp [crC, h0, h1, h2]
        have hL : crL rs f t = cutR rs f t := by simp [crL, hC]
        rw [hC, hL]
        generalize hS : cutR rs f t = S
        have HS := Lib.hid hS; clear hS
        have H1 := Lib.hid h1; have H2 := Lib.hid h2
        clear h0 h1 h2 hC hL
        go_enter Try.func34, Try.ntmps34
        go_wp2_with fail
        refine (l2Fault_c A c rs _ fp ha').mono ?_
        rintro e w1 ⟨rfl, m, rfl⟩
        rw [H0.out]
        go_wp2_with fail
        refine (l1In_c f 0 100 _).mono ?_
        rintro e w1 ⟨rfl, rfl⟩
        rw [H1.out]
        go_wp2_with fail
        refine (l1In_c t f 100 _).mono ?_
        rintro e w1 ⟨rfl, rfl⟩
        rw [H2.out]
        go_wp2_with fail
        refine (l2Cut_c A c rs f t _ fp (by omega) HFT.out (ha'.drewN m)).mono ?_
        rintro e w3 ⟨v, fv, rfl, hrv, hnv, hfv, hb3, _⟩
        rw [HS.out] at hrv
        obtain ⟨Av, cv, rfl⟩ := hrv.rows_form
        have hfv' : From (w.heap.size + 1) fv := by intro b hb; have := hfv b hb; simpa using this
        have hb3' : Below w.heap.size w w3 := (below_drewN' (below_new _) m).trans (hb3.mono (by simp))
        have hg : w3.heap[w.heap.size]? = some (.cells #[.int .i64 0, .slice none 0 0] 30 (0, 0)) := (hb3.block _ (by simp)).trans (heap_new w _ rfl)
        obtain ⟨c0, c1, f0, f1, hz⟩ := two_at hg
        have hst := rres_stored (code := 0) (g := w.heap.size) hb3' (by omega) hrv hnv hfv'
        have HST := Lib.hid hst
        clear hg hb3 hfv hb3' hst
        go_wp2_with fail
        exact bodyPost_ret (v := .agg #[.int .i64 0, .slice Av S.length cv]) (by simp [results, Try.results34, go_sem, c0, c1, hz]) rfl ⟨_, rfl, HST.out.1, HST.out.2⟩
  · have hC : crC rs f t = rowsF rs := by simp [crC, h0]
    have hL : crL rs f t = [] := by simp [crL, hC, h0]
    rw [hC, hL]
    have hne : (rowsF rs != 0) = true := by simpa using h0
    clear h0 hC hL
    go_enter Try.func34, Try.ntmps34
    go_wp2_with fail
    refine (l2Fault_c A c rs _ fp ha').mono ?_
    rintro e w1 ⟨rfl, m, rfl⟩
    go_wp2_with fail
    exact bodyPost_ret (v := .agg #[.int .i64 (rowsF rs), .slice none 0 0]) (by simp [results, Try.results34, go_sem]) rfl ⟨_, rfl, rres_nil _ _ _, (below_drewN' (below_new _) m).trans ((But.two _ (w.heap.size) 0 1 _ _).below (by simp) (by intro b hb; simp at hb; omega))⟩
end Go.Proofs.Ythmmjkpgepffeaa
