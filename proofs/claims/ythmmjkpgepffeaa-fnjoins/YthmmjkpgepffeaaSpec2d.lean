/-
  Contracts of the model's PutRow and CutRows.
-/
import Derived.Test.YthmmjkpgepffeaaSet2
import Derived.Test.YthmmjkpgepffeaaMerge2
namespace Go.Proofs.Ythmmjkpgepffeaa
open Go.RowKit

/-- The struct x holds a code and a slice that reads as the rows rs and lies in blocks of its own from lo on. -/
def RRes (w : World) (lo : Nat) (x : Value) (code : Int) (rs : List R) : Prop :=
  ∃ v fp, x = .agg #[.int .i64 code, v] ∧ Rd w 4 v (rcs rs) fp ∧ NF w fp ∧ From lo fp
theorem RRes.but {w w' : World} {lo : Nat} {x : Value} {code : Int} {rs : List R} {bs : List Nat} (h : RRes w lo x code rs) (hb : But bs w w') (hd : ∀ b ∈ bs, b < lo) : RRes w' lo x code rs := by
  obtain ⟨v, fp, rfl, hr, hn, hf⟩ := h
  have hx : ∀ b ∈ fp, b ∉ bs := fun b hm hb' => by have := hf b hm; have := hd b hb'; omega
  exact ⟨v, fp, rfl, hr.but hb hx, hn.but hb hr.lt hx, hf⟩
theorem RRes.lower {w : World} {lo lo' : Nat} {x : Value} {code : Int} {rs : List R} (h : RRes w lo x code rs) (hl : lo' ≤ lo) : RRes w lo' x code rs := by
  obtain ⟨v, fp, rfl, hr, hn, hf⟩ := h
  exact ⟨v, fp, rfl, hr, hn, hf.mono hl⟩
theorem rres_nil (w : World) (lo : Nat) (code : Int) : RRes w lo (.agg #[.int .i64 code, .slice none 0 0]) code [] := ⟨_, [], rfl, Rd.nil w 4, NF.nil w, From.nil lo⟩
/-- What a call answers that gives a code and rows in memory of its own. -/
def RResPost (w : World) (code : Int) (rs : List R) (e : Ending) (w' : World) : Prop :=
  ∃ x, e = .returned x ∧ RRes w' w.heap.size x code rs ∧ Below w.heap.size w w'
/-- The result's struct is stored at the end, in block g: what is answered. -/
theorem rres_stored {w w1 : World} {g : Nat} {code : Int} {x : Value} {rs : List R} {fq : List Nat} (hb : Below w.heap.size w w1) (hg : w.heap.size ≤ g) (hr : Rd w1 4 x (rcs rs) fq) (hn : NF w1 fq) (hf : From (g + 1) fq) :
    RRes ((w1.setCell ⟨g, 0, none⟩ (.int .i64 code)).setCell ⟨g, 1, none⟩ x) w.heap.size (.agg #[.int .i64 code, x]) code rs ∧
    Below w.heap.size w ((w1.setCell ⟨g, 0, none⟩ (.int .i64 code)).setCell ⟨g, 1, none⟩ x) := by
  have hbut := But.two w1 g 0 1 (.int .i64 code) x
  have hres : RRes w1 (g + 1) (.agg #[.int .i64 code, x]) code rs := ⟨_, fq, rfl, hr, hn, hf⟩
  exact ⟨(hres.but hbut (by simp)).lower (by omega), hb.trans (hbut.below hb.size (by intro b hb; simp at hb; omega))⟩
/-- PutRow's code and rows. -/
def prC (rs : List R) (r : R) : Int := if rowsF rs ≠ 0 then rowsF rs else if rowF r ≠ 0 then rowF r else if 12 < (setR rs r).length then 8 else 0
def prL (rs : List R) (r : R) : List R := if prC rs r = 0 then setR rs r else []

set_option maxRecDepth 100000 in
set_option maxHeartbeats 2000000 in
theorem specPutRow_c (A : Option Addr) (c : Nat) (rs : List R) (r : R) (w : World) (fp : List Nat) (ha : Rd w 4 (.slice A rs.length c) (rcs rs) fp) :
    Calls Try.prog 25 #[.slice A rs.length c, rv r] w (RResPost w (prC rs r) (prL rs r)) := by
  have ha' := (ha.alloc (.cells #[.int .i64 r.1, .int .i64 r.2.1, .int .i64 r.2.2.1, .int .i64 r.2.2.2] 26)).alloc (.cells #[.int .i64 0, .slice none 0 0] 30)
  by_cases h0 : rowsF rs = 0
  · by_cases h1 : rowF r = 0
    · obtain ⟨hfit, hl12⟩ := rowsF_fits h0
      have hfr := fit_of_rowF h1
      have H0 := Lib.hid h0; have H1 := Lib.hid h1; have HFT := Lib.hid hfit; have HFR := Lib.hid hfr
      have hC : prC rs r = if 12 < (setR rs r).length then 8 else 0 := by simp [prC, h0, h1]
      have hL : prL rs r = if 12 < (setR rs r).length then [] else setR rs r := by unfold prL; rw [hC]; by_cases h : 12 < (setR rs r).length <;> simp [h]
      rw [hC, hL]
      clear h0 h1 hfit hfr hC hL
      generalize hS : setR rs r = S
      have HS := Lib.hid hS; clear hS
      by_cases hbig : 12 < S.length
      · rw [if_pos hbig, if_pos hbig]
        go_enter Try.func25, Try.ntmps25
        go_wp2_with fail
        refine (l2Fault_c A c rs _ fp ha').mono ?_
        rintro e w1 ⟨rfl, m1, rfl⟩
        rw [H0.out]
        go_wp2_with fail
        refine (l2Row_c w.heap.size 0 r _ ⟨by simp, by simp, by simp, by simp⟩).mono ?_
        rintro e w2 ⟨rfl, m2, hw2⟩
        rw [H1.out]
        rw [World.drewN_drewN] at hw2
        generalize m1 + m2 = m at hw2
        subst hw2
        go_wp2_with fail
        refine (l2Set_c A c rs r _ fp (by omega) HFT.out HFR.out (ha'.drewN m)).mono ?_
        rintro e w3 ⟨v, fv, rfl, hrv, hnv, hfv, hb3, _⟩
        rw [HS.out] at hrv
        obtain ⟨Av, cv, rfl⟩ := hrv.rows_form
        have hfv' : From (w.heap.size + 1 + 1) fv := by intro b hb; have := hfv b hb; simpa using this
        have hb3' : Below w.heap.size w w3 := (below_drewN' (below_more (below_new _) _) m).trans (hb3.mono (by simp; omega))
        have hg : w3.heap[w.heap.size + 1]? = some (.cells #[.int .i64 0, .slice none 0 0] 30 (0, 0)) := (hb3.block _ (by simp)).trans (heap_new (w.alloc (.cells #[.int .i64 r.1, .int .i64 r.2.1, .int .i64 r.2.2.1, .int .i64 r.2.2.2] 26)) _ (by simp))
        obtain ⟨c0, c1, f0, f1, hz⟩ := two_at hg
        have HB := Lib.hid hb3'
        clear hg hb3 hfv hb3'
        have hst := rres_stored (code := 8) (rs := []) (g := w.heap.size + 1) HB.out (by omega) (Rd.nil w3 4) (NF.nil w3) (From.nil _)
        go_wp2_with fail
        exact bodyPost_ret (v := .agg #[.int .i64 8, .slice none 0 0]) (by simp [results, Try.results25, go_sem, c0, c1, hz]) rfl ⟨_, rfl, hst.1, hst.2⟩
      · rw [if_neg hbig, if_neg hbig]
        go_enter Try.func25, Try.ntmps25
        go_wp2_with fail
        refine (l2Fault_c A c rs _ fp ha').mono ?_
        rintro e w1 ⟨rfl, m1, rfl⟩
        rw [H0.out]
        go_wp2_with fail
        refine (l2Row_c w.heap.size 0 r _ ⟨by simp, by simp, by simp, by simp⟩).mono ?_
        rintro e w2 ⟨rfl, m2, hw2⟩
        rw [H1.out]
        rw [World.drewN_drewN] at hw2
        generalize m1 + m2 = m at hw2
        subst hw2
        go_wp2_with fail
        refine (l2Set_c A c rs r _ fp (by omega) HFT.out HFR.out (ha'.drewN m)).mono ?_
        rintro e w3 ⟨v, fv, rfl, hrv, hnv, hfv, hb3, _⟩
        rw [HS.out] at hrv
        obtain ⟨Av, cv, rfl⟩ := hrv.rows_form
        have hfv' : From (w.heap.size + 1 + 1) fv := by intro b hb; have := hfv b hb; simpa using this
        have hb3' : Below w.heap.size w w3 := (below_drewN' (below_more (below_new _) _) m).trans (hb3.mono (by simp; omega))
        have hg : w3.heap[w.heap.size + 1]? = some (.cells #[.int .i64 0, .slice none 0 0] 30 (0, 0)) := (hb3.block _ (by simp)).trans (heap_new (w.alloc (.cells #[.int .i64 r.1, .int .i64 r.2.1, .int .i64 r.2.2.1, .int .i64 r.2.2.2] 26)) _ (by simp))
        obtain ⟨c0, c1, f0, f1, hz⟩ := two_at hg
        have HB := Lib.hid hb3'
        clear hg hb3 hfv hb3'
        have hst := rres_stored (code := 0) (g := w.heap.size + 1) HB.out (by omega) hrv hnv hfv'
        have HST := Lib.hid hst; clear hst
        go_wp2_with fail
        exact bodyPost_ret (v := .agg #[.int .i64 0, .slice Av S.length cv]) (by simp [results, Try.results25, go_sem, c0, c1, hz]) rfl ⟨_, rfl, HST.out.1, HST.out.2⟩
    · have hC : prC rs r = rowF r := by simp [prC, h0, h1]
      have hL : prL rs r = [] := by simp [prL, hC, h1]
      rw [hC, hL]
      have H0 := Lib.hid h0
      have hne : (rowF r != 0) = true := by simpa using h1
      clear h0 h1 hC hL
      go_enter Try.func25, Try.ntmps25
      go_wp2_with fail
      refine (l2Fault_c A c rs _ fp ha').mono ?_
      rintro e w1 ⟨rfl, m1, rfl⟩
      rw [H0.out]
      go_wp2_with fail
      refine (l2Row_c w.heap.size 0 r _ ⟨by simp, by simp, by simp, by simp⟩).mono ?_
      rintro e w2 ⟨rfl, m2, hw2⟩
      rw [World.drewN_drewN] at hw2
      generalize m1 + m2 = m at hw2
      subst hw2
      go_wp2_with fail
      exact bodyPost_ret (v := .agg #[.int .i64 (rowF r), .slice none 0 0]) (by simp [results, Try.results25, go_sem]) rfl ⟨_, rfl, rres_nil _ _ _, (below_drewN' (below_more (below_new _) _) m).trans ((But.two _ (w.heap.size + 1) 0 1 _ _).below (by simp; omega) (by intro b hb; simp at hb; omega))⟩
  · have hC : prC rs r = rowsF rs := by simp [prC, h0]
    have hL : prL rs r = [] := by simp [prL, hC, h0]
    rw [hC, hL]
    have hne : (rowsF rs != 0) = true := by simpa using h0
    clear h0 hC hL
    go_enter Try.func25, Try.ntmps25
    go_wp2_with fail
    refine (l2Fault_c A c rs _ fp ha').mono ?_
    rintro e w1 ⟨rfl, m, rfl⟩
    go_wp2_with fail
    exact bodyPost_ret (v := .agg #[.int .i64 (rowsF rs), .slice none 0 0]) (by simp [results, Try.results25, go_sem]) rfl ⟨_, rfl, rres_nil _ _ _, (below_drewN' (below_more (below_new _) _) m).trans ((But.two _ (w.heap.size + 1) 0 1 _ _).below (by simp; omega) (by intro b hb; simp at hb; omega))⟩
end Go.Proofs.Ythmmjkpgepffeaa
