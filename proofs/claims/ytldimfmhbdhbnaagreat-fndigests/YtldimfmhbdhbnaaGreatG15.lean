/-
  Contracts of the model's PutRow and CutRows.
-/
import Derived.Test.YtldimfmhbdhbnaaGreatG14
import Derived.Test.YtldimfmhbdhbnaaGreatG24
namespace Go.Proofs.YtldimfmhbdhbnaaGreat
open Go.RowKit

/-- The struct x holds a code and a slice that reads as the rows rs and lies in blocks of its own from lo on. -/
def RRes (w : World) (lo : Nat) (x : Value) (code : Int) (rs : List R) : Prop :=
  ∃ v fp, x = .agg #[.int .i64 code, v] ∧ Rd w 4 v (rcs rs) fp ∧ NF w fp ∧ From lo fp
theorem RRes.but {w w' : World} {lo : Nat} {x : Value} {code : Int} {rs : List R} {bs : List Nat} (h : RRes w lo x code rs) (hb : But bs w w') (hd : ∀ b ∈ bs, b < lo) : RRes w' lo x code rs := by
  obtain ⟨v, fp, rfl, hr, hn, hf⟩ := h
  have hx : ∀ b ∈ fp, b ∉ bs := fun b hm hb' => by have := hf b hm; have := hd b hb'; omega
  exact ⟨v, fp, rfl, hr.but hb hx, hn.but hb hr.lt hx, hf⟩
theorem RRes.lower {w : World} {lo lo' : Nat} {x : Value} {code : Int} {rs : List R} (h : RRes w lo x code rs) (hl : lo' ≤ lo) : RRes w lo' x code rs := by
  obtain ⟨v, fp, rfl, hr, hn, hf⟩ := h
  exact ⟨v, fp, rfl, hr, hn, hf.mono hl⟩
theorem rres_nil (w : World) (lo : Nat) (code : Int) : RRes w lo (.agg #[.int .i64 code, .slice none 0 0]) code [] := ⟨_, [], rfl, Rd.nil w 4, NF.nil w, From.nil lo⟩
/-- What a call answers that gives a code and rows in memory of its own. -/
def RResPost (w : World) (code : Int) (rs : List R) (e : Ending) (w' : World) : Prop :=
  ∃ x, e = .returned x ∧ RRes w' w.heap.size x code rs ∧ Below w.heap.size w w'
/-- The result's struct is stored at the end, in block g: what is answered. -/
theorem rres_stored {w w1 : World} {g : Nat} {code : Int} {x : Value} {rs : List R} {fq : List Nat} (hb : Below w.heap.size w w1) (hg : w.heap.size ≤ g) (hr : Rd w1 4 x (rcs rs) fq) (hn : NF w1 fq) (hf : From (g + 1) fq) :
    RRes ((w1.setCell ⟨g, 0, none⟩ (.int .i64 code)).setCell ⟨g, 1, none⟩ x) w.heap.size (.agg #[.int .i64 code, x]) code rs ∧
    Below w.heap.size w ((w1.setCell ⟨g, 0, none⟩ (.int .i64 code)).setCell ⟨g, 1, none⟩ x) := by
  have hbut := But.two w1 g 0 1 (.int .i64 code) x
  have hres : RRes w1 (g + 1) (.agg #[.int .i64 code, x]) code rs := ⟨_, fq, rfl, hr, hn, hf⟩
  exact ⟨(hres.but hbut (by simp)).lower (by omega), hb.trans (hbut.below hb.size (by intro b hb; simp at hb; omega))⟩
/-- PutRow's code and rows. -/
def prC (rs : List R) (r : R) : Int := if rowsF rs ≠ 0 then rowsF rs else if rowF r ≠ 0 then rowF r else if 12 < (setR rs r).length then 8 else 0
def prL (rs : List R) (r : R) : List R := if prC rs r = 0 then setR rs r else []

end Go.Proofs.YtldimfmhbdhbnaaGreat

/-
  Contract of the model's CutRows.
-/
namespace Go.Proofs.YtldimfmhbdhbnaaGreat
open Go.RowKit

/-- CutRows's code and rows. -/
def crC (rs : List R) (f t : Int) : Int := if rowsF rs ≠ 0 then rowsF rs else if inB f 0 100 && inB t f 100 then 0 else 3
def crL (rs : List R) (f t : Int) : List R := if crC rs f t = 0 then cutR rs f t else []

set_option maxRecDepth 100000 in
set_option maxHeartbeats 2000000 in
theorem specCutRows_c (A : Option Addr) (c : Nat) (rs : List R) (f t : Int) (w : World) (fp : List Nat) (ha : Rd w 4 (.slice A rs.length c) (rcs rs) fp) :
    Calls Tryz.prog 57 #[.slice A rs.length c, .int .i64 f, .int .i64 t] w (RResPost w (crC rs f t) (crL rs f t)) := by
  have ha' := ha.alloc (.cells #[.int .i64 0, .slice none 0 0] 56)
  by_cases h0 : rowsF rs = 0
  · obtain ⟨hfit, hl12⟩ := rowsF_fits h0
    have H0 := Lib.hid h0; have HFT := Lib.hid hfit; clear hfit
    cases h1 : inB f 0 100
    · have hC : crC rs f t = 3 := by simp [crC, h0, h1]
      have hL : crL rs f t = [] := by simp [crL, hC]
      rw [hC, hL]
      have H1 := Lib.hid h1
      clear h0 h1 hC hL
      go_enter Tryz.func57, Tryz.ntmps57
      go_wp2_with fail
      refine (l2Fault_c A c rs _ fp ha').mono ?_
      rintro e w1 ⟨rfl, m, rfl⟩
      rw [H0.out]
      go_wp2_with fail
      refine (l1In_c f 0 100 _).mono ?_
      rintro e w1 ⟨rfl, rfl⟩
      rw [H1.out]
      go_wp2_with fail
      exact bodyPost_ret (v := .agg #[.int .i64 3, .slice none 0 0]) (by simp [results, Tryz.results57, go_sem]) rfl ⟨_, rfl, rres_nil _ _ _, (below_drewN' (below_new _) m).trans ((But.two _ (w.heap.size) 0 1 _ _).below (by simp) (by intro b hb; simp at hb; omega))⟩
    · cases h2 : inB t f 100
      · have hC : crC rs f t = 3 := by simp [crC, h0, h1, h2]
        have hL : crL rs f t = [] := by simp [crL, hC]
        rw [hC, hL]
        have H1 := Lib.hid h1; have H2 := Lib.hid h2
        clear h0 h1 h2 hC hL
        go_enter Tryz.func57, Tryz.ntmps57
        go_wp2_with fail
        refine (l2Fault_c A c rs _ fp ha').mono ?_
        rintro e w1 ⟨rfl, m, rfl⟩
        rw [H0.out]
        go_wp2_with fail
        refine (l1In_c f 0 100 _).mono ?_
        rintro e w1 ⟨rfl, rfl⟩
        rw [H1.out]
        go_wp2_with fail
        refine (l1In_c t f 100 _).mono ?_
        rintro e w1 ⟨rfl, rfl⟩
        rw [H2.out]
        go_wp2_with fail
        exact bodyPost_ret (v := .agg #[.int .i64 3, .slice none 0 0]) (by simp [results, Tryz.results57, go_sem]) rfl ⟨_, rfl, rres_nil _ _ _, (below_drewN' (below_new _) m).trans ((But.two _ (w.heap.size) 0 1 _ _).below (by simp) (by intro b hb; simp at hb; omega))⟩
      · have hC : crC rs f t = 0 := by simp [crC, h0, h1, h2]
        have hL : crL rs f t = cutR rs f t := by simp [crL, hC]
        rw [hC, hL]
        generalize hS : cutR rs f t = S
        have HS := Lib.hid hS; clear hS
        have H1 := Lib.hid h1; have H2 := Lib.hid h2
        clear h0 h1 h2 hC hL
        go_enter Tryz.func57, Tryz.ntmps57
        go_wp2_with fail
        refine (l2Fault_c A c rs _ fp ha').mono ?_
        rintro e w1 ⟨rfl, m, rfl⟩
        rw [H0.out]
        go_wp2_with fail
        refine (l1In_c f 0 100 _).mono ?_
        rintro e w1 ⟨rfl, rfl⟩
        rw [H1.out]
        go_wp2_with fail
        refine (l1In_c t f 100 _).mono ?_
        rintro e w1 ⟨rfl, rfl⟩
        rw [H2.out]
        go_wp2_with fail
        refine (l2Cut_c A c rs f t _ fp (by omega) HFT.out (ha'.drewN m)).mono ?_
        rintro e w3 ⟨v, fv, rfl, hrv, hnv, hfv, hb3, _⟩
        rw [HS.out] at hrv
        obtain ⟨Av, cv, rfl⟩ := hrv.rows_form
        have hfv' : From (w.heap.size + 1) fv := by intro b hb; have := hfv b hb; simpa using this
        have hb3' : Below w.heap.size w w3 := (below_drewN' (below_new _) m).trans (hb3.mono (by simp))
        have hg : w3.heap[w.heap.size]? = some (.cells #[.int .i64 0, .slice none 0 0] 56 (0, 0)) := (hb3.block _ (by simp)).trans (heap_new w _ rfl)
        obtain ⟨c0, c1, f0, f1, hz⟩ := two_at hg
        have hst := rres_stored (code := 0) (g := w.heap.size) hb3' (by omega) hrv hnv hfv'
        have HST := Lib.hid hst
        clear hg hb3 hfv hb3' hst
        go_wp2_with fail
        exact bodyPost_ret (v := .agg #[.int .i64 0, .slice Av S.length cv]) (by simp [results, Tryz.results57, go_sem, c0, c1, hz]) rfl ⟨_, rfl, HST.out.1, HST.out.2⟩
  · have hC : crC rs f t = rowsF rs := by simp [crC, h0]
    have hL : crL rs f t = [] := by simp [crL, hC, h0]
    rw [hC, hL]
    have hne : (rowsF rs != 0) = true := by simpa using h0
    clear h0 hC hL
    go_enter Tryz.func57, Tryz.ntmps57
    go_wp2_with fail
    refine (l2Fault_c A c rs _ fp ha').mono ?_
    rintro e w1 ⟨rfl, m, rfl⟩
    go_wp2_with fail
    exact bodyPost_ret (v := .agg #[.int .i64 (rowsF rs), .slice none 0 0]) (by simp [results, Tryz.results57, go_sem]) rfl ⟨_, rfl, rres_nil _ _ _, (below_drewN' (below_new _) m).trans ((But.two _ (w.heap.size) 0 1 _ _).below (by simp) (by intro b hb; simp at hb; omega))⟩
end Go.Proofs.YtldimfmhbdhbnaaGreat

/-
  Contract of the model's JoinRows.
-/
namespace Go.Proofs.YtldimfmhbdhbnaaGreat
open Go.RowKit

theorem mergeGo_length (r : R) (rs : List R) : (mergeGo r false rs).length ≤ rs.length + 1 ∧ (mergeGo r true rs).length ≤ rs.length := by
  induction rs with
  | nil => simp [mergeGo]
  | cons x t ih =>
    unfold mergeGo
    by_cases h : keyR r < keyR x
    · simp [h]; omega
    · simp [h]; omega
theorem mergeGo_mem {r x : R} {rs : List R} {done : Bool} (h : x ∈ mergeGo r done rs) : x = r ∨ x ∈ rs := by
  induction rs generalizing done with
  | nil => unfold mergeGo at h; split at h <;> simp at h; exact .inl h
  | cons y t ih =>
    unfold mergeGo at h
    simp only [List.mem_append] at h
    rcases h with (h | h) | h
    · split at h <;> simp at h; exact .inl h
    · simp at h; simp [h]
    · rcases ih h with h | h
      · exact .inl h
      · simp [h]
theorem fits_iff {rs : List R} : Fits rs ↔ ∀ x ∈ rs, Fit x := by
  constructor
  · intro h x hx
    obtain ⟨j, hj, rfl⟩ := List.getElem_of_mem hx
    exact h j hj
  · intro h j hj; exact h _ (List.getElem_mem hj)
theorem fits_merge {rs : List R} {r : R} (h : Fits rs) (hr : Fit r) : Fits (mergeGo r false rs) := by
  rw [fits_iff] at h ⊢
  intro x hx
  rcases mergeGo_mem hx with rfl | hx
  · exact hr
  · exact h x hx

/-- What JoinRows makes of the rows of b that follow: none where one of them is taken. -/
def joinGo (a : List R) : List R → List R → Option (List R)
  | out, [] => some out
  | out, x :: t => if (getR a x.1 x.2.1).isSome then none else joinGo a (mergeGo x false out) t
theorem joinGo_at (a out b : List R) (k : Nat) (h : k < b.length) : joinGo a out (b.drop k) = if (getR a b[k].1 b[k].2.1).isSome then none else joinGo a (mergeGo b[k] false out) (b.drop (k + 1)) := by
  rw [List.drop_eq_getElem_cons h]; rfl
/-- JoinRows's code and rows. -/
def jC : Option (List R) → Int
  | none => 6
  | some o => if 12 < o.length then 2 else 0
def jrC (a b : List R) : Int := if rowsF a ≠ 0 then rowsF a else if rowsF b ≠ 0 then rowsF b else jC (joinGo a a b)
def jrL (a b : List R) : List R := if jrC a b = 0 then (joinGo a a b).getD [] else []

end Go.Proofs.YtldimfmhbdhbnaaGreat
