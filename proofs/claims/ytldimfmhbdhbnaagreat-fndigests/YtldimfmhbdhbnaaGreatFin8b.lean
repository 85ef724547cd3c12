/-
  Plain facts for FnDigests: the digests of three pieces make the whole's; both layouts of the same rows have the same digest.
-/
import Derived.Test.YtldimfmhbdhbnaaGreatG39
import Derived.Test.YtldimfmhbdhbnaaGreatG42
namespace Go.Proofs.YtldimfmhbdhbnaaGreat

theorem scanF_vals : ∀ (rs : List R) (p : Option Int), scanF p rs ≠ 4 := by
  intro rs
  induction rs with
  | nil => intro p; cases p <;> simp [scanF]
  | cons r t ih =>
    intro p
    unfold scanF
    split
    · unfold rowF
      split
      · split <;> omega
      · omega
    · split
      · omega
      · exact ih _
theorem rowsF_vals (rs : List R) : rowsF rs ≠ 4 := by
  unfold rowsF
  split
  · omega
  · exact scanF_vals rs none
/-- Rows that differ nowhere: both are right, and have one digest. -/
theorem df_none {a b : List R} (h : (dfP a b).1 = 4) : rowsF a = 0 ∧ rowsF b = 0 ∧ digL a = digL b := by
  have h2 : rowsF a = 0 ∧ rowsF b = 0 := by
    unfold dfP at h
    by_cases ha : rowsF a = 0
    · rw [if_pos ha] at h
      by_cases hb : rowsF b = 0
      · exact ⟨ha, hb⟩
      · rw [if_neg hb] at h; exact absurd h (rowsF_vals b)
    · rw [if_neg ha] at h; exact absurd h (rowsF_vals a)
  exact ⟨h2.1, h2.2, same_of_none h2.1 h2.2 h⟩
theorem crC_zero {rs : List R} {f t : Int} (h : crC rs f t = 0) : rowsF rs = 0 ∧ 0 ≤ f ∧ f ≤ t ∧ t ≤ 100 := by
  unfold crC at h
  by_cases h0 : rowsF rs = 0
  · rw [if_neg (by simpa using h0)] at h
    split at h
    · rename_i h1
      simp only [Bool.and_eq_true, inB_true] at h1
      exact ⟨h0, by omega, by omega, by omega⟩
    · cases h
  · rw [if_pos h0] at h; exact absurd h h0
theorem crC_ok {rs : List R} {f t : Int} (h0 : rowsF rs = 0) (h1 : 0 ≤ f) (h2 : f ≤ t) (h3 : t ≤ 100) : crC rs f t = 0 := by
  unfold crC
  rw [if_neg (by simpa using h0), if_pos]
  simp only [Bool.and_eq_true, inB_true]
  omega
theorem rd_code {rs : List R} {f t : Int} (h : (rdP rs f t).1 = 0) : crC rs f t = 0 := by
  unfold rdP at h
  split at h
  · assumption
  · exact h
theorem rd_val {rs : List R} {f t : Int} (h0 : rowsF rs = 0) (h1 : 0 ≤ f) (h2 : f ≤ t) (h3 : t ≤ 100) : rdP rs f t = (0, digL (cutR rs f t)) := by
  have h := crC_ok h0 h1 h2 h3
  unfold rdP crL
  rw [if_pos h, if_pos h]
theorem adP_ok {a b : Int} (h1 : 0 ≤ a ∧ a ≤ 65520) (h2 : 0 ≤ b ∧ b ≤ 65520) : adP a b = (0, addS a b) := by
  unfold adP
  rw [if_pos]
  simp only [Bool.and_eq_true, inB_true]
  omega
/-- Three pieces of right rows: their digests, one after another. -/
theorem dig_whole {rs : List R} {f t : Int} (h : (rdP rs f t).1 = 0) :
    rdP rs 0 f = (0, digL (cutR rs 0 f)) ∧ adP (digL (cutR rs 0 f)) (rdP rs f t).2 = (0, addS (digL (cutR rs 0 f)) (rdP rs f t).2) ∧ rdP rs t 100 = (0, digL (cutR rs t 100)) ∧
    adP (addS (digL (cutR rs 0 f)) (rdP rs f t).2) (digL (cutR rs t 100)) = (0, digL rs) ∧ rowsF rs = 0 ∧ dgP rs = (0, digL rs) := by
  obtain ⟨h0, h1, h2, h3⟩ := crC_zero (rd_code h)
  have hv := rd_val h0 h1 h2 h3
  have hf : ∀ y ∈ rs, Fit y := fun y hy => fit_mem h0 hy
  have ht := totI_cut f t rs h1 h2 h3 hf
  rw [hv]
  refine ⟨rd_val h0 (by omega) h1 (by omega), adP_ok (digL_bd _) (digL_bd _), rd_val h0 (by omega) h3 (by omega), ?_, h0, by unfold dgP; rw [if_pos h0]⟩
  rw [adP_ok (addS_bd _ _) (digL_bd _)]
  congr 1
  simp only [addS, digL_tot]
  omega
/-- The same rows in both layouts. -/
theorem sd_both {rs : List R} (h : rowsF rs = 0) : sdB (poL rs 0) (ppL rs 0) = true := by
  have hc : poC rs 0 = 0 := by unfold poC; rw [if_pos h]; rfl
  obtain ⟨p1, _⟩ := po_right hc
  obtain ⟨q1, q2, _⟩ := pp_right hc
  unfold sdB
  rw [q2]
  simp [p1, q1]
theorem po_zero {rs : List R} (h : rowsF rs = 0) : poC rs 0 = 0 := by unfold poC; rw [if_pos h]; rfl
end Go.Proofs.YtldimfmhbdhbnaaGreat
