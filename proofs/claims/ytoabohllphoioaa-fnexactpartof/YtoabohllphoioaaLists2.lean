/-
  Plain facts on lists of rows: what was put is found, all others are as they were.
-/
import Derived.Test.YtoabohllphoioaaSpec2f
namespace Go.Proofs.Ytoabohllphoioaa

/-- Every row is right and the keys rise, all above p (none: no bound). -/
def Rising : Option Int → List R → Prop
  | _, [] => True
  | p, x :: t => rowF x = 0 ∧ (∀ k, p = some k → k < keyR x) ∧ Rising (some (keyR x)) t
theorem scan_rising (p : Option Int) (rs : List R) : scanF p rs = 0 ↔ Rising p rs := by
  induction rs generalizing p with
  | nil => simp [scanF, Rising]
  | cons x t ih =>
    unfold scanF Rising
    by_cases h0 : rowF x = 0
    · rw [if_neg (by simpa using h0)]
      cases p with
      | none => simp [h0, ih]
      | some k =>
        by_cases h1 : keyR x ≤ k
        · simp [h0, h1]; intro h; omega
        · simp [h0, h1, ih]; intro _; omega
    · simp [h0]
theorem rowsF_rising {rs : List R} (h : rowsF rs = 0) : Rising none rs ∧ rs.length ≤ 12 := by
  unfold rowsF at h
  split at h
  · cases h
  · exact ⟨(scan_rising none rs).1 h, by omega⟩
theorem rising_rowsF {rs : List R} (h : Rising none rs) (hl : rs.length ≤ 12) : rowsF rs = 0 := by
  unfold rowsF
  rw [if_neg (by omega)]
  exact (scan_rising none rs).2 h
theorem Rising.weaken {p q : Option Int} {rs : List R} (h : Rising p rs) (hq : ∀ k, q = some k → ∃ j, p = some j ∧ k ≤ j) : Rising q rs := by
  cases rs with
  | nil => trivial
  | cons x t =>
    refine ⟨h.1, fun k hk => ?_, h.2.2⟩
    obtain ⟨j, hj, hkj⟩ := hq k hk
    have := h.2.1 j hj
    omega
theorem Rising.above {p : Option Int} {rs : List R} (h : Rising p rs) : ∀ x ∈ rs, rowF x = 0 ∧ ∀ k, p = some k → k < keyR x := by
  induction rs generalizing p with
  | nil => intro x hx; cases hx
  | cons y t ih =>
    intro x hx
    rcases List.mem_cons.1 hx with rfl | hx
    · exact ⟨h.1, h.2.1⟩
    · have := ih h.2.2 x hx
      refine ⟨this.1, fun k hk => ?_⟩
      have h1 := this.2 _ rfl
      have h2 := h.2.1 k hk
      omega
/-- Keys tell right rows' places and things apart. -/
theorem key_inj {x y : R} (hx : Fit x) (hy : Fit y) : keyR x = keyR y ↔ x.1 = y.1 ∧ x.2.1 = y.2.1 := by
  unfold Fit at hx hy; unfold keyR; omega
theorem setGo_rising {r : R} (hr : rowF r = 0) : ∀ (rs : List R) (p : Option Int) (done : Bool), Rising p rs → (done = false → ∀ k, p = some k → k < keyR r) → Rising p (setGo r done rs) := by
  intro rs
  induction rs with
  | nil =>
    intro p done _ hk
    unfold setGo
    cases done
    · exact ⟨hr, hk rfl, trivial⟩
    · trivial
  | cons x t ih =>
    intro p done h hk
    unfold setGo
    obtain ⟨hx, hpx, ht⟩ := h
    by_cases hd : done = false ∧ keyR r ≤ keyR x
    · rw [if_pos hd, hd.1]
      have e1 : (false || decide (keyR r ≤ keyR x)) = true := by simp [hd.2]
      rw [e1]
      by_cases he : keyR x = keyR r
      · rw [if_neg (by simpa using he)]
        refine ⟨hr, hk hd.1, ?_⟩
        have := ih (some (keyR x)) true ht (by simp)
        rw [he] at this
        simpa using this
      · rw [if_pos he]
        refine ⟨hr, hk hd.1, ?_⟩
        exact ⟨hx, fun k hk' => by cases hk'; omega, ih _ true ht (by simp)⟩
    · rw [if_neg hd]
      have e1 : (done || decide (keyR r ≤ keyR x)) = done := by cases done <;> simp_all
      rw [e1]
      by_cases he : keyR x = keyR r
      · rw [if_neg (by simpa using he)]
        have hdn : done = true := by cases done <;> simp_all
        subst hdn
        have := ih (some (keyR x)) true ht (by simp)
        exact (Rising.weaken this fun k hk' => ⟨_, rfl, by have := hpx k hk'; omega⟩)
      · rw [if_pos he]
        refine ⟨hx, hpx, ?_⟩
        refine ih _ done ht (fun hdn k hk' => ?_)
        cases hk'
        have : ¬ keyR r ≤ keyR x := fun h => hd ⟨hdn, h⟩
        omega
theorem setR_right {rs : List R} {r : R} (h : rowsF rs = 0) (hr : rowF r = 0) (hl : (setR rs r).length ≤ 12) : rowsF (setR rs r) = 0 :=
  rising_rowsF (setGo_rising hr rs none (emptyB r) (rowsF_rising h).1 (by simp)) hl
theorem get_of_mem {p : Option Int} {rs : List R} (h : Rising p rs) {x : R} (hx : x ∈ rs) : getR rs x.1 x.2.1 = some x := by
  induction rs generalizing p with
  | nil => cases hx
  | cons y t ih =>
    rcases List.mem_cons.1 hx with rfl | hx
    · simp [getR]
    · have hk := (h.2.2.above x hx).2 _ rfl
      have hne : ¬ (y.1 = x.1 ∧ y.2.1 = x.2.1) := fun hh => by unfold keyR at hk; rw [hh.1, hh.2] at hk; omega
      have := ih h.2.2 hx
      unfold getR at this ⊢
      rw [List.find?_cons_of_neg (by simpa using hne)]
      exact this
theorem get_none {rs : List R} {l s : Int} (h : ∀ x ∈ rs, ¬ (x.1 = l ∧ x.2.1 = s)) : getR rs l s = none := by
  unfold getR
  rw [List.find?_eq_none]
  intro x hx
  simpa using h x hx
theorem mem_setGo {r x : R} {rs : List R} {done : Bool} (hx : x ∈ rs) (hk : keyR x ≠ keyR r) : x ∈ setGo r done rs := by
  induction rs generalizing done with
  | nil => cases hx
  | cons y t ih =>
    unfold setGo
    rcases List.mem_cons.1 hx with rfl | hx
    · simp [hk]
    · simp only [List.mem_append]
      exact .inr (ih hx)
theorem self_setGo (r : R) (rs : List R) : r ∈ setGo r false rs := by
  induction rs with
  | nil => simp [setGo]
  | cons y t ih =>
    unfold setGo
    simp only [List.mem_append]
    by_cases h : keyR r ≤ keyR y
    · left; left; simp [h]
    · right; simpa [h] using ih
theorem gone_setGo {r x : R} {rs : List R} (hx : x ∈ setGo r true rs) : keyR x ≠ keyR r := by
  induction rs with
  | nil => simp [setGo] at hx
  | cons y t ih =>
    unfold setGo at hx
    simp only [List.mem_append] at hx
    rcases hx with (hx | hx) | hx
    · simp at hx
    · split at hx
      · rename_i h; simp at hx; exact hx ▸ h
      · cases hx
    · exact ih (by simpa using hx)
/-- Another row of the list is found as it was. -/
theorem find_other {rs : List R} {r x : R} (h : rowsF rs = 0) (hr : rowF r = 0) (hx : x ∈ rs) (hne : ¬ (x.1 = r.1 ∧ x.2.1 = r.2.1)) : getR (setR rs r) x.1 x.2.1 = some x := by
  have hri := (rowsF_rising h).1
  have hfx := fit_of_rowF (hri.above x hx).1
  exact get_of_mem (setGo_rising hr rs none (emptyB r) hri (by simp)) (mem_setGo hx fun hk => hne ((key_inj hfx (fit_of_rowF hr)).1 hk))
/-- The row itself is found, unless it is empty. -/
theorem find_self {rs : List R} {r : R} (h : rowsF rs = 0) (hr : rowF r = 0) : getR (setR rs r) r.1 r.2.1 = if emptyB r then none else some r := by
  have hri := setGo_rising hr rs none (emptyB r) (rowsF_rising h).1 (by simp)
  unfold setR
  cases he : emptyB r
  · rw [he] at hri
    simp only [Bool.false_eq_true, if_false]
    exact get_of_mem hri (self_setGo r rs)
  · rw [he] at hri
    simp only [if_true]
    refine get_none fun x hx hh => gone_setGo hx ?_
    unfold keyR; rw [hh.1, hh.2]
end Go.Proofs.Ytoabohllphoioaa
