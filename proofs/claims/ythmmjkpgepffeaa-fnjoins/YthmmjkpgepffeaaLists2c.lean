/-
  Plain facts on lists of rows: the three cuts of a list, joined.
-/
import Derived.Test.YthmmjkpgepffeaaLists2b
namespace Go.Proofs.Ythmmjkpgepffeaa

theorem cut_rising {f t : Int} : ∀ {rs : List R} {p : Option Int}, Rising p rs → Rising p (cutR rs f t) := by
  intro rs
  induction rs with
  | nil => intro p _; trivial
  | cons x s ih =>
    intro p h
    unfold cutR
    rw [List.filter_cons]
    split
    · exact ⟨h.1, h.2.1, ih h.2.2⟩
    · exact ih (Rising.weaken h.2.2 fun k hk => ⟨_, rfl, by have := h.2.1 k hk; omega⟩)
theorem cut_mem {f t : Int} {rs : List R} {x : R} : x ∈ cutR rs f t ↔ x ∈ rs ∧ f ≤ keyR x ∧ keyR x < t := by
  unfold cutR; simp [List.mem_filter]
theorem cut_right {f t : Int} {rs : List R} (h : rowsF rs = 0) : rowsF (cutR rs f t) = 0 := by
  obtain ⟨hr, hl⟩ := rowsF_rising h
  exact rising_rowsF (cut_rising hr) (Nat.le_trans (by unfold cutR; exact List.length_filter_le _ _) hl)
theorem key_range {x : R} (h : Fit x) : 1 ≤ keyR x ∧ keyR x ≤ 83 := by unfold Fit at h; unfold keyR; omega
/-- The parts beside a cut are joined, and with the cut they are the list. -/
theorem cut_join {x : List R} {f t : Int} (hx : rowsF x = 0) (hf : 0 ≤ f) (hft : f ≤ t) (ht : t ≤ 100) :
    ∃ o, joinGo (cutR x 0 f) (cutR x 0 f) (cutR x t 100) = some o ∧ rowsF o = 0 ∧ o.length ≤ 12 ∧ joinGo o o (cutR x f t) = some x := by
  obtain ⟨hr, hl⟩ := rowsF_rising hx
  have fx : ∀ y ∈ x, Fit y := fun y hy => fit_of_rowF (hr.above y hy).1
  have r1 := cut_rising (f := 0) (t := f) hr
  have r2 := cut_rising (f := t) (t := 100) hr
  have r3 := cut_rising (f := f) (t := t) hr
  have f1 : ∀ y ∈ cutR x 0 f, Fit y := fun y hy => fx y (cut_mem.1 hy).1
  rcases joinGo_spec f1 (cutR x t 100) (cutR x 0 f) none r1 r2 (fun y hy => .inl hy) with ⟨⟨z, hz, y, hy, hk⟩, _⟩ | ⟨_, o, hj, hor, hom, hol⟩
  · have h1 := cut_mem.1 hz; have h2 := cut_mem.1 hy; omega
  · have fo : ∀ y ∈ o, Fit y := fun y hy => fit_of_rowF (hor.above y hy).1
    rcases joinGo_spec fo (cutR x f t) o none hor r3 (fun y hy => .inl hy) with ⟨⟨z, hz, y, hy, hk⟩, _⟩ | ⟨_, q, hj2, hqr, hqm, hql⟩
    · have h1 := cut_mem.1 hz
      rcases (hom y).1 hy with h | h <;> have h2 := cut_mem.1 h <;> omega
    · have e : q = x := rising_ext hqr hr fun y => by
        rw [hqm, hom, cut_mem, cut_mem, cut_mem]
        constructor
        · rintro ((h | h) | h) <;> exact h.1
        · intro h
          have k := key_range (fx y h)
          by_cases h1 : keyR y < f
          · exact .inl (.inl ⟨h, by omega, h1⟩)
          · by_cases h2 : keyR y < t
            · exact .inr ⟨h, by omega, h2⟩
            · exact .inl (.inr ⟨h, by omega, by omega⟩)
      subst e
      exact ⟨o, hj, rising_rowsF hor (by omega), by omega, hj2⟩
/-- What a join gives is right and has as many rows as both. -/
theorem join_right {a b o : List R} (ha : rowsF a = 0) (hb : rowsF b = 0) (h : joinGo a a b = some o) (hl : o.length ≤ 12) : rowsF o = 0 ∧ o.length = a.length + b.length := by
  have ra := (rowsF_rising ha).1
  have rb := (rowsF_rising hb).1
  have fa : ∀ y ∈ a, Fit y := fun y hy => fit_of_rowF (ra.above y hy).1
  rcases joinGo_spec fa b a none ra rb (fun y hy => .inl hy) with ⟨_, hj⟩ | ⟨_, o1, hj, hor, _, hol⟩
  · rw [hj] at h; cases h
  · rw [hj] at h; cases h
    exact ⟨rising_rowsF hor hl, hol⟩
end Go.Proofs.Ythmmjkpgepffeaa
