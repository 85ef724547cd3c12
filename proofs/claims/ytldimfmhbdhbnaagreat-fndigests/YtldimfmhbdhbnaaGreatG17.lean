/-
  Plain facts on lists of rows: what was put is found, all others are as they were.
-/
import Derived.Test.YtldimfmhbdhbnaaGreatG15
namespace Go.Proofs.YtldimfmhbdhbnaaGreat

/-- Every row is right and the keys rise, all above p (none: no bound). -/
def Rising : Option Int → List R → Prop
  | _, [] => True
  | p, x :: t => rowF x = 0 ∧ (∀ k, p = some k → k < keyR x) ∧ Rising (some (keyR x)) t
theorem scan_rising (p : Option Int) (rs : List R) : scanF p rs = 0 ↔ Rising p rs := by
  induction rs generalizing p with
  | nil => simp [scanF, Rising]
  | cons x t ih =>
    unfold scanF Rising
    by_cases h0 : rowF x = 0
    · rw [if_neg (by simpa using h0)]
      cases p with
      | none => simp [h0, ih]
      | some k =>
        by_cases h1 : keyR x ≤ k
        · simp [h0, h1]; intro h; omega
        · simp [h0, h1, ih]; intro _; omega
    · simp [h0]
theorem rowsF_rising {rs : List R} (h : rowsF rs = 0) : Rising none rs ∧ rs.length ≤ 12 := by
  unfold rowsF at h
  split at h
  · cases h
  · exact ⟨(scan_rising none rs).1 h, by omega⟩
theorem rising_rowsF {rs : List R} (h : Rising none rs) (hl : rs.length ≤ 12) : rowsF rs = 0 := by
  unfold rowsF
  rw [if_neg (by omega)]
  exact (scan_rising none rs).2 h
theorem Rising.weaken {p q : Option Int} {rs : List R} (h : Rising p rs) (hq : ∀ k, q = some k → ∃ j, p = some j ∧ k ≤ j) : Rising q rs := by
  cases rs with
  | nil => trivial
  | cons x t =>
    refine ⟨h.1, fun k hk => ?_, h.2.2⟩
    obtain ⟨j, hj, hkj⟩ := hq k hk
    have := h.2.1 j hj
    omega
theorem Rising.above {p : Option Int} {rs : List R} (h : Rising p rs) : ∀ x ∈ rs, rowF x = 0 ∧ ∀ k, p = some k → k < keyR x := by
  induction rs generalizing p with
  | nil => intro x hx; cases hx
  | cons y t ih =>
    intro x hx
    rcases List.mem_cons.1 hx with rfl | hx
    · exact ⟨h.1, h.2.1⟩
    · have := ih h.2.2 x hx
      refine ⟨this.1, fun k hk => ?_⟩
      have h1 := this.2 _ rfl
      have h2 := h.2.1 k hk
      omega
/-- Keys tell right rows' places and things apart. -/
theorem key_inj {x y : R} (hx : Fit x) (hy : Fit y) : keyR x = keyR y ↔ x.1 = y.1 ∧ x.2.1 = y.2.1 := by
  unfold Fit at hx hy; unfold keyR; omega
theorem setGo_rising {r : R} (hr : rowF r = 0) : ∀ (rs : List R) (p : Option Int) (done : Bool), Rising p rs → (done = false → ∀ k, p = some k → k < keyR r) → Rising p (setGo r done rs) := by
  intro rs
  induction rs with
  | nil =>
    intro p done _ hk
    unfold setGo
    cases done
    · exact ⟨hr, hk rfl, trivial⟩
    · trivial
  | cons x t ih =>
    intro p done h hk
    unfold setGo
    obtain ⟨hx, hpx, ht⟩ := h
    by_cases hd : done = false ∧ keyR r ≤ keyR x
    · rw [if_pos hd, hd.1]
      have e1 : (false || decide (keyR r ≤ keyR x)) = true := by simp [hd.2]
      rw [e1]
      by_cases he : keyR x = keyR r
      · rw [if_neg (by simpa using he)]
        refine ⟨hr, hk hd.1, ?_⟩
        have := ih (some (keyR x)) true ht (by simp)
        rw [he] at this
        simpa using this
      · rw [if_pos he]
        refine ⟨hr, hk hd.1, ?_⟩
        exact ⟨hx, fun k hk' => by cases hk'; omega, ih _ true ht (by simp)⟩
    · rw [if_neg hd]
      have e1 : (done || decide (keyR r ≤ keyR x)) = done := by cases done <;> simp_all
      rw [e1]
      by_cases he : keyR x = keyR r
      · rw [if_neg (by simpa using he)]
        have hdn : done = true := by cases done <;> simp_all
        subst hdn
        have := ih (some (keyR x)) true ht (by simp)
        exact (Rising.weaken this fun k hk' => ⟨_, rfl, by have := hpx k hk'; omega⟩)
      · rw [if_pos he]
        refine ⟨hx, hpx, ?_⟩
        refine ih _ done ht (fun hdn k hk' => ?_)
        cases hk'
        have : ¬ keyR r ≤ keyR x := fun h => hd ⟨hdn, h⟩
        omega
theorem setR_right {rs : List R} {r : R} (h : rowsF rs = 0) (hr : rowF r = 0) (hl : (setR rs r).length ≤ 12) : rowsF (setR rs r) = 0 :=
  rising_rowsF (setGo_rising hr rs none (emptyB r) (rowsF_rising h).1 (by simp)) hl
theorem get_of_mem {p : Option Int} {rs : List R} (h : Rising p rs) {x : R} (hx : x ∈ rs) : getR rs x.1 x.2.1 = some x := by
  induction rs generalizing p with
  | nil => cases hx
  | cons y t ih =>
    rcases List.mem_cons.1 hx with rfl | hx
    · simp [getR]
    · have hk := (h.2.2.above x hx).2 _ rfl
      have hne : ¬ (y.1 = x.1 ∧ y.2.1 = x.2.1) := fun hh => by unfold keyR at hk; rw [hh.1, hh.2] at hk; omega
      have := ih h.2.2 hx
      unfold getR at this ⊢
      rw [List.find?_cons_of_neg (by simpa using hne)]
      exact this
theorem get_none {rs : List R} {l s : Int} (h : ∀ x ∈ rs, ¬ (x.1 = l ∧ x.2.1 = s)) : getR rs l s = none := by
  unfold getR
  rw [List.find?_eq_none]
  intro x hx
  simpa using h x hx
theorem mem_setGo {r x : R} {rs : List R} {done : Bool} (hx : x ∈ rs) (hk : keyR x ≠ keyR r) : x ∈ setGo r done rs := by
  induction rs generalizing done with
  | nil => cases hx
  | cons y t ih =>
    unfold setGo
    rcases List.mem_cons.1 hx with rfl | hx
    · simp [hk]
    · simp only [List.mem_append]
      exact .inr (ih hx)
theorem self_setGo (r : R) (rs : List R) : r ∈ setGo r false rs := by
  induction rs with
  | nil => simp [setGo]
  | cons y t ih =>
    unfold setGo
    simp only [List.mem_append]
    by_cases h : keyR r ≤ keyR y
    · left; left; simp [h]
    · right; simpa [h] using ih
theorem gone_setGo {r x : R} {rs : List R} (hx : x ∈ setGo r true rs) : keyR x ≠ keyR r := by
  induction rs with
  | nil => simp [setGo] at hx
  | cons y t ih =>
    unfold setGo at hx
    simp only [List.mem_append] at hx
    rcases hx with (hx | hx) | hx
    · simp at hx
    · split at hx
      · rename_i h; simp at hx; exact hx ▸ h
      · cases hx
    · exact ih (by simpa using hx)
/-- Another row of the list is found as it was. -/
theorem find_other {rs : List R} {r x : R} (h : rowsF rs = 0) (hr : rowF r = 0) (hx : x ∈ rs) (hne : ¬ (x.1 = r.1 ∧ x.2.1 = r.2.1)) : getR (setR rs r) x.1 x.2.1 = some x := by
  have hri := (rowsF_rising h).1
  have hfx := fit_of_rowF (hri.above x hx).1
  exact get_of_mem (setGo_rising hr rs none (emptyB r) hri (by simp)) (mem_setGo hx fun hk => hne ((key_inj hfx (fit_of_rowF hr)).1 hk))
/-- The row itself is found, unless it is empty. -/
theorem find_self {rs : List R} {r : R} (h : rowsF rs = 0) (hr : rowF r = 0) : getR (setR rs r) r.1 r.2.1 = if emptyB r then none else some r := by
  have hri := setGo_rising hr rs none (emptyB r) (rowsF_rising h).1 (by simp)
  unfold setR
  cases he : emptyB r
  · rw [he] at hri
    simp only [Bool.false_eq_true, if_false]
    exact get_of_mem hri (self_setGo r rs)
  · rw [he] at hri
    simp only [if_true]
    refine get_none fun x hx hh => gone_setGo hx ?_
    unfold keyR; rw [hh.1, hh.2]
end Go.Proofs.YtldimfmhbdhbnaaGreat

/-
  Plain facts on lists of rows: what was cut is joined again as it was.
-/
namespace Go.Proofs.YtldimfmhbdhbnaaGreat

theorem rising_ext {xs ys : List R} : ∀ {p q : Option Int}, Rising p xs → Rising q ys → (∀ x, x ∈ xs ↔ x ∈ ys) → xs = ys := by
  induction xs generalizing ys with
  | nil =>
    intro p q _ _ h
    cases ys with
    | nil => rfl
    | cons y t => exact absurd ((h y).2 (by simp)) (by simp)
  | cons x s ih =>
    intro p q hx hy h
    cases ys with
    | nil => exact absurd ((h x).1 (by simp)) (by simp)
    | cons y t =>
      have ex : x = y := by
        have h1 := (h x).1 (by simp)
        have h2 := (h y).2 (by simp)
        rcases List.mem_cons.1 h1 with e | h1
        · exact e
        · rcases List.mem_cons.1 h2 with e | h2
          · exact e.symm
          · have k1 := (hy.2.2.above x h1).2 _ rfl
            have k2 := (hx.2.2.above y h2).2 _ rfl
            omega
      subst ex
      refine congrArg _ (ih hx.2.2 hy.2.2 fun z => ?_)
      constructor
      · intro hz
        rcases List.mem_cons.1 ((h z).1 (by simp [hz])) with e | h1
        · subst e; have := (hx.2.2.above z hz).2 _ rfl; omega
        · exact h1
      · intro hz
        rcases List.mem_cons.1 ((h z).2 (by simp [hz])) with e | h1
        · subst e; have := (hy.2.2.above z hz).2 _ rfl; omega
        · exact h1
theorem merge_mem_iff {r x : R} {rs : List R} : x ∈ mergeGo r false rs ↔ x = r ∨ x ∈ rs := by
  constructor
  · exact mergeGo_mem
  · intro h
    have hin : ∀ (rs : List R) (done : Bool), x ∈ rs → x ∈ mergeGo r done rs := by
      intro rs
      induction rs with
      | nil => intro _ h; cases h
      | cons y t ih =>
        intro done h
        unfold mergeGo
        simp only [List.mem_append, List.mem_singleton]
        rcases List.mem_cons.1 h with rfl | h
        · exact .inl (.inr rfl)
        · exact .inr (ih _ h)
    rcases h with rfl | h
    · induction rs with
      | nil => simp [mergeGo]
      | cons y t ih =>
        unfold mergeGo
        simp only [List.mem_append]
        by_cases hk : keyR x < keyR y
        · left; left; simp [hk]
        · right; simpa [hk] using ih
    · exact hin rs false h
theorem merge_length (r : R) (rs : List R) : (mergeGo r false rs).length = rs.length + 1 ∧ (mergeGo r true rs).length = rs.length := by
  induction rs with
  | nil => simp [mergeGo]
  | cons x t ih =>
    unfold mergeGo
    by_cases h : keyR r < keyR x <;> simp [h] <;> omega
theorem merge_rising {r : R} (hr : rowF r = 0) : ∀ (rs : List R) (p : Option Int) (done : Bool), Rising p rs → (∀ x ∈ rs, keyR x ≠ keyR r) → (done = false → ∀ k, p = some k → k < keyR r) → Rising p (mergeGo r done rs) := by
  intro rs
  induction rs with
  | nil =>
    intro p done _ _ hk
    unfold mergeGo
    cases done
    · exact ⟨hr, hk rfl, trivial⟩
    · trivial
  | cons x t ih =>
    intro p done h hne hk
    unfold mergeGo
    obtain ⟨hx, hpx, ht⟩ := h
    have hnx := hne x (by simp)
    have hnt : ∀ y ∈ t, keyR y ≠ keyR r := fun y hy => hne y (by simp [hy])
    by_cases hd : done = false ∧ keyR r < keyR x
    · rw [if_pos hd, hd.1]
      have e1 : (false || decide (keyR r < keyR x)) = true := by simp [hd.2]
      rw [e1]
      exact ⟨hr, hk hd.1, hx, fun k hk' => by cases hk'; omega, ih _ true ht hnt (by simp)⟩
    · rw [if_neg hd]
      have e1 : (done || decide (keyR r < keyR x)) = done := by cases done <;> simp_all
      rw [e1]
      refine ⟨hx, hpx, ih _ done ht hnt (fun hdn k hk' => ?_)⟩
      cases hk'
      have : ¬ keyR r < keyR x := fun h => hd ⟨hdn, h⟩
      omega
theorem get_some_iff {a : List R} {x : R} (ha : ∀ y ∈ a, Fit y) (hx : Fit x) : (getR a x.1 x.2.1).isSome = true ↔ ∃ y ∈ a, keyR y = keyR x := by
  unfold getR
  rw [List.find?_isSome]
  constructor
  · rintro ⟨y, hy, h⟩
    exact ⟨y, hy, (key_inj (ha y hy) hx).2 (by simpa using h)⟩
  · rintro ⟨y, hy, h⟩
    exact ⟨y, hy, by simpa using (key_inj (ha y hy) hx).1 h⟩
/-- What joinGo makes: none where a key is taken, else all the rows in their order. -/
theorem joinGo_spec {a : List R} (ha : ∀ y ∈ a, Fit y) : ∀ (b out : List R) (p : Option Int), Rising none out → Rising p b → (∀ y ∈ out, y ∈ a ∨ ∃ k, p = some k ∧ keyR y ≤ k) →
    ((∃ x ∈ b, ∃ y ∈ a, keyR y = keyR x) ∧ joinGo a out b = none) ∨
    ((∀ x ∈ b, ∀ y ∈ a, keyR y ≠ keyR x) ∧ ∃ o, joinGo a out b = some o ∧ Rising none o ∧ (∀ x, x ∈ o ↔ x ∈ out ∨ x ∈ b) ∧ o.length = out.length + b.length) := by
  intro b
  induction b with
  | nil => intro out p ho _ _; exact .inr ⟨by simp, out, rfl, ho, by simp, by simp⟩
  | cons x t ih =>
    intro out p ho hb hin
    have hfx := fit_of_rowF hb.1
    unfold joinGo
    by_cases ht : (getR a x.1 x.2.1).isSome = true
    · rw [if_pos ht]
      obtain ⟨y, hy, hk⟩ := (get_some_iff ha hfx).1 ht
      exact .inl ⟨⟨x, by simp, y, hy, hk⟩, rfl⟩
    · rw [if_neg ht]
      have hna : ∀ y ∈ a, keyR y ≠ keyR x := fun y hy hk => ht ((get_some_iff ha hfx).2 ⟨y, hy, hk⟩)
      have hno : ∀ y ∈ out, keyR y ≠ keyR x := fun y hy => by
        rcases hin y hy with h | ⟨k, hk, hle⟩
        · exact hna y h
        · have := hb.2.1 k hk; omega
      have hr := merge_rising hb.1 out none false ho hno (by simp)
      have hin2 : ∀ y ∈ mergeGo x false out, y ∈ a ∨ ∃ k, some (keyR x) = some k ∧ keyR y ≤ k := fun y hy => by
        rcases merge_mem_iff.1 hy with rfl | hy
        · exact .inr ⟨_, rfl, Int.le_refl _⟩
        · rcases hin y hy with h | ⟨k, hk, hle⟩
          · exact .inl h
          · exact .inr ⟨_, rfl, by have := hb.2.1 k hk; omega⟩
      rcases ih (mergeGo x false out) (some (keyR x)) hr hb.2.2 hin2 with ⟨⟨z, hz, y, hy, hk⟩, hj⟩ | ⟨hall, o, hj, hor, hom, hol⟩
      · exact .inl ⟨⟨z, by simp [hz], y, hy, hk⟩, hj⟩
      · refine .inr ⟨fun z hz => ?_, o, hj, hor, fun z => ?_, ?_⟩
        · rcases List.mem_cons.1 hz with rfl | hz
          · exact hna
          · exact hall z hz
        · rw [hom, merge_mem_iff, List.mem_cons]
          constructor
          · rintro ((h | h) | h)
            · exact .inr (.inl h)
            · exact .inl h
            · exact .inr (.inr h)
          · rintro (h | h | h)
            · exact .inl (.inr h)
            · exact .inl (.inl h)
            · exact .inr h
        · rw [hol, (merge_length x out).1]; simp; omega
/-- Joined from either side it is the same. -/
theorem join_comm {a b o : List R} (ha : rowsF a = 0) (hb : rowsF b = 0) (h : joinGo a a b = some o) : joinGo b b a = some o := by
  have ra := (rowsF_rising ha).1
  have rb := (rowsF_rising hb).1
  have fa : ∀ y ∈ a, Fit y := fun y hy => fit_of_rowF (ra.above y hy).1
  have fb : ∀ y ∈ b, Fit y := fun y hy => fit_of_rowF (rb.above y hy).1
  rcases joinGo_spec fa b a none ra rb (fun y hy => .inl hy) with ⟨_, hj⟩ | ⟨hall, o1, hj, hor, hom, _⟩
  · rw [hj] at h; cases h
  · rw [hj] at h; cases h
    rcases joinGo_spec fb a b none rb ra (fun y hy => .inl hy) with ⟨⟨x, hx, y, hy, hk⟩, _⟩ | ⟨_, o2, hj2, hor2, hom2, _⟩
    · exact absurd hk.symm (hall y hy x hx)
    · rw [hj2]
      refine congrArg some (rising_ext hor2 hor fun x => ?_)
      rw [hom2, hom]; exact Or.comm
end Go.Proofs.YtldimfmhbdhbnaaGreat

/-
  Plain facts on lists of rows: the three cuts of a list, joined.
-/
namespace Go.Proofs.YtldimfmhbdhbnaaGreat

theorem cut_rising {f t : Int} : ∀ {rs : List R} {p : Option Int}, Rising p rs → Rising p (cutR rs f t) := by
  intro rs
  induction rs with
  | nil => intro p _; trivial
  | cons x s ih =>
    intro p h
    unfold cutR
    rw [List.filter_cons]
    split
    · exact ⟨h.1, h.2.1, ih h.2.2⟩
    · exact ih (Rising.weaken h.2.2 fun k hk => ⟨_, rfl, by have := h.2.1 k hk; omega⟩)
theorem cut_mem {f t : Int} {rs : List R} {x : R} : x ∈ cutR rs f t ↔ x ∈ rs ∧ f ≤ keyR x ∧ keyR x < t := by
  unfold cutR; simp [List.mem_filter]
theorem cut_right {f t : Int} {rs : List R} (h : rowsF rs = 0) : rowsF (cutR rs f t) = 0 := by
  obtain ⟨hr, hl⟩ := rowsF_rising h
  exact rising_rowsF (cut_rising hr) (Nat.le_trans (by unfold cutR; exact List.length_filter_le _ _) hl)
theorem key_range {x : R} (h : Fit x) : 1 ≤ keyR x ∧ keyR x ≤ 83 := by unfold Fit at h; unfold keyR; omega
/-- The parts beside a cut are joined, and with the cut they are the list. -/
theorem cut_join {x : List R} {f t : Int} (hx : rowsF x = 0) (hf : 0 ≤ f) (hft : f ≤ t) (ht : t ≤ 100) :
    ∃ o, joinGo (cutR x 0 f) (cutR x 0 f) (cutR x t 100) = some o ∧ rowsF o = 0 ∧ o.length ≤ 12 ∧ joinGo o o (cutR x f t) = some x := by
  obtain ⟨hr, hl⟩ := rowsF_rising hx
  have fx : ∀ y ∈ x, Fit y := fun y hy => fit_of_rowF (hr.above y hy).1
  have r1 := cut_rising (f := 0) (t := f) hr
  have r2 := cut_rising (f := t) (t := 100) hr
  have r3 := cut_rising (f := f) (t := t) hr
  have f1 : ∀ y ∈ cutR x 0 f, Fit y := fun y hy => fx y (cut_mem.1 hy).1
  rcases joinGo_spec f1 (cutR x t 100) (cutR x 0 f) none r1 r2 (fun y hy => .inl hy) with ⟨⟨z, hz, y, hy, hk⟩, _⟩ | ⟨_, o, hj, hor, hom, hol⟩
  · have h1 := cut_mem.1 hz; have h2 := cut_mem.1 hy; omega
  · have fo : ∀ y ∈ o, Fit y := fun y hy => fit_of_rowF (hor.above y hy).1
    rcases joinGo_spec fo (cutR x f t) o none hor r3 (fun y hy => .inl hy) with ⟨⟨z, hz, y, hy, hk⟩, _⟩ | ⟨_, q, hj2, hqr, hqm, hql⟩
    · have h1 := cut_mem.1 hz
      rcases (hom y).1 hy with h | h <;> have h2 := cut_mem.1 h <;> omega
    · have e : q = x := rising_ext hqr hr fun y => by
        rw [hqm, hom, cut_mem, cut_mem, cut_mem]
        constructor
        · rintro ((h | h) | h) <;> exact h.1
        · intro h
          have k := key_range (fx y h)
          by_cases h1 : keyR y < f
          · exact .inl (.inl ⟨h, by omega, h1⟩)
          · by_cases h2 : keyR y < t
            · exact .inr ⟨h, by omega, h2⟩
            · exact .inl (.inr ⟨h, by omega, by omega⟩)
      subst e
      exact ⟨o, hj, rising_rowsF hor (by omega), by omega, hj2⟩
/-- What a join gives is right and has as many rows as both. -/
theorem join_right {a b o : List R} (ha : rowsF a = 0) (hb : rowsF b = 0) (h : joinGo a a b = some o) (hl : o.length ≤ 12) : rowsF o = 0 ∧ o.length = a.length + b.length := by
  have ra := (rowsF_rising ha).1
  have rb := (rowsF_rising hb).1
  have fa : ∀ y ∈ a, Fit y := fun y hy => fit_of_rowF (ra.above y hy).1
  rcases joinGo_spec fa b a none ra rb (fun y hy => .inl hy) with ⟨_, hj⟩ | ⟨_, o1, hj, hor, _, hol⟩
  · rw [hj] at h; cases h
  · rw [hj] at h; cases h
    exact ⟨rising_rowsF hor hl, hol⟩
end Go.Proofs.YtldimfmhbdhbnaaGreat
