/-
  Chapter 7 as plain functions: parts of rows, each with a mark.
-/
import Derived.Test.YtldimfmhbdhbnaaGreatModel6
import Derived.Test.YtldimfmhbdhbnaaGreatPack
namespace Go.Proofs.YtldimfmhbdhbnaaGreat

/-- A part: its rows, its mark. -/
structure Pt where
  rows : List R
  mark : Int
instance : Inhabited Pt := ⟨⟨[], 0⟩⟩
theorem Pt.eq_iff (p q : Pt) : p = q ↔ p.mark = q.mark ∧ p.rows = q.rows := by
  constructor
  · rintro rfl; exact ⟨rfl, rfl⟩
  · obtain ⟨a, b⟩ := p; obtain ⟨c, d⟩ := q; rintro ⟨h1, h2⟩; simp at h1 h2; simp [h1, h2]
instance : DecidableEq Pt := fun p q => decidable_of_iff _ (Pt.eq_iff p q).symm

/-- The checksum of bytes. -/
def sumStep (n z : Int) : Int := (n * 241 + z + 1) % 65521
def sumL (zs : List Int) : Int := zs.foldl sumStep 19
theorem sumStep_bd (n z : Int) : 0 ≤ sumStep n z ∧ sumStep n z ≤ 65520 := by unfold sumStep; omega
theorem sumL_snoc (zs : List Int) (z : Int) : sumL (zs ++ [z]) = sumStep (sumL zs) z := by simp [sumL]
theorem sumL_take (zs : List Int) (k : Nat) (h : k < zs.length) : sumL (zs.take (k + 1)) = sumStep (sumL (zs.take k)) zs[k] := by
  rw [List.take_succ_eq_append_getElem h, sumL_snoc]
theorem sumL_bd (zs : List Int) : 0 ≤ sumL zs ∧ sumL zs ≤ 65520 := by
  rcases List.eq_nil_or_concat zs with rfl | ⟨t, z, rfl⟩
  · simp [sumL]
  · rw [List.concat_eq_append, sumL_snoc]; exact sumStep_bd _ _
/-- The part of a place and a thing. -/
def partI (l s : Int) : Int := sumL (pk [l, s] 2) % 3
theorem partI_bd (l s : Int) : 0 ≤ partI l s ∧ partI l s ≤ 2 := by unfold partI; omega
def rpart (r : R) : Int := partI r.1 r.2.1
theorem rpart_bd (r : R) : 0 ≤ rpart r ∧ rpart r ≤ 2 := partI_bd _ _
/-- A row that belongs into part at. -/
def fitB (at_ : Int) (r : R) : Bool := decide (rpart r = at_) && !emptyB r
/-- The code of rows that must fit. -/
def fitF (p : R → Bool) (rs : List R) : Int := if rowsF rs ≠ 0 then rowsF rs else if rs.all p then 0 else 1
theorem fitF_rows {p : R → Bool} {rs : List R} (h : rowsF rs ≠ 0) : fitF p rs = rowsF rs := by unfold fitF; rw [if_pos h]
/-- The rest of the rows behind the first k. -/
def restQ (p : R → Bool) (rs : List R) (k : Nat) : Int := if (rs.drop k).all p then 0 else 1
theorem restQ_ok {p : R → Bool} {rs : List R} {k : Nat} (h : k < rs.length) (e : p rs[k] = true) : restQ p rs k = restQ p rs (k + 1) := by
  unfold restQ; rw [List.drop_eq_getElem_cons h, List.all_cons, e, Bool.true_and]
theorem restQ_bad {p : R → Bool} {rs : List R} {k : Nat} (h : k < rs.length) (e : p rs[k] = false) : restQ p rs k = 1 := by
  unfold restQ; rw [List.drop_eq_getElem_cons h, List.all_cons, e]; rfl
theorem restQ_end (p : R → Bool) (rs : List R) : restQ p rs rs.length = 0 := by unfold restQ; rw [List.drop_length]; rfl
theorem fitF_rest {p : R → Bool} {rs : List R} (h : rowsF rs = 0) : fitF p rs = restQ p rs 0 := by unfold fitF; rw [if_neg (by simpa using h)]; rfl
theorem fitF_zero {p : R → Bool} {rs : List R} (h : fitF p rs = 0) : rowsF rs = 0 ∧ rs.all p = true := by
  unfold fitF at h
  split at h
  · rename_i h1; exact absurd h h1
  · rename_i h1
    split at h
    · rename_i h2; exact ⟨by simpa using h1, h2⟩
    · cases h
theorem fileF_fitF (rs : List R) (loc : Int) : fileF rs loc = fitF (solidAt loc) rs := rfl

/-- The code of one part. -/
def partF (p : Pt) (at_ : Int) : Int := if inB p.mark 0 999 then fitF (fitB at_) p.rows else 3
def partsG : Int → List Pt → Int
  | _, [] => 0
  | i, p :: t => if partF p i ≠ 0 then partF p i else partsG (i + 1) t
def totP (l : List Pt) : Nat := cntL (fun p => p.rows.length) l
def psz (l : List Pt) : Int := l.length + totP l
theorem totP_take (l : List Pt) (i : Nat) (h : i < l.length) : totP (l.take (i + 1)) = totP (l.take i) + l[i].rows.length := cntL_take (cnt := fun p : Pt => p.rows.length) l i h
theorem totP_le (l : List Pt) (i : Nat) : totP (l.take i) ≤ totP l := cntL_take_le (cnt := fun p : Pt => p.rows.length) l i
theorem len_of_totP (l : List Pt) (i : Nat) (h : i < l.length) : l[i].rows.length ≤ totP l := by
  have := totP_take l i h; have := totP_le l (i + 1); omega
theorem psz_nn (l : List Pt) : 0 ≤ psz l := by unfold psz; omega
/-- The code of parts. -/
def partsF (l : List Pt) : Int := if l.length ≠ 3 then 2 else if partsG 0 l ≠ 0 then partsG 0 l else if 12 < totP l then 2 else 0
/-- The rest of the parts behind the first k. -/
def restG (l : List Pt) (k : Nat) : Int := partsG k (l.drop k)
theorem restG_ok {l : List Pt} {k : Nat} (h : k < l.length) (e : partF l[k] k = 0) : restG l k = restG l (k + 1) := by
  unfold restG; rw [List.drop_eq_getElem_cons h, partsG, if_neg (by simpa using e)]; rfl
theorem restG_bad {l : List Pt} {k : Nat} (h : k < l.length) (e : partF l[k] k ≠ 0) : restG l k = partF l[k] k := by
  unfold restG; rw [List.drop_eq_getElem_cons h, partsG, if_pos e]
theorem restG_end (l : List Pt) : restG l l.length = 0 := by unfold restG; rw [List.drop_length]; rfl
theorem partsG_zero {l : List Pt} (h : restG l 0 = 0) : ∀ k (hk : k < l.length), partF l[k] k = 0 := by
  have step : ∀ k, k ≤ l.length → restG l k = 0 ∧ ∀ j (hj : j < l.length), j < k → partF l[j] j = 0 := by
    intro k
    induction k with
    | zero => intro _; exact ⟨h, fun j _ hj => by omega⟩
    | succ k ih =>
      intro hk
      obtain ⟨h1, h2⟩ := ih (by omega)
      have hk' : k < l.length := by omega
      have e : partF l[k] k = 0 := by
        by_cases e : partF l[k] k = 0
        · exact e
        · rw [restG_bad hk' e] at h1; exact absurd h1 e
      refine ⟨by rw [← restG_ok hk' e]; exact h1, fun j hj hjk => ?_⟩
      by_cases ejk : j = k
      · subst ejk; exact e
      · exact h2 j hj (by omega)
  exact fun k hk => (step l.length (Nat.le_refl _)).2 k hk hk
theorem partsF_len {l : List Pt} (h : l.length ≠ 3) : partsF l = 2 := by unfold partsF; rw [if_pos h]
theorem partsF_part {l : List Pt} (h : l.length = 3) (h3 : restG l 0 ≠ 0) : partsF l = restG l 0 := by
  unfold partsF; rw [if_neg (by simpa using h)]; exact if_pos h3
theorem partsF_many {l : List Pt} (h : l.length = 3) (h3 : restG l 0 = 0) : partsF l = if 12 < totP l then 2 else 0 := by
  unfold partsF; rw [if_neg (by simpa using h)]; exact if_neg (fun hn => hn h3)
theorem partF_mark {p : Pt} {at_ : Int} (h : inB p.mark 0 999 = false) : partF p at_ = 3 := by unfold partF; rw [h]; rfl
theorem partF_rows {p : Pt} {at_ : Int} (h : inB p.mark 0 999 = true) : partF p at_ = fitF (fitB at_) p.rows := by unfold partF; rw [h]; rfl
theorem partF_zero {p : Pt} {at_ : Int} (h : partF p at_ = 0) : 0 ≤ p.mark ∧ p.mark ≤ 999 ∧ rowsF p.rows = 0 ∧ p.rows.all (fitB at_) = true := by
  cases h2 : inB p.mark 0 999
  · rw [partF_mark h2] at h; cases h
  · rw [partF_rows h2] at h
    rw [inB_true] at h2
    exact ⟨h2.1, h2.2, (fitF_zero h).1, (fitF_zero h).2⟩
theorem partsF_zero {l : List Pt} (h : partsF l = 0) : l.length = 3 ∧ (∀ k (hk : k < l.length), 0 ≤ l[k].mark ∧ l[k].mark ≤ 999 ∧ rowsF l[k].rows = 0 ∧ (l[k].rows).all (fitB k) = true) ∧ totP l ≤ 12 := by
  by_cases h1 : l.length = 3
  · by_cases h3 : restG l 0 = 0
    · rw [partsF_many h1 h3] at h
      refine ⟨h1, fun k hk => partF_zero (partsG_zero h3 k hk), ?_⟩
      split at h
      · cases h
      · omega
    · rw [partsF_part h1 h3] at h; exact absurd h h3
  · rw [partsF_len h1] at h; cases h
end Go.Proofs.YtldimfmhbdhbnaaGreat
