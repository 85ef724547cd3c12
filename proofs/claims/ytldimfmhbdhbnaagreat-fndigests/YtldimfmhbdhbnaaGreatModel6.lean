/-
  Chapter 6 as plain functions: files of rows and a mark.
-/
import Derived.Test.YtldimfmhbdhbnaaGreatG1
import Derived.Test.YtldimfmhbdhbnaaGreatG10
namespace Go.Proofs.YtldimfmhbdhbnaaGreat

/-- Places: the files, the mark. -/
structure Pl where
  fs : List (List R)
  mark : Int
/-- How many values a list of lists of rows takes. -/
def totS (l : List (List R)) : Nat := cntL List.length l
def fsz (l : List (List R)) : Int := l.length + totS l
theorem totS_take (l : List (List R)) (i : Nat) (h : i < l.length) : totS (l.take (i + 1)) = totS (l.take i) + l[i].length := cntL_take l i h
theorem totS_le (l : List (List R)) (i : Nat) : totS (l.take i) ≤ totS l := cntL_take_le l i
theorem len_of_tot (l : List (List R)) (i : Nat) (h : i < l.length) : l[i].length ≤ totS l := by
  have := totS_take l i h; have := totS_le l (i + 1); omega
theorem fsz_nn (l : List (List R)) : 0 ≤ fsz l := by unfold fsz; omega

def solidAt (loc : Int) (r : R) : Bool := (r.1 == loc) && !emptyB r
/-- The code of one file. -/
def fileF (rs : List R) (loc : Int) : Int := if rowsF rs ≠ 0 then rowsF rs else if rs.all (solidAt loc) then 0 else 1
def filesF : Int → List (List R) → Int
  | _, [] => 0
  | i, rs :: t => if fileF rs i ≠ 0 then fileF rs i else filesF (i + 1) t
/-- The code of places. -/
def placesF (p : Pl) : Int := if p.fs.length ≠ 4 then 2 else if inB p.mark 0 999 then (if filesF 0 p.fs ≠ 0 then filesF 0 p.fs else if 12 < totS p.fs then 2 else 0) else 3
theorem fileF_zero {rs : List R} {loc : Int} (h : fileF rs loc = 0) : rowsF rs = 0 ∧ rs.all (solidAt loc) = true := by
  unfold fileF at h
  split at h
  · rename_i h1; exact absurd h h1
  · rename_i h1
    split at h
    · rename_i h2; exact ⟨by simpa using h1, h2⟩
    · cases h
/-- The rest of a file behind its first k rows. -/
def restA (loc : Int) (rs : List R) (k : Nat) : Int := if (rs.drop k).all (solidAt loc) then 0 else 1
theorem restA_ok {loc : Int} {rs : List R} {k : Nat} (h : k < rs.length) (e : solidAt loc rs[k] = true) : restA loc rs k = restA loc rs (k + 1) := by
  unfold restA; rw [List.drop_eq_getElem_cons h, List.all_cons, e, Bool.true_and]
theorem restA_bad {loc : Int} {rs : List R} {k : Nat} (h : k < rs.length) (e : solidAt loc rs[k] = false) : restA loc rs k = 1 := by
  unfold restA; rw [List.drop_eq_getElem_cons h, List.all_cons, e]; rfl
theorem restA_end (loc : Int) (rs : List R) : restA loc rs rs.length = 0 := by unfold restA; rw [List.drop_length]; rfl
theorem fileF_rows {rs : List R} {loc : Int} (h : rowsF rs ≠ 0) : fileF rs loc = rowsF rs := by unfold fileF; rw [if_pos h]
theorem fileF_rest {rs : List R} {loc : Int} (h : rowsF rs = 0) : fileF rs loc = restA loc rs 0 := by unfold fileF; rw [if_neg (by simpa using h)]; rfl
/-- The rest of the files behind the first k. -/
def restF (l : List (List R)) (k : Nat) : Int := filesF k (l.drop k)
theorem restF_ok {l : List (List R)} {k : Nat} (h : k < l.length) (e : fileF l[k] k = 0) : restF l k = restF l (k + 1) := by
  unfold restF; rw [List.drop_eq_getElem_cons h, filesF, if_neg (by simpa using e)]; rfl
theorem restF_bad {l : List (List R)} {k : Nat} (h : k < l.length) (e : fileF l[k] k ≠ 0) : restF l k = fileF l[k] k := by
  unfold restF; rw [List.drop_eq_getElem_cons h, filesF, if_pos e]
theorem restF_end (l : List (List R)) : restF l l.length = 0 := by unfold restF; rw [List.drop_length]; rfl
theorem filesF_zero {l : List (List R)} (h : restF l 0 = 0) : ∀ k (hk : k < l.length), fileF l[k] k = 0 := by
  have step : ∀ k, k ≤ l.length → restF l k = 0 ∧ ∀ j (hj : j < l.length), j < k → fileF l[j] j = 0 := by
    intro k
    induction k with
    | zero => intro _; exact ⟨h, fun j _ hj => by omega⟩
    | succ k ih =>
      intro hk
      obtain ⟨h1, h2⟩ := ih (by omega)
      have hk' : k < l.length := by omega
      have e : fileF l[k] k = 0 := by
        by_cases e : fileF l[k] k = 0
        · exact e
        · rw [restF_bad hk' e] at h1; exact absurd h1 e
      refine ⟨by rw [← restF_ok hk' e]; exact h1, fun j hj hjk => ?_⟩
      by_cases ejk : j = k
      · subst ejk; exact e
      · exact h2 j hj (by omega)
  exact fun k hk => (step l.length (Nat.le_refl _)).2 k hk hk
theorem placesF_len {p : Pl} (h : p.fs.length ≠ 4) : placesF p = 2 := by unfold placesF; rw [if_pos h]
theorem placesF_mark {p : Pl} (h : p.fs.length = 4) (h2 : inB p.mark 0 999 = false) : placesF p = 3 := by unfold placesF; rw [if_neg (by simpa using h), h2]; rfl
theorem placesF_file {p : Pl} (h : p.fs.length = 4) (h2 : inB p.mark 0 999 = true) (h3 : restF p.fs 0 ≠ 0) : placesF p = restF p.fs 0 := by
  unfold placesF; rw [if_neg (by simpa using h), h2]; simp only [if_true]; exact if_pos h3
theorem placesF_many {p : Pl} (h : p.fs.length = 4) (h2 : inB p.mark 0 999 = true) (h3 : restF p.fs 0 = 0) : placesF p = if 12 < totS p.fs then 2 else 0 := by
  unfold placesF; rw [if_neg (by simpa using h), h2]; simp only [if_true]; exact if_neg (fun hn => hn h3)
theorem placesF_zero {p : Pl} (h : placesF p = 0) : p.fs.length = 4 ∧ 0 ≤ p.mark ∧ p.mark ≤ 999 ∧ (∀ k (hk : k < p.fs.length), rowsF p.fs[k] = 0 ∧ (p.fs[k]).all (solidAt k) = true) ∧ totS p.fs ≤ 12 := by
  by_cases h1 : p.fs.length = 4
  · cases h2 : inB p.mark 0 999
    · rw [placesF_mark h1 h2] at h; cases h
    · by_cases h3 : restF p.fs 0 = 0
      · rw [placesF_many h1 h2 h3] at h
        rw [inB_true] at h2
        refine ⟨h1, h2.1, h2.2, fun k hk => fileF_zero (filesF_zero h3 k hk), ?_⟩
        split at h
        · cases h
        · omega
      · rw [placesF_file h1 h2 h3] at h; exact absurd h h3
  · rw [placesF_len h1] at h; cases h
end Go.Proofs.YtldimfmhbdhbnaaGreat
