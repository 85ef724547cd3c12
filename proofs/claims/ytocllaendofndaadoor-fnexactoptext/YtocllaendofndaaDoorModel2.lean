/-
  Chapter 2 as plain functions on lists of rows.
-/
import Derived.Test.YtocllaendofndaaDoorSmall
import Derived.Test.YtocllaendofndaaDoorRows4
namespace Go.Proofs.YtocllaendofndaaDoor

def isB (l s : Int) : Bool := inB l 0 3 && inB s 1 20
def keyR (r : R) : Int := 21 * r.1 + r.2.1
/-- The code of a row. -/
def rowF (r : R) : Int := if isB r.1 r.2.1 && inB r.2.2.1 0 9999 && inB r.2.2.2 0 9999 then (if r.2.2.1 < r.2.2.2 then 7 else 0) else 3
theorem rowF_zero {r : R} (h : rowF r = 0) : 0 ≤ r.1 ∧ r.1 ≤ 3 ∧ 1 ≤ r.2.1 ∧ r.2.1 ≤ 20 ∧ 0 ≤ r.2.2.1 ∧ r.2.2.1 ≤ 9999 ∧ 0 ≤ r.2.2.2 ∧ r.2.2.2 ≤ r.2.2.1 := by
  unfold rowF at h
  split at h
  · rename_i hh
    simp only [Bool.and_eq_true, isB, inB_true] at hh
    split at h
    · omega
    · omega
  · omega
/-- A place and a thing in range. -/
def Fit (r : R) : Prop := 0 ≤ r.1 ∧ r.1 ≤ 3 ∧ 1 ≤ r.2.1 ∧ r.2.1 ≤ 20
def Fits (rs : List R) : Prop := ∀ j (h : j < rs.length), Fit rs[j]
theorem fit_of_rowF {r : R} (h : rowF r = 0) : Fit r := by have := rowF_zero h; unfold Fit; omega
/-- A row with nothing. -/
def emptyB (r : R) : Bool := (r.2.2.1 == 0) && (r.2.2.2 == 0)
/-- The code of the rows behind a key (none at the beginning). -/
def scanF : Option Int → List R → Int
  | _, [] => 0
  | p, r :: t => if rowF r ≠ 0 then rowF r else if (p.map fun k => decide (keyR r ≤ k)) = some true then 1 else scanF (some (keyR r)) t
/-- The code of a list of rows. -/
def rowsF (rs : List R) : Int := if 12 < rs.length then 2 else scanF none rs
/-- The key ahead of the k-th row. -/
def prevK (rs : List R) (k : Nat) : Option Int := if k = 0 then none else (rs[k - 1]?).map keyR
theorem prevK_succ (rs : List R) (k : Nat) (h : k < rs.length) : prevK rs (k + 1) = some (keyR rs[k]) := by
  unfold prevK; rw [if_neg (by omega), Nat.add_sub_cancel, List.getElem?_eq_getElem h]; rfl
theorem scanF_at (rs : List R) (k : Nat) (h : k < rs.length) : scanF (prevK rs k) (rs.drop k) = if rowF rs[k] ≠ 0 then rowF rs[k] else if ((prevK rs k).map fun q => decide (keyR rs[k] ≤ q)) = some true then 1 else scanF (prevK rs (k + 1)) (rs.drop (k + 1)) := by
  rw [List.drop_eq_getElem_cons h, scanF, prevK_succ rs k h]
theorem scanF_fits : ∀ (p : Option Int) (rs : List R), scanF p rs = 0 → ∀ j (h : j < rs.length), rowF rs[j] = 0 := by
  intro p rs
  induction rs generalizing p with
  | nil => intro _ j h; simp at h
  | cons r t ih =>
    intro h j hj
    unfold scanF at h
    by_cases h0 : rowF r = 0
    · rw [if_neg (by simpa using h0)] at h
      by_cases h1 : (p.map fun k => decide (keyR r ≤ k)) = some true
      · rw [if_pos h1] at h; cases h
      · rw [if_neg h1] at h
        match j, hj with
        | 0, _ => exact h0
        | j + 1, hj => exact ih _ h j (by simpa using hj)
    · rw [if_pos h0] at h; exact absurd h h0
theorem rowsF_fits {rs : List R} (h : rowsF rs = 0) : Fits rs ∧ rs.length ≤ 12 := by
  unfold rowsF at h
  split at h
  · cases h
  · exact ⟨fun j hj => fit_of_rowF (scanF_fits none rs h j hj), by omega⟩
end Go.Proofs.YtocllaendofndaaDoor
