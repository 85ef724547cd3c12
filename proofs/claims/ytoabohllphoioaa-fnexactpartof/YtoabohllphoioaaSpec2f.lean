/-
  Contract of the model's JoinRows.
-/
import Derived.Test.YtoabohllphoioaaSpec2e
import Derived.Test.YtoabohllphoioaaApp
namespace Go.Proofs.Ytoabohllphoioaa
open Go.RowKit

theorem mergeGo_length (r : R) (rs : List R) : (mergeGo r false rs).length ≤ rs.length + 1 ∧ (mergeGo r true rs).length ≤ rs.length := by
  induction rs with
  | nil => simp [mergeGo]
  | cons x t ih =>
    unfold mergeGo
    by_cases h : keyR r < keyR x
    · simp [h]; omega
    · simp [h]; omega
theorem mergeGo_mem {r x : R} {rs : List R} {done : Bool} (h : x ∈ mergeGo r done rs) : x = r ∨ x ∈ rs := by
  induction rs generalizing done with
  | nil => unfold mergeGo at h; split at h <;> simp at h; exact .inl h
  | cons y t ih =>
    unfold mergeGo at h
    simp only [List.mem_append] at h
    rcases h with (h | h) | h
    · split at h <;> simp at h; exact .inl h
    · simp at h; simp [h]
    · rcases ih h with h | h
      · exact .inl h
      · simp [h]
theorem fits_iff {rs : List R} : Fits rs ↔ ∀ x ∈ rs, Fit x := by
  constructor
  · intro h x hx
    obtain ⟨j, hj, rfl⟩ := List.getElem_of_mem hx
    exact h j hj
  · intro h j hj; exact h _ (List.getElem_mem hj)
theorem fits_merge {rs : List R} {r : R} (h : Fits rs) (hr : Fit r) : Fits (mergeGo r false rs) := by
  rw [fits_iff] at h ⊢
  intro x hx
  rcases mergeGo_mem hx with rfl | hx
  · exact hr
  · exact h x hx

/-- What JoinRows makes of the rows of b that follow: none where one of them is taken. -/
def joinGo (a : List R) : List R → List R → Option (List R)
  | out, [] => some out
  | out, x :: t => if (getR a x.1 x.2.1).isSome then none else joinGo a (mergeGo x false out) t
theorem joinGo_at (a out b : List R) (k : Nat) (h : k < b.length) : joinGo a out (b.drop k) = if (getR a b[k].1 b[k].2.1).isSome then none else joinGo a (mergeGo b[k] false out) (b.drop (k + 1)) := by
  rw [List.drop_eq_getElem_cons h]; rfl
/-- JoinRows's code and rows. -/
def jC : Option (List R) → Int
  | none => 6
  | some o => if 12 < o.length then 2 else 0
def jrC (a b : List R) : Int := if rowsF a ≠ 0 then rowsF a else if rowsF b ≠ 0 then rowsF b else jC (joinGo a a b)
def jrL (a b : List R) : List R := if jrC a b = 0 then (joinGo a a b).getD [] else []

end Go.Proofs.Ytoabohllphoioaa
