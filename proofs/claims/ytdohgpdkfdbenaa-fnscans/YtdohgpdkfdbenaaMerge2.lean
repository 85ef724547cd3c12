/-
  Contracts of the model's l2Merge.
-/
import Derived.Test.YtdohgpdkfdbenaaSpec2c
namespace Go.Proofs.Ytdohgpdkfdbenaa
open Go.RowKit

/-- What is still to be appended when a row is merged among the rows that follow. -/
def mergeGo (r : R) : Bool → List R → List R
  | done, [] => if done then [] else [r]
  | done, x :: t => (if done = false ∧ keyR r < keyR x then [r] else []) ++ ([x]) ++ mergeGo r (done || decide (keyR r < keyR x)) t
theorem mergeGo_at (r : R) (done : Bool) (rs : List R) (k : Nat) (h : k < rs.length) : mergeGo r done (rs.drop k) = (if done = false ∧ keyR r < keyR rs[k] then [r] else []) ++ ([rs[k]]) ++ mergeGo r (done || decide (keyR r < keyR rs[k])) (rs.drop (k + 1)) := by
  rw [List.drop_eq_getElem_cons h]; rfl
theorem mergeGo_len (r : R) (done : Bool) (rs : List R) : (mergeGo r done rs).length ≤ 2 * rs.length + 1 := by
  induction rs generalizing done with
  | nil => unfold mergeGo; split <;> simp
  | cons x t ih =>
    unfold mergeGo
    have := ih (done || decide (keyR r < keyR x))
    have e1 : (x :: t).length = t.length + 1 := rfl
    rw [List.length_append, List.length_append, e1]
    have h1 : (if done = false ∧ keyR r < keyR x then [r] else []).length ≤ 1 := by split <;> simp
    have h2 : ([x]).length ≤ 1 := by simp
    omega

/-- The rows in which a row of another key is merged. -/
def mergeR (rs : List R) (r : R) : List R := mergeGo r false rs
end Go.Proofs.Ytdohgpdkfdbenaa
