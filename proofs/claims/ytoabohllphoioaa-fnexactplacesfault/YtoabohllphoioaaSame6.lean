/-
  Places compared: the model's function and the program's.
-/
import Derived.Test.YtoabohllphoioaaPlacesH
import Derived.Test.YtoabohllphoioaaImpl6a
import Derived.Test.YtoabohllphoioaaImpl2b
import Derived.Shelf.Abstract
namespace Go.Proofs.Ytoabohllphoioaa
open Go.RowKit

theorem Pl.eq_iff (p q : Pl) : p = q ↔ p.mark = q.mark ∧ p.fs = q.fs := by
  constructor
  · rintro rfl; exact ⟨rfl, rfl⟩
  · obtain ⟨a, b⟩ := p; obtain ⟨c, d⟩ := q; rintro ⟨h1, h2⟩; simp at h1 h2; simp [h1, h2]
instance : DecidableEq Pl := fun p q => decidable_of_iff _ (Pl.eq_iff p q).symm
/-- The rest of two lists from k on is the same. -/
def sameFrom (a b : List (List R)) (k : Nat) : Bool := decide (a.drop k = b.drop k)
theorem sameFrom_ok {a b : List (List R)} {k : Nat} (h1 : k < a.length) (h2 : k < b.length) (e : decide (a[k] = b[k]) = true) : sameFrom a b k = sameFrom a b (k + 1) := by
  have e := of_decide_eq_true e
  unfold sameFrom; refine decide_eq_decide.2 ?_; rw [List.drop_eq_getElem_cons (l := a) h1, List.drop_eq_getElem_cons (l := b) h2, e, List.cons.injEq]; exact ⟨fun x => x.2, fun x => ⟨rfl, x⟩⟩
theorem sameFrom_bad {a b : List (List R)} {k : Nat} (h1 : k < a.length) (h2 : k < b.length) (e : decide (a[k] = b[k]) = false) : sameFrom a b k = false := by
  have e := of_decide_eq_false e
  unfold sameFrom; simp only [decide_eq_false_iff_not]; rw [List.drop_eq_getElem_cons (l := a) h1, List.drop_eq_getElem_cons (l := b) h2]; intro h; exact e (List.cons.inj h).1
theorem sameFrom_end {a b : List (List R)} (h : a.length = b.length) : sameFrom a b a.length = true := by
  unfold sameFrom; rw [List.drop_length, h, List.drop_length]; simp
theorem same_mark {p q : Pl} (h : p.mark ≠ q.mark) : decide (p = q) = false := by simp only [decide_eq_false_iff_not]; intro e; exact h (by rw [e])
theorem same_len {p q : Pl} (h : p.fs.length ≠ q.fs.length) : decide (p = q) = false := by simp only [decide_eq_false_iff_not]; intro e; exact h (by rw [e])
theorem same_rest {p q : Pl} (h : p.mark = q.mark) : decide (p = q) = sameFrom p.fs q.fs 0 := by
  unfold sameFrom; rw [List.drop_zero, List.drop_zero]; exact decide_eq_decide.2 ((Pl.eq_iff p q).trans ⟨fun x => x.2, fun x => ⟨h, x⟩⟩)

end Go.Proofs.Ytoabohllphoioaa
