/-
  Contracts of the model's draws of chapter 2: lists of rows that may be wrong.
-/
import Derived.Test.YtoabohllphoioaaDraw2c
namespace Go.Proofs.Ytoabohllphoioaa
open Go.RowKit

theorem own_lift {w : World} {B lo size n : Nat} {e : TypeId} {v : Value} {xs : List Value} (h : w.ownsRow B e size v n xs) (hlo : lo ≤ B) (hs : lo ≤ w.heap.size) : ∃ B', lo ≤ B' ∧ B' ≤ w.heap.size ∧ w.ownsRow B' e size v n xs := by
  rcases h.2 with h0 | ⟨g, cap, cur, h1, h2, h3, h4⟩
  · exact ⟨lo, Nat.le_refl _, hs, h.1, .inl h0⟩
  · exact ⟨B, hlo, by have := heap_lt h3; omega, h⟩
theorem made13 : madeCells (rv (0, 0, 0, 0)).cells 52 = (rcs (List.replicate 13 (0, 0, 0, 0))).toArray := by
  have := partR_zero (List.replicate 13 (0, 0, 0, 0))
  simpa [partR] using this.symm

end Go.Proofs.Ytoabohllphoioaa
