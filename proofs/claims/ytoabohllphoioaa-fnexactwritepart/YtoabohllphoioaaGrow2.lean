/-
  Growing nothing, and what joining lists of rows answers.
-/
import Derived.Test.YtoabohllphoioaaG22
import Derived.Test.YtoabohllphoioaaShelf2
import Derived.Test.YtoabohllphoioaaApp
namespace Go.Proofs.Ytoabohllphoioaa
open Go.RowKit

theorem zero_cells (n : Nat) : (Builtin.zeroCells (rv (0, 0, 0, 0)).cells n).size = n * 4 := by
  simp [Builtin.zeroCells, Value.cells]
/-- What growing nothing answers. -/
def GrowPost (w : World) (e : Ending) (w' : World) : Prop := ∃ v, e = .returned v ∧ w'.ownsRow w.heap.size 34 4 v 0 [] ∧ Below w.heap.size w w'
theorem grow_c (n : Nat) (hn : n ≤ 1000) (w : World) :
    Calls Try.prog 127 #[.slice none 0 0, .int .i64 n] w (GrowPost w) := by
  obtain ⟨i0, hi, hz, hsz, hby⟩ := infoRow
  rcases Nat.eq_zero_or_pos n with h0 | h0
  · subst h0
    exact (Any8.slices_Grow_room Try.growRow none 0 0 0 w (by omega) (by omega) (by omega) (by omega)).mono fun e w' ⟨he, hw⟩ => ⟨_, he, by rw [hw]; exact World.ownsRow_nil _ _ _ _, by rw [hw]; exact Below.refl _ _⟩
  · refine (Any8.slices_Grow_grow Try.growRow i0 (rv (0, 0, 0, 0)) hi hz (by omega) none 0 0 n [] w (by omega) (by omega) (by rw [hby]; omega) (by omega) (by simp) (fun _ => rfl) (fun a h => by cases h)).mono ?_
    rintro e w' ⟨he, hw⟩
    have hge := grownCap_ge w (0 + n) 0 34
    have hle := grownCap_le_maxLen w (0 + n) 0 34 (by unfold maxLen; omega)
    refine ⟨_, he, ?_, ?_⟩
    · rw [hw]
      exact World.ownsRow_made w.drew _ _ (Nat.le_refl _) hle (by rw [Array.size_append, Array.size_append, zero_cells, zero_cells]; change 0 + _ + _ = grownCap w (0 + n) 0 34 * 4; change 0 + (0 + n - 0) * 4 + (grownCap w (0 + n) 0 34 - (0 + n)) * 4 = _; omega)
    · rw [hw]
      exact (Below.refl w.heap.size w).drew.alloc (Nat.le_refl _) _

/-- What joining two lists of rows answers. -/
def ConcatPost (w : World) (L : List R) (e : Ending) (w' : World) : Prop := ∃ v, e = .returned v ∧ w'.ownsRow w.heap.size 34 4 v L.length (rcs L) ∧ Below w.heap.size w w'
end Go.Proofs.Ytoabohllphoioaa
