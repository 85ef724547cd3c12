/-
  The model's functions of chapter 6, first part: the faults of places.
-/
import Derived.Test.YtoabohllphoioaaGreatFilesH
import Derived.Test.YtoabohllphoioaaGreatG1
namespace Go.Proofs.YtoabohllphoioaaGreat
open Go.RowKit

theorem l6Nothing_c (b off : Nat) (r : R) (w : World) (h : RowAt w b off r) :
    Calls Tryz.prog 97 #[.pointer (some ⟨b, off, none⟩)] w fun e w' => e = .returned (.bool (emptyB r)) ∧ w = w' := by
  obtain ⟨c0, c1, c2, c3⟩ := h
  obtain ⟨l, s, h, d⟩ := r
  simp only at c0 c1 c2 c3
  by_cases h1 : h = 0 <;> by_cases h2 : d = 0
  all_goals
    go_enter Tryz.func97, Tryz.ntmps97
    go_wp2
    go_ret
    exact ⟨by simp [emptyB, h1, h2], rfl⟩

end Go.Proofs.YtoabohllphoioaaGreat

/-
  The model's functions of chapter 6, second part: the fault of places.
-/
namespace Go.Proofs.YtoabohllphoioaaGreat
open Go.RowKit

/-- The two cells of places in a block. -/
structure PlBox (w : World) (g : Nat) (v : Value) (mk : Int) : Prop where
  c0 : w.cell? ⟨g, 0, none⟩ = some v
  c1 : w.cell? ⟨g, 1, none⟩ = some (.int .i64 mk)
  lt : g < w.heap.size
theorem PlBox.below {w w' : World} {g B : Nat} {v : Value} {mk : Int} (h : PlBox w g v mk) (hb : Below B w w') (hg : g < B) : PlBox w' g v mk :=
  ⟨(hb.cell (p := ⟨g, 0, none⟩) hg).trans h.c0, (hb.cell (p := ⟨g, 1, none⟩) hg).trans h.c1, Nat.lt_of_lt_of_le h.lt hb.size⟩

end Go.Proofs.YtoabohllphoioaaGreat
