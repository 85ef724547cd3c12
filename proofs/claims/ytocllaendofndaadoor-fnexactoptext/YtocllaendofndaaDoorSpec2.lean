/-
  Contracts of the model's functions of chapter 2.
-/
import Derived.Test.YtocllaendofndaaDoorModel2
import Derived.Test.YtocllaendofndaaDoorRowHelp
namespace Go.Proofs.YtocllaendofndaaDoor
open Go.RowKit

theorem isB_ff {l s : Int} (h : inB l 0 3 = false) : isB l s = false := by simp [isB, h]
theorem isB_tt {l s : Int} (h : inB l 0 3 = true) : isB l s = inB s 1 20 := by simp [isB, h]

theorem l2Is_b (l s : Int) (b : Bool) (hb : isB l s = b) (w : World) :
    Calls Tryd.prog 71 #[.int .i64 l, .int .i64 s] w fun e w' => e = .returned (.bool b) ∧ w' = w := by
  subst hb
  cases h1 : inB l 0 3
  · rw [isB_ff h1]
    go_enter Tryd.func71, Tryd.ntmps71
    go_wp2_with ((go_at_call 70; refine (l1In_c _ _ _ _).mono ?_; rintro e w' ⟨rfl, rfl⟩; rw [h1]))
    go_ret
    exact ⟨rfl, rfl⟩
  · rw [isB_tt h1]
    have H1 := Lib.hid h1; clear h1
    go_enter Tryd.func71, Tryd.ntmps71
    go_wp2_with fail
    refine (l1In_c _ _ _ _).mono ?_
    rintro e w' ⟨rfl, rfl⟩
    rw [H1.out]
    go_wp2_with fail
    refine (l1In_c _ _ _ _).mono ?_
    rintro e w' ⟨rfl, rfl⟩
    go_wp2
    go_ret
    exact ⟨rfl, rfl⟩
/-- The four cells of a row lie from off on. -/
def RowAt (w : World) (b off : Nat) (r : R) : Prop :=
  w.cell? ⟨b, off, none⟩ = some (.int .i64 r.1) ∧ w.cell? ⟨b, off + 1, none⟩ = some (.int .i64 r.2.1) ∧ w.cell? ⟨b, off + 2, none⟩ = some (.int .i64 r.2.2.1) ∧ w.cell? ⟨b, off + 3, none⟩ = some (.int .i64 r.2.2.2)

theorem RowAt.of_rd {w : World} {rs : List R} {fp : List Nat} {b off c k : Nat} (h : Rd w 4 (.slice (some ⟨b, off, none⟩) rs.length c) (rcs rs) fp) (hk : k < rs.length) : RowAt w b (off + k * 4) rs[k] := by
  obtain ⟨b', off', e, _, _, h0, h1, h2, h3⟩ := h.row_at hk
  injection e with e; injection e with e1 e2 _; subst e1 e2
  exact ⟨h0, h1, h2, h3⟩

end Go.Proofs.YtocllaendofndaaDoor
