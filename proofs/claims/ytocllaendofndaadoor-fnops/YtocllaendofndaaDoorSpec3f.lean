/-
  Contracts of the model's functions of chapter 3, calls of its first chapters.
-/
import Derived.Test.YtocllaendofndaaDoorG1
import Derived.Test.YtocllaendofndaaDoorG2
import Derived.Test.YtocllaendofndaaDoorG3
import Derived.Deep.DeepCutAuto
namespace Go.Proofs.YtocllaendofndaaDoor
open Go.RowKit

theorem l1In_w (v lo hi : Int) (r : Bool) (hr : inB v lo hi = r) (w : World) :
    Calls Tryd.prog 70 #[.int .i64 v, .int .i64 lo, .int .i64 hi] w fun e w' => e = .returned (.bool r) ∧ Below w.heap.size w w' := by
  subst hr
  exact (l1In_c v lo hi w).mono fun e w' ⟨h1, h2⟩ => ⟨h1, h2 ▸ Below.refl _ _⟩
theorem l1In_same (v lo hi : Int) (r : Bool) (hr : inB v lo hi = r) (w : World) :
    Calls Tryd.prog 70 #[.int .i64 v, .int .i64 lo, .int .i64 hi] w fun e w' => e = .returned (.bool r) ∧ w = w' := by
  subst hr
  exact l1In_c v lo hi w
theorem l2Is_w (l s : Int) (r : Bool) (hr : isB l s = r) (w : World) :
    Calls Tryd.prog 71 #[.int .i64 l, .int .i64 s] w fun e w' => e = .returned (.bool r) ∧ Below w.heap.size w w' :=
  (l2Is_b l s r hr w).mono fun e w' ⟨h1, h2⟩ => ⟨h1, h2 ▸ Below.refl _ _⟩
end Go.Proofs.YtocllaendofndaaDoor
