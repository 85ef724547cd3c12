/-
  The laws' test for long codes.
-/
import Derived.Test.YtoabohllphoioaaGreatProg
import Derived.Test.YtoabohllphoioaaGreatG26
import Derived.Test.YtoabohllphoioaaGreatG3
namespace Go.Proofs.YtoabohllphoioaaGreat
open Go.RowKit

theorem bigCode_c (A : Option Addr) (n c : Nat) (w : World) (hn : n ≤ 9223372036854775807) :
    Calls Tryz.prog 4 #[.slice A n c] w fun e w' => e = .returned (.bool (decide (1048576 < n))) ∧ w = w' := by
  by_cases h : 1048576 < n
  all_goals
    go_enter Tryz.func4, Tryz.ntmps4
    go_wp2
    go_ret
    refine ⟨?_, rfl⟩
    first | rfl | (simp [h]; done) | (simp; omega)
end Go.Proofs.YtoabohllphoioaaGreat
