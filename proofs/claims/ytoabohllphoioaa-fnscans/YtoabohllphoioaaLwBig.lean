/-
  The laws' test for long codes.
-/
import Derived.Test.YtoabohllphoioaaProg
import Derived.Test.YtoabohllphoioaaWords
import Derived.Test.YtoabohllphoioaaArgs
namespace Go.Proofs.Ytoabohllphoioaa
open Go.RowKit

theorem bigCode_c (A : Option Addr) (n c : Nat) (w : World) (hn : n ≤ 9223372036854775807) :
    Calls Try.prog 15 #[.slice A n c] w fun e w' => e = .returned (.bool (decide (1048576 < n))) ∧ w = w' := by
  by_cases h : 1048576 < n
  all_goals
    go_enter Try.func15, Try.ntmps15
    go_wp2
    go_ret
    refine ⟨?_, rfl⟩
    first | rfl | (simp [h]; done) | (simp; omega)
end Go.Proofs.Ytoabohllphoioaa
