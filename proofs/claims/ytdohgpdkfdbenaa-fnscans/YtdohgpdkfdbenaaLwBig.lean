/-
  The laws' test for long codes.
-/
import Derived.Test.YtdohgpdkfdbenaaProg
import Derived.Test.YtdohgpdkfdbenaaWords
import Derived.Test.YtdohgpdkfdbenaaArgs
namespace Go.Proofs.Ytdohgpdkfdbenaa
open Go.RowKit

theorem bigCode_c (A : Option Addr) (n c : Nat) (w : World) (hn : n ≤ 9223372036854775807) :
    Calls Try.prog 10 #[.slice A n c] w fun e w' => e = .returned (.bool (decide (1048576 < n))) ∧ w = w' := by
  by_cases h : 1048576 < n
  all_goals
    go_enter Try.func10, Try.ntmps10
    go_wp2
    go_ret
    refine ⟨?_, rfl⟩
    first | rfl | (simp [h]; done) | (simp; omega)
end Go.Proofs.Ytdohgpdkfdbenaa
