/-
  Contracts of AddQty: the program's and the model's answer one and the same pair, for all integers.
-/
import Derived.Test.YtldimfmhbdhbnaaGreatG26
namespace Go.Proofs.YtldimfmhbdhbnaaGreat
open Go.RowKit

/-- The code and the value of AddQty. -/
def addQ (a b : Int) : Int × Int :=
  if a < 0 ∨ 9999 < a ∨ b < -9999 ∨ 9999 < b then (3, 0) else if a + b < 0 then (7, 0) else if 9999 < a + b then (8, 0) else (0, a + b)

theorem isQty_c (v : Int) (w : World) :
    Calls Tryz.prog 87 #[.int .i64 v] w fun e w' => e = .returned (.bool (inB v 0 9999)) ∧ w = w' := by
  by_cases h1 : 0 ≤ v <;> by_cases h2 : v ≤ 9999
  all_goals
    go_enter Tryz.func87, Tryz.ntmps87
    go_wp2
    go_ret
    refine ⟨?_, rfl⟩
    simp [inB, *]

theorem addQ_3a {a b : Int} (h : inB a 0 9999 = false) : addQ a b = (3, 0) := by
  rw [inB_false] at h; unfold addQ; rw [if_pos (by omega)]
theorem addQ_3b {a b : Int} (h : inB b (-9999) 9999 = false) : addQ a b = (3, 0) := by
  rw [inB_false] at h; unfold addQ; rw [if_pos (by omega)]
theorem addQ_7 {a b : Int} (h1 : inB a 0 9999 = true) (h2 : inB b (-9999) 9999 = true) (h : a + b < 0) : addQ a b = (7, 0) := by
  rw [inB_true] at h1 h2; unfold addQ; rw [if_neg (by omega), if_pos h]
theorem addQ_8 {a b : Int} (h1 : inB a 0 9999 = true) (h2 : inB b (-9999) 9999 = true) (h : 9999 < a + b) : addQ a b = (8, 0) := by
  rw [inB_true] at h1 h2; unfold addQ; rw [if_neg (by omega), if_neg (by omega), if_pos h]
theorem addQ_0 {a b : Int} (h1 : inB a 0 9999 = true) (h2 : inB b (-9999) 9999 = true) (h3 : 0 ≤ a + b) (h : a + b ≤ 9999) : addQ a b = (0, a + b) := by
  rw [inB_true] at h1 h2; unfold addQ; rw [if_neg (by omega), if_neg (by omega), if_neg (by omega)]

end Go.Proofs.YtldimfmhbdhbnaaGreat
