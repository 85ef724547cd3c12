/-
  Contracts of AddQty: the program's and the model's answer one and the same pair, for all integers.
-/
import Derived.Test.YtocllaendofndaaDoorSmall
namespace Go.Proofs.YtocllaendofndaaDoor
open Go.RowKit

/-- The code and the value of AddQty. -/
def addQ (a b : Int) : Int × Int :=
  if a < 0 ∨ 9999 < a ∨ b < -9999 ∨ 9999 < b then (3, 0) else if a + b < 0 then (7, 0) else if 9999 < a + b then (8, 0) else (0, a + b)

theorem addQ_3a {a b : Int} (h : inB a 0 9999 = false) : addQ a b = (3, 0) := by
  rw [inB_false] at h; unfold addQ; rw [if_pos (by omega)]
theorem addQ_3b {a b : Int} (h : inB b (-9999) 9999 = false) : addQ a b = (3, 0) := by
  rw [inB_false] at h; unfold addQ; rw [if_pos (by omega)]
theorem addQ_7 {a b : Int} (h1 : inB a 0 9999 = true) (h2 : inB b (-9999) 9999 = true) (h : a + b < 0) : addQ a b = (7, 0) := by
  rw [inB_true] at h1 h2; unfold addQ; rw [if_neg (by omega), if_pos h]
theorem addQ_8 {a b : Int} (h1 : inB a 0 9999 = true) (h2 : inB b (-9999) 9999 = true) (h : 9999 < a + b) : addQ a b = (8, 0) := by
  rw [inB_true] at h1 h2; unfold addQ; rw [if_neg (by omega), if_neg (by omega), if_pos h]
theorem addQ_0 {a b : Int} (h1 : inB a 0 9999 = true) (h2 : inB b (-9999) 9999 = true) (h3 : 0 ≤ a + b) (h : a + b ≤ 9999) : addQ a b = (0, a + b) := by
  rw [inB_true] at h1 h2; unfold addQ; rw [if_neg (by omega), if_neg (by omega), if_neg (by omega)]

end Go.Proofs.YtocllaendofndaaDoor
