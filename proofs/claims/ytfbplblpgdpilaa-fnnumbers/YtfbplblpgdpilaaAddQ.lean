/-
  Contracts of AddQty: the program's and the model's answer one and the same pair, for all integers.
-/
import Derived.Test.YtfbplblpgdpilaaProg
import Derived.WalkKit
import Derived.ProofKit
import Derived.Below
namespace Go.Proofs.Ytfbplblpgdpilaa
open Go.RowKit

/-- The code and the value of AddQty. -/
def addQ (a b : Int) : Int × Int :=
  if a < 0 ∨ 9999 < a ∨ b < -9999 ∨ 9999 < b then (3, 0) else if a + b < 0 then (7, 0) else if 9999 < a + b then (8, 0) else (0, a + b)

def inB (v lo hi : Int) : Bool := decide (lo ≤ v) && decide (v ≤ hi)
theorem inB_true {v lo hi : Int} : inB v lo hi = true ↔ lo ≤ v ∧ v ≤ hi := by simp [inB]
theorem inB_false {v lo hi : Int} : inB v lo hi = false ↔ v < lo ∨ hi < v := by
  rw [← Bool.not_eq_true, inB_true]; omega

theorem l1In_c (v lo hi : Int) (w : World) :
    Calls Try.prog 51 #[.int .i64 v, .int .i64 lo, .int .i64 hi] w fun e w' => e = .returned (.bool (inB v lo hi)) ∧ w = w' := by
  by_cases h1 : lo ≤ v <;> by_cases h2 : v ≤ hi
  all_goals
    go_enter Try.func51, Try.ntmps51
    go_wp2
    go_ret
    refine ⟨?_, rfl⟩
    simp [inB, *]

theorem l1Qty_c (v : Int) (w : World) :
    Calls Try.prog 55 #[.int .i64 v] w fun e w' => e = .returned (.bool (inB v 0 9999)) ∧ w = w' := by
  go_enter Try.func55, Try.ntmps55
  go_wp2_with (go_at_call 51; refine (l1In_c _ _ _ _).mono ?_; rintro e w' ⟨rfl, rfl⟩)
  go_ret
  exact ⟨rfl, rfl⟩

theorem isQty_c (v : Int) (w : World) :
    Calls Try.prog 56 #[.int .i64 v] w fun e w' => e = .returned (.bool (inB v 0 9999)) ∧ w = w' := by
  by_cases h1 : 0 ≤ v <;> by_cases h2 : v ≤ 9999
  all_goals
    go_enter Try.func56, Try.ntmps56
    go_wp2
    go_ret
    refine ⟨?_, rfl⟩
    simp [inB, *]

/-- A struct of two integers as a value. -/
abbrev pairV (p : Int × Int) : Value := .agg #[.int .i64 p.1, .int .i64 p.2]

theorem addQ_3a {a b : Int} (h : inB a 0 9999 = false) : addQ a b = (3, 0) := by
  rw [inB_false] at h; unfold addQ; rw [if_pos (by omega)]
theorem addQ_3b {a b : Int} (h : inB b (-9999) 9999 = false) : addQ a b = (3, 0) := by
  rw [inB_false] at h; unfold addQ; rw [if_pos (by omega)]
theorem addQ_7 {a b : Int} (h1 : inB a 0 9999 = true) (h2 : inB b (-9999) 9999 = true) (h : a + b < 0) : addQ a b = (7, 0) := by
  rw [inB_true] at h1 h2; unfold addQ; rw [if_neg (by omega), if_pos h]
theorem addQ_8 {a b : Int} (h1 : inB a 0 9999 = true) (h2 : inB b (-9999) 9999 = true) (h : 9999 < a + b) : addQ a b = (8, 0) := by
  rw [inB_true] at h1 h2; unfold addQ; rw [if_neg (by omega), if_neg (by omega), if_pos h]
theorem addQ_0 {a b : Int} (h1 : inB a 0 9999 = true) (h2 : inB b (-9999) 9999 = true) (h3 : 0 ≤ a + b) (h : a + b ≤ 9999) : addQ a b = (0, a + b) := by
  rw [inB_true] at h1 h2; unfold addQ; rw [if_neg (by omega), if_neg (by omega), if_neg (by omega)]

set_option maxHeartbeats 1000000 in
theorem specAddQty_c (a b : Int) (w : World) :
    Calls Try.prog 37 #[.int .i64 a, .int .i64 b] w fun e w' => e = .returned (pairV (addQ a b)) ∧ Below w.heap.size w w' := by
  cases h1 : inB a 0 9999 <;> cases h2 : inB b (-9999) 9999
  all_goals
    first
    | (have e := addQ_3a (b := b) h1)
    | (have e := addQ_3b (a := a) h2)
    | (have b1 := (inB_true.1 h1).1; have b2 := (inB_true.1 h1).2; have b3 := (inB_true.1 h2).1; have b4 := (inB_true.1 h2).2)
    go_enter Try.func37, Try.ntmps37
    go_wp2_with (first
      | (go_at_call 55; refine (l1Qty_c _ _).mono ?_; rintro e w' ⟨rfl, rfl⟩; rw [h1])
      | (go_at_call 51; refine (l1In_c _ _ _ _).mono ?_; rintro e w' ⟨rfl, rfl⟩; rw [h2]))
  all_goals
    first
    | rw [e]
    | rw [addQ_7 h1 h2 ‹_›]
    | rw [addQ_8 h1 h2 ‹_›]
    | rw [addQ_0 h1 h2 ‹_› ‹_›]
    | skip
    exact bodyPost_ret (v := pairV _) (by simp [results, Try.results37, go_sem]) rfl ⟨rfl, (Below.refl _ _).alloc (Nat.le_refl _) _⟩

set_option maxHeartbeats 1000000 in
theorem implAddQty_c (a b : Int) (w : World) :
    Calls Try.prog 38 #[.int .i64 a, .int .i64 b] w fun e w' => e = .returned (pairV (addQ a b)) ∧ Below w.heap.size w w' := by
  cases h1 : inB a 0 9999 <;> cases h2 : inB b (-9999) 9999
  all_goals
    first
    | (have e := addQ_3a (b := b) h1)
    | (have e := addQ_3b (a := a) h2; have b2 := inB_false.1 h2)
    | (have b1 := (inB_true.1 h1).1; have b2 := (inB_true.1 h1).2; have b3 := (inB_true.1 h2).1; have b4 := (inB_true.1 h2).2)
    go_enter Try.func38, Try.ntmps38
    go_wp2_with (
      (go_at_call 56; refine (isQty_c _ _).mono ?_; rintro e w' ⟨rfl, rfl⟩; rw [h1]))
  all_goals
    first
    | omega
    | (first
       | rw [e]
       | rw [addQ_7 h1 h2 ‹_›]
       | rw [addQ_8 h1 h2 ‹_›]
       | rw [addQ_0 h1 h2 ‹_› ‹_›]
       | skip
       exact bodyPost_ret (v := pairV _) (by simp [results, Try.results38, go_sem]) rfl ⟨rfl, (Below.refl _ _).alloc (Nat.le_refl _) _⟩)

theorem eqIR_c (p : Int × Int) (w : World) :
    Calls Try.prog 28 #[pairV p, pairV p] w fun e w' => e = .returned (.bool true) ∧ Below w.heap.size w w' := by
  go_enter Try.func28, Try.ntmps28
  go_wp2
  go_ret
  exact ⟨rfl, ((Below.refl _ _).alloc (Nat.le_refl _) _).alloc (by simp) _⟩
end Go.Proofs.Ytfbplblpgdpilaa
