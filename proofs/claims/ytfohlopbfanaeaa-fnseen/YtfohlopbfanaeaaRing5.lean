/-
  The program's ring of the latest requests: an array of six, the first place, the count.
-/
import Derived.Test.YtfohlopbfanaeaaImpl5a
import Derived.WalkMore
import Derived.ScopeJumps
namespace Go.Proofs.Ytfohlopbfanaeaa
open Go.RowKit

/-- The i-th of a list, two zeros behind its end. -/
def at6 (l : List Sn) (i : Nat) : Sn := l.getD i ⟨0, 0⟩
/-- A ring's fourteen cells. -/
abbrev rgcs (l : List Sn) (f c : Int) : Array Value := #[.int .i64 (at6 l 0).rq, .int .i64 (at6 l 0).vl, .int .i64 (at6 l 1).rq, .int .i64 (at6 l 1).vl, .int .i64 (at6 l 2).rq, .int .i64 (at6 l 2).vl, .int .i64 (at6 l 3).rq, .int .i64 (at6 l 3).vl, .int .i64 (at6 l 4).rq, .int .i64 (at6 l 4).vl, .int .i64 (at6 l 5).rq, .int .i64 (at6 l 5).vl, .int .i64 f, .int .i64 c]
abbrev rgv (l : List Sn) (f c : Int) : Value := .agg (rgcs l f c)
abbrev rgbox (l : List Sn) (f c : Int) : Obj := .cells (rgcs l f c) 114

set_option maxRecDepth 100000 in
set_option maxHeartbeats 1000000 in
theorem slot_c (l : List Sn) (f c i : Int) (w : World) (hf : 0 ≤ f) (hf5 : f ≤ 5) (hi : 0 ≤ i) (hi6 : i ≤ 6) :
    Calls Try.prog 105 #[rgv l f c, .int .i64 i] w fun e w' => e = .returned (.int .i64 (if f + i < 6 then f + i else f + i - 6)) ∧ w' = w.alloc (rgbox l f c) := by
  generalize at6 l 0 = a0
  generalize at6 l 1 = a1
  generalize at6 l 2 = a2
  generalize at6 l 3 = a3
  generalize at6 l 4 = a4
  generalize at6 l 5 = a5
  by_cases hlt : f + i < 6
  · rw [if_pos hlt]
    go_enter Try.func105, Try.ntmps105
    go_wp2
    go_step3
    go_wp2
    go_step3
    go_wp2
    rw [Exit.noGoto_ret]
    go_ret
    exact ⟨rfl, rfl⟩
  · rw [if_neg hlt]
    have hlt6 : f + i - 6 < 6 := by omega
    go_enter Try.func105, Try.ntmps105
    go_wp2
    refine wp_scope_jumps 0 (fun a' w' => w' = w.alloc (rgbox l f c) ∧ a' = { tmps := #[rgv l f c, .int .i64 i, .pointer (some ⟨w.heap.size, 0, none⟩), undef, .int .i64 0, .int .i64 (f + i - 6), .pointer (some ⟨w.heap.size, 12, none⟩), .int .i64 f, .int .i64 i, .int .i64 (f + i), .int .i64 (f + i), .bool true, .int .i64 (f + i), .int .i64 (f + i - 6), undef], defers := [] }) (fun a' _ => (intOf (a'.tmps.getD 5 undef)).toNat) rfl ?_ ?_
    · go_wp2
      go_step3
      go_wp2
      go_step3
      exact ⟨rfl, rfl, rfl⟩
    · rintro a' w' ⟨rfl, rfl⟩
      go_wp2
      simp only [Exit.jump]
      go_ret
      exact ⟨rfl, rfl⟩

theorem at6_snoc (l : List Sn) (x : Sn) (i : Nat) : at6 (l ++ [x]) i = if i = l.length then x else at6 l i := by
  unfold at6
  rw [List.getD_eq_getElem?_getD, List.getD_eq_getElem?_getD]
  by_cases h : i < l.length
  · rw [List.getElem?_append_left h, if_neg (by omega)]
  · rw [List.getElem?_append_right (by omega)]
    by_cases e : i = l.length
    · subst e; simp
    · rw [if_neg e, List.getElem?_eq_none (by simp; omega), List.getElem?_eq_none (by omega)]
end Go.Proofs.Ytfohlopbfanaeaa
