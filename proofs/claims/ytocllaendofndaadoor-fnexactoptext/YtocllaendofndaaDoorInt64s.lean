/-
  Contracts of the laws' own helpers over []int64: the copy, the comparison, the marks and their check.
-/
import Derived.Test.YtocllaendofndaaDoorProg
import Derived.Test.YtocllaendofndaaDoorWords
import Derived.WalkSpells
import Derived.Laws.MakeOwn
import Derived.RegionTactic
import Derived.Deep.QuietTactic
import Derived.BigQuiet
import Derived.IntWalk
namespace Go.Proofs.YtocllaendofndaaDoor
open Go.RowKit

theorem infoInt64S : ∃ i, Tryd.prog.info? 2 = some i ∧ i.zero = some (.int .i64 0) ∧ i.size = 1 ∧ i.bytes = 8 := by
  have h : (Tryd.prog.info? 2).map (fun i => (i.zero, i.size, i.bytes)) = some (some (.int .i64 0), 1, 8) := by kernel_rfl
  cases hi : Tryd.prog.info? 2 with
  | none => rw [hi] at h; cases h
  | some i =>
    rw [hi] at h
    simp only [Option.map_some, Option.some.injEq, Prod.mk.injEq] at h
    exact ⟨i, rfl, h.1, h.2.1, h.2.2⟩

/-- 'make' of n elements, for every world. -/
theorem makeInt64S (n : Nat) (hn : n ≤ 1099511627776) (W : World) : (Instr.makeSlice 51 (.int .i64 (n : Int)) (.int .i64 (n : Int))).run Tryd.prog W = .ok (.slice (some ⟨W.heap.size, 0, none⟩) n n) (W.alloc (.cells (madeCells #[.int .i64 0] n) 2)) := by
  obtain ⟨i, hi, hz, hsz, hby⟩ := infoInt64S
  have hr := run_make (P := Tryd.prog) W 51 2 i (.int .i64 0) Tryd.underlying51 hi hz .i64 .i64 n n (by omega) (by omega) (by rw [hby]; omega) (by omega)
  simp only [Int.toNat_natCast, hsz, Nat.mul_one] at hr
  exact hr

end Go.Proofs.YtocllaendofndaaDoor
