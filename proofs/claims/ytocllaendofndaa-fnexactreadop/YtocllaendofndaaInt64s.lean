/-
  Contracts of the laws' own helpers over []int64: the copy, the comparison, the marks and their check.
-/
import Derived.Test.YtocllaendofndaaProg
import Derived.Test.YtocllaendofndaaWords
import Derived.WalkSpells
import Derived.Laws.MakeOwn
import Derived.RegionTactic
import Derived.Deep.QuietTactic
import Derived.BigQuiet
import Derived.IntWalk
namespace Go.Proofs.Ytocllaendofndaa
open Go.RowKit

theorem infoInt64S : ∃ i, Try.prog.info? 2 = some i ∧ i.zero = some (.int .i64 0) ∧ i.size = 1 ∧ i.bytes = 8 := ⟨_, rfl, rfl, rfl, rfl⟩

/-- 'make' of n elements, for every world. -/
theorem makeInt64S (n : Nat) (hn : n ≤ 1099511627776) (W : World) : (Instr.makeSlice 51 (.int .i64 (n : Int)) (.int .i64 (n : Int))).run Try.prog W = .ok (.slice (some ⟨W.heap.size, 0, none⟩) n n) (W.alloc (.cells (madeCells #[.int .i64 0] n) 2)) := by
  obtain ⟨i, hi, hz, hsz, hby⟩ := infoInt64S
  have hr := run_make (P := Try.prog) W 51 2 i (.int .i64 0) Try.underlying51 hi hz .i64 .i64 n n (by omega) (by omega) (by rw [hby]; omega) (by omega)
  simp only [Int.toNat_natCast, hsz, Nat.mul_one] at hr
  exact hr

end Go.Proofs.Ytocllaendofndaa
