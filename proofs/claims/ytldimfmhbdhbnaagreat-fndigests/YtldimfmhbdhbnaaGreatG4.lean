/-
  Contracts of the laws' own helpers over []uint8: the copy, the comparison, the marks and their check.
-/
import Derived.Test.YtldimfmhbdhbnaaGreatProg
import Derived.Test.YtldimfmhbdhbnaaGreatG26
import Derived.WalkSpells
import Derived.Laws.MakeOwn
import Derived.RegionTactic
import Derived.Deep.QuietTactic
import Derived.BigQuiet
import Derived.IntWalk
namespace Go.Proofs.YtldimfmhbdhbnaaGreat
open Go.RowKit

theorem infoByteS : ∃ i, Tryz.prog.info? 5 = some i ∧ i.zero = some (.int .u8 0) ∧ i.size = 1 ∧ i.bytes = 1 := by
  have h : (Tryz.prog.info? 5).map (fun i => (i.zero, i.size, i.bytes)) = some (some (.int .u8 0), 1, 1) := by kernel_rfl
  cases hi : Tryz.prog.info? 5 with
  | none => rw [hi] at h; cases h
  | some i =>
    rw [hi] at h
    simp only [Option.map_some, Option.some.injEq, Prod.mk.injEq] at h
    exact ⟨i, rfl, h.1, h.2.1, h.2.2⟩

/-- 'make' of n elements, for every world. -/
theorem makeByteS (n : Nat) (hn : n ≤ 1099511627776) (W : World) : (Instr.makeSlice 22 (.int .i64 (n : Int)) (.int .i64 (n : Int))).run Tryz.prog W = .ok (.slice (some ⟨W.heap.size, 0, none⟩) n n) (W.alloc (.cells (madeCells #[.int .u8 0] n) 5)) := by
  obtain ⟨i, hi, hz, hsz, hby⟩ := infoByteS
  have hr := run_make (P := Tryz.prog) W 22 5 i (.int .u8 0) Tryz.underlying22 hi hz .i64 .i64 n n (by omega) (by omega) (by rw [hby]; omega) (by omega)
  simp only [Int.toNat_natCast, hsz, Nat.mul_one] at hr
  exact hr

end Go.Proofs.YtldimfmhbdhbnaaGreat

/-
  Contracts of the laws' own helpers over []int64: the copy, the comparison, the marks and their check.
-/
namespace Go.Proofs.YtldimfmhbdhbnaaGreat
open Go.RowKit

theorem infoInt64S : ∃ i, Tryz.prog.info? 2 = some i ∧ i.zero = some (.int .i64 0) ∧ i.size = 1 ∧ i.bytes = 8 := by
  have h : (Tryz.prog.info? 2).map (fun i => (i.zero, i.size, i.bytes)) = some (some (.int .i64 0), 1, 8) := by kernel_rfl
  cases hi : Tryz.prog.info? 2 with
  | none => rw [hi] at h; cases h
  | some i =>
    rw [hi] at h
    simp only [Option.map_some, Option.some.injEq, Prod.mk.injEq] at h
    exact ⟨i, rfl, h.1, h.2.1, h.2.2⟩

/-- 'make' of n elements, for every world. -/
theorem makeInt64S (n : Nat) (hn : n ≤ 1099511627776) (W : World) : (Instr.makeSlice 108 (.int .i64 (n : Int)) (.int .i64 (n : Int))).run Tryz.prog W = .ok (.slice (some ⟨W.heap.size, 0, none⟩) n n) (W.alloc (.cells (madeCells #[.int .i64 0] n) 2)) := by
  obtain ⟨i, hi, hz, hsz, hby⟩ := infoInt64S
  have hr := run_make (P := Tryz.prog) W 108 2 i (.int .i64 0) Tryz.underlying108 hi hz .i64 .i64 n n (by omega) (by omega) (by rw [hby]; omega) (by omega)
  simp only [Int.toNat_natCast, hsz, Nat.mul_one] at hr
  exact hr

end Go.Proofs.YtldimfmhbdhbnaaGreat

/-
  Contracts of the laws' helpers over the results that hold a slice: comparison, marks, check.
-/
namespace Go.Proofs.YtldimfmhbdhbnaaGreat
open Go.RowKit

/-- The struct r holds a code and a slice of integers of kind K that reads as bs and lies in blocks of its own from lo on. -/
def SRes (K : IntKind) (w : World) (lo : Nat) (r : Value) (code : Int) (bs : List Int) : Prop :=
  ∃ v fp, r = .agg #[.int .i64 code, v] ∧ Rd w 1 v (cellsOf K bs) fp ∧ NF w fp ∧ From lo fp

theorem SRes.but {K : IntKind} {w w' : World} {lo : Nat} {r : Value} {code : Int} {zs : List Int} {bs : List Nat} (h : SRes K w lo r code zs) (hb : But bs w w') (hd : ∀ b ∈ bs, b < lo) : SRes K w' lo r code zs := by
  obtain ⟨v, fp, rfl, hr, hn, hf⟩ := h
  have hx : ∀ b ∈ fp, b ∉ bs := fun b hm hb' => by have := hf b hm; have := hd b hb'; omega
  exact ⟨v, fp, rfl, hr.but hb hx, hn.but hb hr.lt hx, hf⟩
theorem SRes.below {K : IntKind} {w w' : World} {lo : Nat} {r : Value} {code : Int} {zs : List Int} (h : SRes K w lo r code zs) (hb : Below w.heap.size w w') : SRes K w' lo r code zs :=
  h.but (But.of_below hb []) (fun _ hm => by cases hm)
theorem SRes.lower {K : IntKind} {w : World} {lo lo' : Nat} {r : Value} {code : Int} {zs : List Int} (h : SRes K w lo r code zs) (hl : lo' ≤ lo) : SRes K w lo' r code zs := by
  obtain ⟨v, fp, rfl, hr, hn, hf⟩ := h
  exact ⟨v, fp, rfl, hr, hn, hf.mono hl⟩

end Go.Proofs.YtldimfmhbdhbnaaGreat
