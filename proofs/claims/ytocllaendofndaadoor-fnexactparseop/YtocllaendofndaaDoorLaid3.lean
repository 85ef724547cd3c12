/-
  What the package-level variables hold, through the walks: the words of the kinds, the powers of ten.
-/
import Derived.Test.YtocllaendofndaaDoorSpec3h
import Derived.Test.YtocllaendofndaaDoorG7
import Derived.Lib.LaidTab
import Derived.WalkSmall
import Derived.Lib.ItoaNum
namespace Go.Proofs.YtocllaendofndaaDoor
open Go.RowKit

abbrev wordsV : Array Value := #[.string ⟨#[114, 101, 99, 101, 105, 118, 101]⟩, .string ⟨#[116, 97, 107, 101]⟩, .string ⟨#[114, 101, 115, 101, 114, 118, 101]⟩, .string ⟨#[99, 111, 109, 109, 105, 116]⟩, .string ⟨#[114, 101, 108, 101, 97, 115, 101]⟩, .string ⟨#[116, 114, 97, 110, 115, 102, 101, 114]⟩, .string ⟨#[116, 105, 99, 107]⟩]
structure Ld (w : World) : Prop where
  tab : Lib.TabIs Tryd.prog w "internal/strconv.uint64pow10" .u64 Lib.pow10Tab
  wds : w.var? Tryd.prog "loop.example/g00623/impl.opWords" = some wordsV
theorem gWords : Tryd.prog.globalNamed "loop.example/g00623/impl.opWords" = some 0 := by kernel_rfl
theorem gPow : Tryd.prog.globalNamed "internal/strconv.uint64pow10" = some 1 := by kernel_rfl
theorem var_lt {P : Program} {w : World} {n : String} {g : Nat} {cs : Array Value} (hg : P.globalNamed n = some g) (h : w.var? P n = some cs) : g < w.heap.size := by
  unfold World.var? at h
  rw [hg] at h
  simp only [Option.bind_some] at h
  split at h
  · rename_i he; exact heap_lt he
  · cases h
theorem Ld.below {w w' : World} (h : Ld w) (hb : Below w.heap.size w w') : Ld w' :=
  ⟨var?_below hb gPow (var_lt gPow h.tab) h.tab, var?_below hb gWords (var_lt gWords h.wds) h.wds⟩
theorem Ld.word {w : World} (h : Ld w) {m : Nat} (hm : m < 7) : w.cell? ⟨0, m, none⟩ = some (.string ⟨(wordL ((m : Int) + 1)).toArray⟩) := by
  have hc := World.var?_cell gWords h.wds m
  rw [hc]
  have h7 : m = 0 ∨ m = 1 ∨ m = 2 ∨ m = 3 ∨ m = 4 ∨ m = 5 ∨ m = 6 := by omega
  rcases h7 with rfl | rfl | rfl | rfl | rfl | rfl | rfl <;> rfl

theorem decDigits_digits (n : Nat) : Lib.decDigits n = digits n := by
  induction n using Nat.strongRecOn with
  | _ n ih =>
    by_cases h : n < 10
    · rw [digits_small h, Lib.decDigits, dif_pos h]
      unfold dig
      rw [Nat.mod_eq_of_lt h]
    · rw [digits_big h, Lib.decDigits, dif_neg h, ih (n / 10) (by omega)]
      rfl
theorem below_grow (w : World) (k : Nat) (os : Array Obj) : Below w.heap.size w (Go.Sort.grow (w.drewN k) os) :=
  ⟨rfl, rfl, rfl, by simp [Go.Sort.grow], fun j hj => by
    show (w.heap ++ os)[j]? = w.heap[j]?
    rw [Array.getElem?_append_left hj]⟩
theorem fmt_c (n : Nat) (h : n ≤ 99999) (w : World) (hl : Ld w) : Calls Tryd.prog 39 #[.int .i64 n, .int .i64 10] w fun e w' => e = .returned (.string ⟨(digits n).toArray⟩) ∧ Below w.heap.size w w' := by
  refine (Any.strconv_FormatInt_10 Tryd.fmtInt (n : Int) (by omega) (by omega) w hl.tab).mono ?_
  rintro e w' ⟨rfl, k, os, rfl⟩
  refine ⟨?_, below_grow w k os⟩
  have : Lib.itoa (n : Int) = digits n := by
    unfold Lib.itoa
    rw [if_neg (by omega), Int.toNat_natCast, decDigits_digits]
  rw [this]
end Go.Proofs.YtocllaendofndaaDoor
