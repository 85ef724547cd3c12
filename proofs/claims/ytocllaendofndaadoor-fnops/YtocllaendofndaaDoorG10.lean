/-
  What the package-level variables hold, through the walks: the words of the kinds, the powers of ten.
-/
import Derived.Test.YtocllaendofndaaDoorSpec3h
import Derived.Test.YtocllaendofndaaDoorG7
import Derived.Lib.LaidTab
import Derived.WalkSmall
import Derived.Lib.ItoaNum
import Derived.Test.YtocllaendofndaaDoorRows
import Derived.Stop.LaidErr
import Derived.LaidMore
namespace Go.Proofs.YtocllaendofndaaDoor
open Go.RowKit

abbrev wordsV : Array Value := #[.string ⟨#[114, 101, 99, 101, 105, 118, 101]⟩, .string ⟨#[116, 97, 107, 101]⟩, .string ⟨#[114, 101, 115, 101, 114, 118, 101]⟩, .string ⟨#[99, 111, 109, 109, 105, 116]⟩, .string ⟨#[114, 101, 108, 101, 97, 115, 101]⟩, .string ⟨#[116, 114, 97, 110, 115, 102, 101, 114]⟩, .string ⟨#[116, 105, 99, 107]⟩]
structure Ld (w : World) : Prop where
  tab : Lib.TabIs Tryd.prog w "internal/strconv.uint64pow10" .u64 Lib.pow10Tab
  wds : w.var? Tryd.prog "loop.example/g00623/impl.opWords" = some wordsV
theorem gWords : Tryd.prog.globalNamed "loop.example/g00623/impl.opWords" = some 0 := by kernel_rfl
theorem gPow : Tryd.prog.globalNamed "internal/strconv.uint64pow10" = some 1 := by kernel_rfl
theorem var_lt {P : Program} {w : World} {n : String} {g : Nat} {cs : Array Value} (hg : P.globalNamed n = some g) (h : w.var? P n = some cs) : g < w.heap.size := by
  unfold World.var? at h
  rw [hg] at h
  simp only [Option.bind_some] at h
  split at h
  · rename_i he; exact heap_lt he
  · cases h
theorem Ld.below {w w' : World} (h : Ld w) (hb : Below w.heap.size w w') : Ld w' :=
  ⟨var?_below hb gPow (var_lt gPow h.tab) h.tab, var?_below hb gWords (var_lt gWords h.wds) h.wds⟩
theorem Ld.word {w : World} (h : Ld w) {m : Nat} (hm : m < 7) : w.cell? ⟨0, m, none⟩ = some (.string ⟨(wordL ((m : Int) + 1)).toArray⟩) := by
  have hc := World.var?_cell gWords h.wds m
  rw [hc]
  have h7 : m = 0 ∨ m = 1 ∨ m = 2 ∨ m = 3 ∨ m = 4 ∨ m = 5 ∨ m = 6 := by omega
  rcases h7 with rfl | rfl | rfl | rfl | rfl | rfl | rfl <;> rfl

theorem decDigits_digits (n : Nat) : Lib.decDigits n = digits n := by
  induction n using Nat.strongRecOn with
  | _ n ih =>
    by_cases h : n < 10
    · rw [digits_small h, Lib.decDigits, dif_pos h]
      unfold dig
      rw [Nat.mod_eq_of_lt h]
    · rw [digits_big h, Lib.decDigits, dif_neg h, ih (n / 10) (by omega)]
      rfl
theorem below_grow (w : World) (k : Nat) (os : Array Obj) : Below w.heap.size w (Go.Sort.grow (w.drewN k) os) :=
  ⟨rfl, rfl, rfl, by simp [Go.Sort.grow], fun j hj => by
    show (w.heap ++ os)[j]? = w.heap[j]?
    rw [Array.getElem?_append_left hj]⟩
theorem fmt_c (n : Nat) (h : n ≤ 99999) (w : World) (hl : Ld w) : Calls Tryd.prog 39 #[.int .i64 n, .int .i64 10] w fun e w' => e = .returned (.string ⟨(digits n).toArray⟩) ∧ Below w.heap.size w w' := by
  refine (Any.strconv_FormatInt_10 Tryd.fmtInt (n : Int) (by omega) (by omega) w hl.tab).mono ?_
  rintro e w' ⟨rfl, k, os, rfl⟩
  refine ⟨?_, below_grow w k os⟩
  have : Lib.itoa (n : Int) = digits n := by
    unfold Lib.itoa
    rw [if_neg (by omega), Int.toNat_natCast, decDigits_digits]
  rw [this]
end Go.Proofs.YtocllaendofndaaDoor

/-
  From what a row lists of the package-level variables to what the walks ask.
-/
namespace Go.Proofs.YtocllaendofndaaDoor
open Go.RowKit

/-- An array of strings that reads as listed. -/
theorem cells_of_strs {H : Type} {enc : TypeId × Value → H} {P : Program} {w : World} {base : Nat} {sp : Nat → Bool} {held : Bool} {fuel : Nat} {t e : TypeId} {n : Nat} {cs : List Value} {zs : List (List UInt8)} {p : List MemPlace}
    (ht : P.underlying t = some (.array n e)) (he : P.underlying e = some .string) (hce : P.cellsOf e = 1) (hct : P.cellsOf t = n)
    (h : DataW.trod enc P w base sp held fuel t cs = some (.agg (zs.map fun z => .lit (.string z)), p)) : cs = zs.map fun z => Value.string ⟨z.toArray⟩ := by
  cases fuel with
  | zero => simp [DataW.trod] at h
  | succ fuel =>
    simp only [DataW.trod, ht, hce, hct, Nat.mul_one] at h
    split at h
    · rename_i hl
      obtain ⟨xs, hm, hx⟩ := Option.map_eq_some_iff.1 h
      have hxs : xs.map (·.1) = zs.map fun z => (DataW.lit (.string z) : DataW H) := by
        have := congrArg Prod.fst hx
        simpa using this
      have hxl : xs.length = n := by simpa using Lib.mapM_length hm
      have hzl : zs.length = n := by
        have := congrArg List.length hxs
        simp at this
        omega
      apply List.ext_getElem?
      intro i
      by_cases hi : i < n
      · obtain ⟨b, hb, hf⟩ := Lib.mapM_at hm i i (by simp [hi])
        obtain ⟨z, hc, rfl, _⟩ := DataW.trod_string he hf
        have h1 : cs[i]? = some (.string z) := by
          have := congrArg (·[0]?) hc
          simpa [List.getElem?_take, List.getElem?_drop] using this
        have h2 : (xs.map (·.1))[i]? = some (DataW.lit (.string z.data.toList) : DataW H) := by simp [hb]
        rw [hxs] at h2
        simp only [List.getElem?_map, Option.map_eq_some_iff, DataW.lit.injEq, Lit.string.injEq] at h2
        obtain ⟨z', hz', e'⟩ := h2
        simp [h1, hz', e']
      · rw [List.getElem?_eq_none (by omega), List.getElem?_eq_none (by simp; omega)]
    · cases h
theorem words_of_head {W : World} {rest : List (String × DataW Unit)} (h : laidMet Tryd.prog (("loop.example/g00623/impl.opWords", Rows.laid_loop_example_g00623_impl_opWords) :: rest) W) : W.var? Tryd.prog "loop.example/g00623/impl.opWords" = some wordsV := by
  obtain ⟨ps, ⟨g', t', cs, fuel, p, q, hg', ht', hvar, hd, _, _⟩, _⟩ := h
  obtain rfl := Option.some.inj (gWords.symm.trans hg')
  obtain rfl := Option.some.inj ((show (Tryd.prog.globals[0]?).map (·.type) = some 65 by kernel_rfl).symm.trans ht')
  rw [hvar]
  have hc := cells_of_strs (zs := [[114, 101, 99, 101, 105, 118, 101], [116, 97, 107, 101], [114, 101, 115, 101, 114, 118, 101], [99, 111, 109, 109, 105, 116], [114, 101, 108, 101, 97, 115, 101], [116, 114, 97, 110, 115, 102, 101, 114], [116, 105, 99, 107]]) Tryd.underlying65 Tryd.underlying9 (by kernel_rfl) (by kernel_rfl) hd
  congr 1
  cases cs
  simp only at hc
  rw [hc]
  rfl
theorem pow_of_head {W : World} {rest : List (String × DataW Unit)} (h : laidMet Tryd.prog (("internal/strconv.uint64pow10", Rows.laid_internal_strconv_uint64pow10) :: rest) W) : Lib.TabIs Tryd.prog W "internal/strconv.uint64pow10" .u64 Lib.pow10Tab :=
  Lib.tabIs_of_head (t := 117) (e := 103) gPow (by kernel_rfl) Tryd.underlying117 Tryd.underlying103 (by kernel_rfl) (by kernel_rfl) (rest := rest) h
end Go.Proofs.YtocllaendofndaaDoor
