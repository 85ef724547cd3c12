/-
  Small whole numbers as floats: equal just where the numbers are. Plain.
-/
import Derived.WalkKit
import Derived.WalkLawsBesides
namespace Go.Proofs.Ytldimfmhbdhbnaa

/-- The word of a whole number. -/
abbrev flo (n : Int) : Nat := floatOfInt .f64 n
theorem dbl_least : Ieee.double.leastPlace = -1074 := by decide
theorem dbl_binade : Ieee.double.binade = 2 ^ 52 := rfl
theorem dbl_frac : Ieee.double.fractionBits = 52 := rfl
theorem dbl_inf : Ieee.double.infRung = 2047 * 2 ^ 52 := rfl
theorem dbl_sign : Ieee.double.signWeight = 2 ^ 63 := rfl
theorem cut_whole (n : Nat) : Ieee.Toward.even.cut false n 0 = n := by
  unfold Ieee.Toward.cut
  simp [Nat.mod_one]
theorem near_zero : Ieee.double.nearest false 0 0 = 0 := by decide
theorem log2_small {n : Nat} (h0 : 0 < n) (h1 : n < 2 ^ 17) : n.log2 ≤ 16 ∧ 2 ^ n.log2 ≤ n ∧ n < 2 ^ (n.log2 + 1) := by
  have hl := (Nat.log2_lt (k := 17) (Nat.pos_iff_ne_zero.1 h0)).2 h1
  exact ⟨by omega, Nat.log2_self_le (Nat.pos_iff_ne_zero.1 h0), Nat.lt_log2_self⟩
theorem kept_bd {n : Nat} (h0 : 0 < n) (h1 : n < 2 ^ 17) : 2 ^ 52 ≤ n * 2 ^ (52 - n.log2) ∧ n * 2 ^ (52 - n.log2) < 2 ^ 53 := by
  obtain ⟨hl, ha, hb⟩ := log2_small h0 h1
  generalize n.log2 = e at *
  have e1 : 2 ^ e * 2 ^ (52 - e) = 2 ^ 52 := by rw [← Nat.pow_add]; congr 1; omega
  have e2 : 2 ^ (e + 1) * 2 ^ (52 - e) = 2 ^ 53 := by rw [← Nat.pow_add]; congr 1; omega
  exact ⟨e1 ▸ Nat.mul_le_mul_right _ ha, e2 ▸ Nat.mul_lt_mul_of_pos_right hb (Nat.pow_pos (by omega))⟩
theorem near_pos {n : Nat} (h0 : 0 < n) (h1 : n < 2 ^ 17) : Ieee.double.nearest false n 0 = (n.log2 + 1022) * 2 ^ 52 + n * 2 ^ (52 - n.log2) := by
  obtain ⟨hl, _, _⟩ := log2_small h0 h1
  obtain ⟨k1, k2⟩ := kept_bd h0 h1
  unfold Ieee.Format.nearest
  rw [if_neg (by omega), dbl_least, dbl_binade, dbl_frac, dbl_inf]
  have e1 : max ((0 : Int) + (n.log2 : Int) - ((52 : Nat) : Int)) (-1074) = (n.log2 : Int) - 52 := by omega
  simp only [e1]
  have e2 : ((n.log2 : Int) - 52 - 0).toNat = 0 := by omega
  have e3 : ((0 : Int) - ((n.log2 : Int) - 52)).toNat = 52 - n.log2 := by omega
  have e4 : ((n.log2 : Int) - 52 - -1074).toNat = n.log2 + 1022 := by omega
  rw [e2, e3, e4, cut_whole, Nat.shiftLeft_eq]
  generalize n * 2 ^ (52 - n.log2) = q at *
  generalize n.log2 = e at *
  unfold Ieee.Format.word
  rw [if_neg (by simp)]
  omega
theorem read_pos {n : Nat} (h0 : 0 < n) (h1 : n < 2 ^ 17) : Ieee.double.read (Ieee.double.nearest false n 0) = .number false (n * 2 ^ (52 - n.log2)) ((n.log2 : Int) - 52) := by
  obtain ⟨hl, _, _⟩ := log2_small h0 h1
  obtain ⟨k1, k2⟩ := kept_bd h0 h1
  rw [near_pos h0 h1]
  unfold Ieee.Format.read
  rw [dbl_least, dbl_binade, dbl_inf, dbl_sign]
  generalize n * 2 ^ (52 - n.log2) = q at *
  generalize n.log2 = e at *
  have e1 : ((e + 1022) * 2 ^ 52 + q) / 2 ^ 63 = 0 := by omega
  have e2 : ((e + 1022) * 2 ^ 52 + q) % 2 ^ 63 = (e + 1022) * 2 ^ 52 + q := by omega
  simp only [e1, e2]
  rw [if_neg (by omega), if_pos (by omega)]
  have e3 : 2 ^ 52 + ((e + 1022) * 2 ^ 52 + q) % 2 ^ 52 = q := by omega
  have e4 : ((e + 1022) * 2 ^ 52 + q) / 2 ^ 52 - 1 = e + 1022 := by omega
  rw [e3, e4]
  simp only [Ieee.Datum.number.injEq]
  refine ⟨by decide, trivial, by omega⟩
theorem read_zero : Ieee.double.read (Ieee.double.nearest false 0 0) = .number false 0 (-1074) := by decide
theorem flo_nat (n : Nat) : flo n = Ieee.double.nearest false n 0 := by
  show FloatKind.nearest .f64 (n : Int) = _
  unfold FloatKind.nearest FloatKind.encode FloatKind.format Ieee.Format.write
  have e : decide ((n : Int) < 0) = false := by simp
  rw [e, Int.natAbs_natCast]
theorem cmp_eq (a b : Int) : ((some (compare a b)) == some Ordering.eq) = decide (a = b) := by
  by_cases h : a = b
  · subst h
    have : compare a a = .eq := Std.ReflCmp.compare_self
    rw [this]; simp
  · have : compare a b ≠ .eq := fun e => h (Std.LawfulEqCmp.eq_of_compare e)
    rw [decide_eq_false h]
    cases hc : compare a b
    · rfl
    · exact absurd hc this
    · rfl
theorem order_num (m k : Nat) (i j : Int) : (((Ieee.Datum.number false m i).order (Ieee.Datum.number false k j)) == some .eq) = decide (m * 2 ^ (i - min i j).toNat = k * 2 ^ (j - min i j).toNat) := by
  unfold Ieee.Datum.order
  simp only
  rw [cmp_eq]
  unfold Ieee.signed
  simp only [Bool.false_eq_true, if_false, Nat.shiftLeft_eq]
  rw [decide_eq_decide]
  omega
theorem flo_eq (a b : Int) (h0 : 0 ≤ a) (h1 : a ≤ 65520) (h2 : 0 ≤ b) (h3 : b ≤ 65520) : (FloatKind.f64.format.order (flo a) (flo b) == some .eq) = decide (a = b) := by
  obtain ⟨n, rfl⟩ := Int.eq_ofNat_of_zero_le h0
  obtain ⟨m, rfl⟩ := Int.eq_ofNat_of_zero_le h2
  rw [flo_nat, flo_nat]
  show ((Ieee.double.read _).order (Ieee.double.read _) == some .eq) = _
  have pn : n < 2 ^ 17 := by omega
  have pm : m < 2 ^ 17 := by omega
  by_cases hn : n = 0 <;> by_cases hm : m = 0
  · subst hn; subst hm; decide
  · subst hn
    rw [read_zero, read_pos (by omega) pm, order_num]
    have hp : 0 < m * 2 ^ (52 - m.log2) := Nat.mul_pos (by omega) (Nat.pow_pos (by omega))
    rw [decide_eq_decide]
    have hq := Nat.mul_pos hp (Nat.pow_pos (n := ((m.log2 : Int) - 52 - min (-1074) ((m.log2 : Int) - 52)).toNat) (show 0 < 2 by omega))
    rw [Nat.zero_mul]
    omega
  · subst hm
    rw [read_zero, read_pos (by omega) pn, order_num]
    have hp : 0 < n * 2 ^ (52 - n.log2) := Nat.mul_pos (by omega) (Nat.pow_pos (by omega))
    rw [decide_eq_decide]
    have hq := Nat.mul_pos hp (Nat.pow_pos (n := ((n.log2 : Int) - 52 - min ((n.log2 : Int) - 52) (-1074)).toNat) (show 0 < 2 by omega))
    rw [Nat.zero_mul]
    omega
  · rw [read_pos (by omega) pn, read_pos (by omega) pm, order_num]
    obtain ⟨hl, _, _⟩ := log2_small (by omega : 0 < n) pn
    obtain ⟨hl2, _, _⟩ := log2_small (by omega : 0 < m) pm
    rw [Nat.mul_assoc, Nat.mul_assoc, ← Nat.pow_add, ← Nat.pow_add]
    have e1 : 52 - n.log2 + ((n.log2 : Int) - 52 - min ((n.log2 : Int) - 52) ((m.log2 : Int) - 52)).toNat = 52 - min n.log2 m.log2 := by omega
    have e2 : 52 - m.log2 + ((m.log2 : Int) - 52 - min ((n.log2 : Int) - 52) ((m.log2 : Int) - 52)).toNat = 52 - min n.log2 m.log2 := by omega
    rw [e1, e2, decide_eq_decide]
    have hp : 0 < 2 ^ (52 - min n.log2 m.log2) := Nat.pow_pos (by omega)
    constructor
    · intro h; have := Nat.eq_of_mul_eq_mul_right hp h; omega
    · intro h; have : n = m := by omega
      rw [this]
end Go.Proofs.Ytldimfmhbdhbnaa
