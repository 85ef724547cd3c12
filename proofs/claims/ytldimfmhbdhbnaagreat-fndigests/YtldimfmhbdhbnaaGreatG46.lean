/-
  Small whole numbers as floats: equal just where the numbers are. Plain.
-/
import Derived.WalkKit
import Derived.WalkLawsBesides
import Derived.Test.YtldimfmhbdhbnaaGreatG35
import Derived.Test.YtldimfmhbdhbnaaGreatG42
import Derived.Test.YtldimfmhbdhbnaaGreatG47
namespace Go.Proofs.YtldimfmhbdhbnaaGreat

/-- The word of a whole number. -/
abbrev flo (n : Int) : Nat := floatOfInt .f64 n
theorem dbl_least : Ieee.double.leastPlace = -1074 := by decide
theorem dbl_binade : Ieee.double.binade = 2 ^ 52 := rfl
theorem dbl_frac : Ieee.double.fractionBits = 52 := rfl
theorem dbl_inf : Ieee.double.infRung = 2047 * 2 ^ 52 := rfl
theorem dbl_sign : Ieee.double.signWeight = 2 ^ 63 := rfl
theorem cut_whole (n : Nat) : Ieee.Toward.even.cut false n 0 = n := by
  unfold Ieee.Toward.cut
  simp [Nat.mod_one]
theorem near_zero : Ieee.double.nearest false 0 0 = 0 := by decide
theorem log2_small {n : Nat} (h0 : 0 < n) (h1 : n < 2 ^ 17) : n.log2 ≤ 16 ∧ 2 ^ n.log2 ≤ n ∧ n < 2 ^ (n.log2 + 1) := by
  have hl := (Nat.log2_lt (k := 17) (Nat.pos_iff_ne_zero.1 h0)).2 h1
  exact ⟨by omega, Nat.log2_self_le (Nat.pos_iff_ne_zero.1 h0), Nat.lt_log2_self⟩
theorem kept_bd {n : Nat} (h0 : 0 < n) (h1 : n < 2 ^ 17) : 2 ^ 52 ≤ n * 2 ^ (52 - n.log2) ∧ n * 2 ^ (52 - n.log2) < 2 ^ 53 := by
  obtain ⟨hl, ha, hb⟩ := log2_small h0 h1
  generalize n.log2 = e at *
  have e1 : 2 ^ e * 2 ^ (52 - e) = 2 ^ 52 := by rw [← Nat.pow_add]; congr 1; omega
  have e2 : 2 ^ (e + 1) * 2 ^ (52 - e) = 2 ^ 53 := by rw [← Nat.pow_add]; congr 1; omega
  exact ⟨e1 ▸ Nat.mul_le_mul_right _ ha, e2 ▸ Nat.mul_lt_mul_of_pos_right hb (Nat.pow_pos (by omega))⟩
theorem near_pos {n : Nat} (h0 : 0 < n) (h1 : n < 2 ^ 17) : Ieee.double.nearest false n 0 = (n.log2 + 1022) * 2 ^ 52 + n * 2 ^ (52 - n.log2) := by
  obtain ⟨hl, _, _⟩ := log2_small h0 h1
  obtain ⟨k1, k2⟩ := kept_bd h0 h1
  unfold Ieee.Format.nearest
  rw [if_neg (by omega), dbl_least, dbl_binade, dbl_frac, dbl_inf]
  have e1 : max ((0 : Int) + (n.log2 : Int) - ((52 : Nat) : Int)) (-1074) = (n.log2 : Int) - 52 := by omega
  simp only [e1]
  have e2 : ((n.log2 : Int) - 52 - 0).toNat = 0 := by omega
  have e3 : ((0 : Int) - ((n.log2 : Int) - 52)).toNat = 52 - n.log2 := by omega
  have e4 : ((n.log2 : Int) - 52 - -1074).toNat = n.log2 + 1022 := by omega
  rw [e2, e3, e4, cut_whole, Nat.shiftLeft_eq]
  generalize n * 2 ^ (52 - n.log2) = q at *
  generalize n.log2 = e at *
  unfold Ieee.Format.word
  rw [if_neg (by simp)]
  omega
theorem read_pos {n : Nat} (h0 : 0 < n) (h1 : n < 2 ^ 17) : Ieee.double.read (Ieee.double.nearest false n 0) = .number false (n * 2 ^ (52 - n.log2)) ((n.log2 : Int) - 52) := by
  obtain ⟨hl, _, _⟩ := log2_small h0 h1
  obtain ⟨k1, k2⟩ := kept_bd h0 h1
  rw [near_pos h0 h1]
  unfold Ieee.Format.read
  rw [dbl_least, dbl_binade, dbl_inf, dbl_sign]
  generalize n * 2 ^ (52 - n.log2) = q at *
  generalize n.log2 = e at *
  have e1 : ((e + 1022) * 2 ^ 52 + q) / 2 ^ 63 = 0 := by omega
  have e2 : ((e + 1022) * 2 ^ 52 + q) % 2 ^ 63 = (e + 1022) * 2 ^ 52 + q := by omega
  simp only [e1, e2]
  rw [if_neg (by omega), if_pos (by omega)]
  have e3 : 2 ^ 52 + ((e + 1022) * 2 ^ 52 + q) % 2 ^ 52 = q := by omega
  have e4 : ((e + 1022) * 2 ^ 52 + q) / 2 ^ 52 - 1 = e + 1022 := by omega
  rw [e3, e4]
  simp only [Ieee.Datum.number.injEq]
  refine ⟨by decide, trivial, by omega⟩
theorem read_zero : Ieee.double.read (Ieee.double.nearest false 0 0) = .number false 0 (-1074) := by decide
theorem flo_nat (n : Nat) : flo n = Ieee.double.nearest false n 0 := by
  show FloatKind.nearest .f64 (n : Int) = _
  unfold FloatKind.nearest FloatKind.encode FloatKind.format Ieee.Format.write
  have e : decide ((n : Int) < 0) = false := by simp
  rw [e, Int.natAbs_natCast]
theorem cmp_eq (a b : Int) : ((some (compare a b)) == some Ordering.eq) = decide (a = b) := by
  by_cases h : a = b
  · subst h
    have : compare a a = .eq := Std.ReflCmp.compare_self
    rw [this]; simp
  · have : compare a b ≠ .eq := fun e => h (Std.LawfulEqCmp.eq_of_compare e)
    rw [decide_eq_false h]
    cases hc : compare a b
    · rfl
    · exact absurd hc this
    · rfl
theorem order_num (m k : Nat) (i j : Int) : (((Ieee.Datum.number false m i).order (Ieee.Datum.number false k j)) == some .eq) = decide (m * 2 ^ (i - min i j).toNat = k * 2 ^ (j - min i j).toNat) := by
  unfold Ieee.Datum.order
  simp only
  rw [cmp_eq]
  unfold Ieee.signed
  simp only [Bool.false_eq_true, if_false, Nat.shiftLeft_eq]
  rw [decide_eq_decide]
  omega
theorem flo_eq (a b : Int) (h0 : 0 ≤ a) (h1 : a ≤ 65520) (h2 : 0 ≤ b) (h3 : b ≤ 65520) : (FloatKind.f64.format.order (flo a) (flo b) == some .eq) = decide (a = b) := by
  obtain ⟨n, rfl⟩ := Int.eq_ofNat_of_zero_le h0
  obtain ⟨m, rfl⟩ := Int.eq_ofNat_of_zero_le h2
  rw [flo_nat, flo_nat]
  show ((Ieee.double.read _).order (Ieee.double.read _) == some .eq) = _
  have pn : n < 2 ^ 17 := by omega
  have pm : m < 2 ^ 17 := by omega
  by_cases hn : n = 0 <;> by_cases hm : m = 0
  · subst hn; subst hm; decide
  · subst hn
    rw [read_zero, read_pos (by omega) pm, order_num]
    have hp : 0 < m * 2 ^ (52 - m.log2) := Nat.mul_pos (by omega) (Nat.pow_pos (by omega))
    rw [decide_eq_decide]
    have hq := Nat.mul_pos hp (Nat.pow_pos (n := ((m.log2 : Int) - 52 - min (-1074) ((m.log2 : Int) - 52)).toNat) (show 0 < 2 by omega))
    rw [Nat.zero_mul]
    omega
  · subst hm
    rw [read_zero, read_pos (by omega) pn, order_num]
    have hp : 0 < n * 2 ^ (52 - n.log2) := Nat.mul_pos (by omega) (Nat.pow_pos (by omega))
    rw [decide_eq_decide]
    have hq := Nat.mul_pos hp (Nat.pow_pos (n := ((n.log2 : Int) - 52 - min ((n.log2 : Int) - 52) (-1074)).toNat) (show 0 < 2 by omega))
    rw [Nat.zero_mul]
    omega
  · rw [read_pos (by omega) pn, read_pos (by omega) pm, order_num]
    obtain ⟨hl, _, _⟩ := log2_small (by omega : 0 < n) pn
    obtain ⟨hl2, _, _⟩ := log2_small (by omega : 0 < m) pm
    rw [Nat.mul_assoc, Nat.mul_assoc, ← Nat.pow_add, ← Nat.pow_add]
    have e1 : 52 - n.log2 + ((n.log2 : Int) - 52 - min ((n.log2 : Int) - 52) ((m.log2 : Int) - 52)).toNat = 52 - min n.log2 m.log2 := by omega
    have e2 : 52 - m.log2 + ((m.log2 : Int) - 52 - min ((n.log2 : Int) - 52) ((m.log2 : Int) - 52)).toNat = 52 - min n.log2 m.log2 := by omega
    rw [e1, e2, decide_eq_decide]
    have hp : 0 < 2 ^ (52 - min n.log2 m.log2) := Nat.pow_pos (by omega)
    constructor
    · intro h; have := Nat.eq_of_mul_eq_mul_right hp h; omega
    · intro h; have : n = m := by omega
      rw [this]
end Go.Proofs.YtldimfmhbdhbnaaGreat

/-
  The program's functions of chapter 8, third part: both digests as one complex number; SameDigest.
-/
namespace Go.Proofs.YtldimfmhbdhbnaaGreat
open Go.RowKit

def AskSameDigest : Prop := ∀ (p : Pl) (vf : Value) (A : Option Addr) (c : Nat) (l : List Pt) (w : World) (fp fq : List Nat), plsz p ≤ 1048576 → (Lit.int .i64 p.mark).wf = true → WfF p.fs → psz l ≤ 1048576 → WfT l → PlAt w p vf fp → RdP w (.slice A l.length c) l fq →
  Calls Tryz.prog 12 #[plv p.mark vf, .slice A l.length c] w fun e w' => e = .returned (.bool (sdB p l)) ∧ Below w.heap.size w w'

set_option maxRecDepth 100000 in
set_option maxHeartbeats 2000000 in
theorem bothDigests_c (A B : Option Addr) (c d : Nat) (a b : List R) (X Y : Int) (hX : digL a = X) (hY : digL b = Y) (w : World) (fp fq : List Nat) (hva : ∀ x ∈ a, rowF x = 0) (hvb : ∀ x ∈ b, rowF x = 0) (ha : Rd w 4 (.slice A a.length c) (rcs a) fp) (hb : Rd w 4 (.slice B b.length d) (rcs b) fq) :
    Calls Tryz.prog 40 #[.slice A a.length c, .slice B b.length d] w fun e w' => e = .returned (.complex .f64 (flo X) (flo Y)) ∧ Below w.heap.size w w' := by
  have HA := Lib.hid ha; have HB := Lib.hid hb; have HX := Lib.hid hX; have HY := Lib.hid hY; have HVA := Lib.hid hva; have HVB := Lib.hid hvb
  have u1 := Tryz.underlying2
  have u2 := Tryz.underlying76
  have u3 : (Tryz.prog.underlying 2).isSome = true := by rw [u1]; rfl
  have U1 := Lib.hid u1; have U2 := Lib.hid u2; have U3 := Lib.hid u3
  have c1 : ∀ (n : Int) (W : World), (convert 2 76 (.int .i64 n)).run Tryz.prog W = .ok (.float .f64 (flo n)) W := fun n W => run_convert_int_float W 2 76 .i64 .f64 n U3.out U2.out
  clear ha hb hX hY hva hvb u1 u2 u3
  go_enter Tryz.func40, Tryz.ntmps40
  go_wp2_with fail
  refine (digestRows_c A c a X HX.out _ fp HVA.out HA.out).mono ?_
  rintro e w1 ⟨rfl, hb1⟩
  have HB1 := Lib.hid hb1
  clear hb1
  go_wp2_with fail
  refine (digestRows_c B d b Y HY.out _ fq HVB.out (HB.out.below' HB1.out)).mono ?_
  rintro e w2 ⟨rfl, hb2⟩
  have HB2 := Lib.hid (HB1.out.trans (hb2.mono HB1.out.size))
  clear hb2
  go_wp2_with fail
  go_ret
  exact ⟨rfl, HB2.out⟩

set_option maxRecDepth 100000 in
set_option maxHeartbeats 4000000 in
theorem implSameDigest_a : AskSameDigest := by
  intro p vf A c l w fp fq hs wn hwf hsl hwt h ha
  have HB0 := Lib.hid (below_new (w := w) (.cells #[vf, .int .i64 p.mark] 32))
  obtain ⟨B, d, rfl⟩ := h.form
  have HK := Lib.hid (heap_new w (.cells #[.slice B p.fs.length d, .int .i64 p.mark] 32) rfl)
  have hri := implRowsIn_a p (.slice B p.fs.length d) _ fp hs wn hwf (h.below' HB0.out)
  have HRI := Lib.hid hri
  have HRO := Lib.hid (fun W (hW : Below w.heap.size w W) => implRowsOf_a A c l W fq hsl hwt (ha.below' hW))
  have hsd : sdB p l = if riC p = 0 ∧ roC l = 0 then decide (digL (riL p) = digL (roL l)) else false := by
    unfold sdB riC roC
    by_cases h0 : placesF p = 0 <;> by_cases h1 : partsF l = 0 <;> simp [h0, h1]
  have hlr : riC p = 0 → ∀ x ∈ riL p, rowF x = 0 := fun h => riL_rows h
  have hmr : roC l = 0 → ∀ x ∈ roL l, rowF x = 0 := fun h => roL_rows h
  generalize sdB p l = S at *
  generalize hC : riC p = C at *
  generalize riL p = L at *
  generalize hD : roC l = D at *
  generalize roL l = M at *
  have HSD := Lib.hid hsd; have HLR := Lib.hid hlr; have HMR := Lib.hid hmr
  clear hri hsd hlr hmr h ha hwf hwt
  go_enter Tryz.func12, Tryz.ntmps12
  obtain ⟨k0, k1, _, _, hzk⟩ := two_at HK.out
  go_wp2_with fail
  clear k0 k1 hzk
  refine HRI.out.mono ?_
  rintro e w1 ⟨_, rfl, ⟨v1, f1, rfl, hr1, _, _⟩, hb1⟩
  obtain ⟨A1, c1, hv1⟩ := hr1.rows_form
  subst hv1
  have HB1 := Lib.hid (HB0.out.trans (hb1.mono HB0.out.size)); have HR1 := Lib.hid hr1
  clear hb1 hr1
  go_wp2_with fail
  refine (HRO.out w1 HB1.out).mono ?_
  rintro e w2 ⟨_, rfl, ⟨v2, f2, rfl, hr2, _, _⟩, hb2⟩
  obtain ⟨A2, c2, hv2⟩ := hr2.rows_form
  subst hv2
  have HB2 := Lib.hid (below_more (below_more (HB1.out.trans (hb2.mono HB1.out.size)) (.cells #[.int .i64 C, .slice A1 L.length c1] 56)) (.cells #[.int .i64 D, .slice A2 M.length c2] 56))
  have HR2 := Lib.hid (((HR1.out.below' hb2).alloc (.cells #[.int .i64 C, .slice A1 L.length c1] 56)).alloc (.cells #[.int .i64 D, .slice A2 M.length c2] 56))
  have HM2 := Lib.hid ((hr2.alloc (.cells #[.int .i64 C, .slice A1 L.length c1] 56)).alloc (.cells #[.int .i64 D, .slice A2 M.length c2] 56))
  have HX := Lib.hid (heap_old (o' := .cells #[.int .i64 D, .slice A2 M.length c2] 56) (heap_new w2 (.cells #[.int .i64 C, .slice A1 L.length c1] 56) rfl))
  have HY := Lib.hid (heap_new (w2.alloc (.cells #[.int .i64 C, .slice A1 L.length c1] 56)) (.cells #[.int .i64 D, .slice A2 M.length c2] 56) (g := w2.heap.size + 1) (by simp))
  clear hb2 hr2
  obtain ⟨x0, x1, _, _, hzx⟩ := two_at HX.out
  obtain ⟨y0, y1, _, _, hzy⟩ := two_at HY.out
  by_cases h0 : C = 0
  case neg =>
    have hS : S = false := by rw [HSD.out, if_neg (fun h => h0 h.1)]
    have HS := Lib.hid hS
    have t1 : (C != 0) = true := by simpa using h0
    clear hS h0
    go_wp2_with fail
    go_ret
    exact ⟨congrArg (fun z => Ending.returned (Value.bool z)) HS.out.symm, HB2.out⟩
  subst h0
  by_cases h1 : D = 0
  case neg =>
    have hS : S = false := by rw [HSD.out, if_neg (fun h => h1 h.2)]
    have HS := Lib.hid hS
    have t1 : (D != 0) = true := by simpa using h1
    clear hS h1
    go_wp2_with fail
    go_ret
    exact ⟨congrArg (fun z => Ending.returned (Value.bool z)) HS.out.symm, HB2.out⟩
  subst h1
  have hS : S = decide (digL L = digL M) := by rw [HSD.out, if_pos ⟨rfl, rfl⟩]
  have hlr := HLR.out rfl; have hmr := HMR.out rfl
  have hXb := digL_bd L; have hYb := digL_bd M
  generalize hX : digL L = X at *
  generalize hY : digL M = Y at *
  have HS := Lib.hid hS; have HLR2 := Lib.hid hlr; have HMR2 := Lib.hid hmr; have HXX := Lib.hid hX; have HYY := Lib.hid hY
  have HFE := Lib.hid (flo_eq X Y hXb.1 hXb.2 hYb.1 hYb.2)
  clear hS hlr hmr hX hY hXb hYb HSD HLR HMR
  go_wp2_with fail
  refine (bothDigests_c A1 A2 c1 c2 L M X Y HXX.out HYY.out _ f1 f2 HLR2.out HMR2.out HR2.out HM2.out).mono ?_
  rintro e w3 ⟨rfl, hb3⟩
  have HB3 := Lib.hid (HB2.out.trans (hb3.mono HB2.out.size))
  clear hb3 x0 x1 y0 y1
  go_wp2_with fail
  go_ret
  exact ⟨congrArg (fun z => Ending.returned (Value.bool z)) (HFE.out.trans HS.out.symm), HB3.out⟩
end Go.Proofs.YtldimfmhbdhbnaaGreat
