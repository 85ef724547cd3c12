/- The law on SameParts answers true: the walk. By a maker (gen7e.py). -/
import Derived.Test.YtoabohllphoioaaSame7
namespace Go.Proofs.Ytoabohllphoioaa
open Go.RowKit

set_option maxRecDepth 100000 in
set_option maxHeartbeats 4000000 in
theorem lawSameParts_c (ask : AskSameParts) (ada : Option Addr) (capa : Nat) (a : List Pt) (wa : WfT a) (adb : Option Addr) (capb : Nat) (b : List Pt) (wb : WfT b) (w : World) (fpa fpb : List Nat) (hra : RdP w (.slice ada a.length capa) a fpa) (hrb : RdP w (.slice adb b.length capb) b fpb) :
    Calls Try.prog 13 #[.slice ada a.length capa, .slice adb b.length capb] w fun e w' => e = .returned (.bool true) ∧ Below w.heap.size w w' := by
  have hna := psz_nn a
  have hnb := psz_nn b
  have Ra := Lib.hid hra; have Rb := Lib.hid hrb; have HWA := Lib.hid wa; have HWB := Lib.hid wb
  clear hra hrb wa wb
  by_cases hbig : (1048576 : Int) < psz a
  · have HBIG := Lib.hid hbig; clear hbig
    go_enter Try.func13, Try.ntmps13
    go_wp2_with fail
    refine (szPartS_c ada capa a 1048576 _ fpa Ra.out (by omega) (by omega)).mono ?_
    rw [if_pos (show (1048576 : Int) < psz a by have := HBIG.out; omega)]
    rintro e w1 ⟨rfl, hb1⟩
    have HB := Lib.hid hb1; clear hb1
    go_wp2
    go_ret
    exact ⟨rfl, HB.out⟩
  have hsa : psz a ≤ 1048576 := by omega
  have hl0 : decide ((1048576 : Int) - psz a < 0) = false := by simp; omega
  by_cases hbig2 : (1048576 : Int) - psz a < psz b
  · have HBIG := Lib.hid hbig2; clear hbig2 hbig
    go_enter Try.func13, Try.ntmps13
    go_wp2_with fail
    refine (szPartS_c ada capa a 1048576 _ fpa Ra.out (by omega) (by omega)).mono ?_
    rw [if_neg (show ¬ (1048576 : Int) < psz a by omega)]
    rintro e w1 ⟨rfl, hb1⟩
    have HB := Lib.hid hb1; clear hb1
    go_wp2_with fail
    refine (szPartS_c adb capb b (1048576 - psz a) _ fpb (Rb.out.below' HB.out) (by omega) (by omega)).mono ?_
    rw [if_pos (show (1048576 : Int) - psz a < psz b by have := HBIG.out; omega)]
    rintro e w2 ⟨rfl, hb2⟩
    have HB2 := Lib.hid (HB.out.trans (hb2.mono HB.out.size)); clear hb2
    go_wp2
    go_ret
    exact ⟨rfl, HB2.out⟩
  have hsb : psz b ≤ 1048576 := by omega
  have hl1 : decide ((1048576 : Int) - psz a - psz b < 0) = false := by simp; omega
  have HBIG := Lib.hid hbig2; have HSA := Lib.hid hsa; have HSB := Lib.hid hsb
  clear hbig hbig2
  generalize hq : decide (a = b) = q
  have Hq := Lib.hid hq; clear hq
  go_enter Try.func13, Try.ntmps13
  go_wp2_with fail
  refine (szPartS_c ada capa a 1048576 _ fpa Ra.out (by omega) (by omega)).mono ?_
  rw [if_neg (show ¬ (1048576 : Int) < psz a by omega)]
  rintro e w1 ⟨rfl, hb1⟩
  have H1 := Lib.hid hb1; clear hb1
  go_wp2_with fail
  refine (szPartS_c adb capb b (1048576 - psz a) _ fpb (Rb.out.below' H1.out) (by omega) (by omega)).mono ?_
  rw [if_neg (show ¬ (1048576 : Int) - psz a < psz b by have := HBIG.out; omega)]
  rintro e w2 ⟨rfl, hb2⟩
  have H2 := Lib.hid (H1.out.trans (hb2.mono H1.out.size)); clear hb2
  go_wp2_with fail
  refine (toPartS_c ada capa a _ fpa HSA.out (Ra.out.below' H2.out)).mono ?_
  rintro e w3 ⟨A3, c3, f3, rfl, hr3, hn3, hf3, hd3, hb3⟩
  have H3 := Lib.hid (H2.out.trans (hb3.mono H2.out.size)); have R3 := Lib.hid hr3
  clear hr3 hn3 hf3 hd3 hb3
  go_wp2_with fail
  refine (toPartS_c adb capb b _ fpb HSB.out (Rb.out.below' H3.out)).mono ?_
  rintro e w4 ⟨A4, c4, f4, rfl, hr4, hn4, hf4, hd4, hb4⟩
  have H4 := Lib.hid (H3.out.trans (hb4.mono H3.out.size)); have R4 := Lib.hid hr4
  replace R3 := Lib.hid (R3.out.below' hb4)
  clear hr4 hn4 hf4 hd4 hb4
  go_wp2_with fail
  refine (specSameParts_c A3 A4 c3 c4 a b _ f3 f4 R3.out R4.out).mono ?_
  rw [Hq.out]
  rintro e w5 ⟨rfl, hb5⟩
  have H5 := Lib.hid (H4.out.trans (hb5.mono H4.out.size))
  clear hb5 R3 R4
  go_wp2_with fail
  refine (toPartS_c ada capa a _ fpa HSA.out (Ra.out.below' H5.out)).mono ?_
  rintro e w6 ⟨A6, c6, f6, rfl, hr6, hn6, hf6, hd6, hb6⟩
  have H6 := Lib.hid (H5.out.trans (hb6.mono H5.out.size)); have R6 := Lib.hid hr6
  clear hr6 hn6 hf6 hd6 hb6
  go_wp2_with fail
  refine (toPartS_c adb capb b _ fpb HSB.out (Rb.out.below' H6.out)).mono ?_
  rintro e w7 ⟨A7, c7, f7, rfl, hr7, hn7, hf7, hd7, hb7⟩
  have H7 := Lib.hid (H6.out.trans (hb7.mono H6.out.size)); have R7 := Lib.hid hr7
  replace R6 := Lib.hid (R6.out.below' hb7)
  clear hr7 hn7 hf7 hd7 hb7
  go_wp2_with fail
  refine (ask A6 A7 c6 c7 a b _ f6 f7 HSA.out HSB.out HWA.out HWB.out R6.out R7.out).mono ?_
  rw [Hq.out]
  rintro e w8 ⟨rfl, hb8⟩
  have H8 := Lib.hid (H7.out.trans (hb8.mono H7.out.size))
  replace R6 := Lib.hid (R6.out.below' hb8); replace R7 := Lib.hid (R7.out.below' hb8)
  clear hb8
  have t9 : (q != q) = false := by simp
  go_wp2_with fail
  clear t9
  refine (toPartS_c ada capa a _ fpa HSA.out (Ra.out.below' H8.out)).mono ?_
  rintro e w9 ⟨A9, c9, f9, rfl, hr9, hn9, hf9, hd9, hb9⟩
  have H9 := Lib.hid (H8.out.trans (hb9.mono H8.out.size)); have R9 := Lib.hid hr9
  replace R6 := Lib.hid (R6.out.below' hb9); replace R7 := Lib.hid (R7.out.below' hb9)
  clear hr9 hn9 hf9 hd9 hb9
  go_wp2_with fail
  refine (eqPartS_c _ _ _ _ a _ f6 f9 R6.out R9.out).mono ?_
  rintro e w10 ⟨rfl, hb10⟩
  have H10 := Lib.hid (H9.out.trans (hb10.mono H9.out.size))
  replace R7 := Lib.hid (R7.out.below' hb10)
  clear hb10 R6 R9
  go_wp2_with fail
  refine (toPartS_c adb capb b _ fpb HSB.out (Rb.out.below' H10.out)).mono ?_
  rintro e w11 ⟨A11, c11, f11, rfl, hr11, hn11, hf11, hd11, hb11⟩
  have H11 := Lib.hid (H10.out.trans (hb11.mono H10.out.size)); have R11 := Lib.hid hr11
  replace R7 := Lib.hid (R7.out.below' hb11)
  clear hr11 hn11 hf11 hd11 hb11
  go_wp2_with fail
  refine (eqPartS_c _ _ _ _ b _ f7 f11 R7.out R11.out).mono ?_
  rintro e w12 ⟨rfl, hb12⟩
  have H12 := Lib.hid (H11.out.trans (hb12.mono H11.out.size))
  clear hb12
  go_wp2
  go_ret
  exact ⟨rfl, H12.out⟩
end Go.Proofs.Ytoabohllphoioaa
