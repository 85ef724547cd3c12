/- The law on PartsFrom answers true: the walk, by a maker (reslaw.py). -/
import Derived.Test.YtoabohllphoioaaImpl7d
import Derived.Test.YtoabohllphoioaaArgs4
namespace Go.Proofs.Ytoabohllphoioaa
open Go.RowKit

set_option maxRecDepth 100000 in
set_option maxHeartbeats 8000000 in
theorem lawPartsFrom_c (ask : AskPartsFrom) (ab : Option Addr) (capb : Nat) (b : List R) (wrb : ∀ r ∈ b, WfR r) (m : Int) (wm : (Lit.int .i64 m).wf = true) (w : World) (fpb : List Nat) (hrb : Rd w 4 (.slice ab b.length capb) (rcs b) fpb) :
    Calls Try.prog 10 #[(.slice ab b.length capb), .int .i64 m] w fun e w' => e = .returned (.bool true) ∧ Below w.heap.size w w' := by
  have hmxb : b.length ≤ 9223372036854775807 := by have := hrb.len_le; unfold maxLen at this; omega
  have HLob := Lib.hid hrb.lt
  have ROb := Lib.hid hrb; clear hrb
  have HW := Lib.hid (Below.refl w.heap.size w)
  have HFob := Lib.hid (show From 0 fpb from fun _ _ => Nat.zero_le _)
  by_cases hbigb : (1048576 : Int) < (b.length : Int)
  · have HBIGb := Lib.hid hbigb; clear hbigb
    go_enter Try.func10, Try.ntmps10
    go_wp2_with fail
    refine (szRowS_c ab b.length capb ((1048576 : Int)) _ hmxb (by omega) (by omega)).mono ?_
    rw [if_pos (show (1048576 : Int) < (b.length : Int) from HBIGb.out)]
    rintro e w1 ⟨rfl, hw⟩
    subst hw
    go_wp2
    go_ret
    exact ⟨rfl, HW.out⟩
  have hsmlb : (b.length : Int) ≤ (1048576 : Int) := by omega
  have hlb : decide ((1048576 : Int) - (b.length : Int) < 0) = false := by simp; omega
  have hsb : b.length ≤ 1048576 := by omega
  have HSMLb := Lib.hid hsmlb; clear hsmlb hbigb
  have hLl := ppL_sz b m
  generalize hC : poC b m = C
  generalize hL : ppL b m = L at hLl
  have HC := Lib.hid hC; have HL := Lib.hid hL; clear hC hL
  go_enter Try.func10, Try.ntmps10
  go_wp2_with fail
  refine (szRowS_c ab b.length capb ((1048576 : Int)) _ hmxb (by omega) (by omega)).mono ?_
  rw [if_neg (show ¬ (1048576 : Int) < (b.length : Int) by have := HSMLb.out; omega)]
  rintro e w1 ⟨rfl, hw⟩
  subst hw
  go_wp2_with fail
  refine (toRowS_c ab capb b _ fpb hsb ROb.out).mono ?_
  rintro e w1 ⟨A1, c1, fx1, rfl, hr1, hn1, hf1, hb1⟩
  have ht1 := hr1.lt
  have sz1 := hb1.size
  replace ROb := Lib.hid (ROb.out.below' hb1)
  replace HW := Lib.hid (HW.out.trans (hb1.mono HW.out.size))
  have RX1 := Lib.hid hr1; have NX1 := Lib.hid hn1; have HF1 := Lib.hid hf1; have HLT1 := Lib.hid ht1; clear hr1 hn1 hf1 ht1 hb1
  go_wp2_with fail
  refine (specPartsFrom_r _ _ b m _ fx1 hsb RX1.out).mono ?_
  rw [HC.out, HL.out]
  rintro e w2 ⟨v2, fx2, rfl, hr2, hn2, ⟨hf2, hd2⟩, hb2⟩
  have HD2 := Lib.hid hd2; clear hd2
  obtain ⟨A2, c2, rfl⟩ := hr2.form'
  have ht2 := hr2.lt
  have sz2 := hb2.size
  replace NX1 := Lib.hid (NX1.out.but (But.of_below hb2 []) RX1.out.lt (by simp))
  replace ROb := Lib.hid (ROb.out.below' hb2)
  replace RX1 := Lib.hid (RX1.out.below' hb2)
  replace HW := Lib.hid (HW.out.trans (hb2.mono HW.out.size))
  have RX2 := Lib.hid hr2; have NX2 := Lib.hid hn2; have HF2 := Lib.hid hf2; have HLT2 := Lib.hid ht2; clear hr2 hn2 hf2 ht2 hb2
  clear NX1
  clear RX1
  clear NX2
  have gN := heap_new w2 (.cells #[.int .i64 C, (.slice A2 L.length c2)] 72) rfl
  have bN := below_new (w := w2) (.cells #[.int .i64 C, (.slice A2 L.length c2)] 72)
  have GN := Lib.hid gN; have BN := Lib.hid bN; clear gN bN
  go_wp2_with fail
  generalize w2.alloc (.cells #[.int .i64 C, (.slice A2 L.length c2)] 72) = w3 at GN BN ⊢
  have sz3 := BN.out.size
  replace ROb := Lib.hid (ROb.out.below' BN.out)
  replace RX2 := Lib.hid (RX2.out.below' BN.out)
  replace HW := Lib.hid (HW.out.trans (BN.out.mono HW.out.size))
  have sgGS := heap_lt GN.out
  have GS := Lib.hid GN.out; clear GN BN
  refine (toRowS_c ab capb b _ fpb hsb ROb.out).mono ?_
  rintro e w4 ⟨A4, c4, fx4, rfl, hr4, hn4, hf4, hb4⟩
  have ht4 := hr4.lt
  have sz4 := hb4.size
  replace ROb := Lib.hid (ROb.out.below' hb4)
  replace RX2 := Lib.hid (RX2.out.below' hb4)
  replace GS := Lib.hid ((hb4.block _ (heap_lt GS.out)).trans GS.out)
  replace HW := Lib.hid (HW.out.trans (hb4.mono HW.out.size))
  have RX4 := Lib.hid hr4; have NX4 := Lib.hid hn4; have HF4 := Lib.hid hf4; have HLT4 := Lib.hid ht4; clear hr4 hn4 hf4 ht4 hb4
  go_wp2_with fail
  refine (ask _ _ b m _ fx4 hsb wrb wm RX4.out).mono ?_
  rw [HC.out, HL.out]
  rintro e w5 ⟨v5, fx5, rfl, hr5, hn5, ⟨hf5, hd5⟩, hb5⟩
  have HD5 := Lib.hid hd5; clear hd5
  obtain ⟨A5, c5, rfl⟩ := hr5.form'
  have ht5 := hr5.lt
  have sz5 := hb5.size
  replace NX4 := Lib.hid (NX4.out.but (But.of_below hb5 []) RX4.out.lt (by simp))
  replace ROb := Lib.hid (ROb.out.below' hb5)
  replace RX2 := Lib.hid (RX2.out.below' hb5)
  replace RX4 := Lib.hid (RX4.out.below' hb5)
  replace GS := Lib.hid ((hb5.block _ (heap_lt GS.out)).trans GS.out)
  replace HW := Lib.hid (HW.out.trans (hb5.mono HW.out.size))
  have RX5 := Lib.hid hr5; have NX5 := Lib.hid hn5; have HF5 := Lib.hid hf5; have HLT5 := Lib.hid ht5; clear hr5 hn5 hf5 ht5 hb5
  obtain ⟨o1_0, o1_1, _, _, o1_z⟩ := two_at GS.out
  have gN := heap_new w5 (.cells #[.int .i64 C, (.slice A5 L.length c5)] 72) rfl
  have bN := below_new (w := w5) (.cells #[.int .i64 C, (.slice A5 L.length c5)] 72)
  have GN := Lib.hid gN; have BN := Lib.hid bN; clear gN bN
  go_wp2_with fail
  clear o1_0 o1_1 o1_z
  generalize w5.alloc (.cells #[.int .i64 C, (.slice A5 L.length c5)] 72) = w6 at GN BN ⊢
  have sz6 := BN.out.size
  replace NX4 := Lib.hid (NX4.out.but (But.of_below BN.out []) RX4.out.lt (by simp))
  replace NX5 := Lib.hid (NX5.out.but (But.of_below BN.out []) RX5.out.lt (by simp))
  replace ROb := Lib.hid (ROb.out.below' BN.out)
  replace RX2 := Lib.hid (RX2.out.below' BN.out)
  replace RX4 := Lib.hid (RX4.out.below' BN.out)
  replace RX5 := Lib.hid (RX5.out.below' BN.out)
  replace GS := Lib.hid ((BN.out.block _ (heap_lt GS.out)).trans GS.out)
  replace HW := Lib.hid (HW.out.trans (BN.out.mono HW.out.size))
  have sgGG := heap_lt GN.out
  have GG := Lib.hid GN.out; clear GN BN
  refine (eqPartsResult_c C L (.slice A5 L.length c5) (.slice A2 L.length c2) _ fx5 fx2 RX5.out RX2.out).mono ?_
  rintro e w7 ⟨rfl, hb7⟩
  have sz7 := hb7.size
  replace NX4 := Lib.hid (NX4.out.but (But.of_below hb7 []) RX4.out.lt (by simp))
  replace NX5 := Lib.hid (NX5.out.but (But.of_below hb7 []) RX5.out.lt (by simp))
  replace ROb := Lib.hid (ROb.out.below' hb7)
  replace RX2 := Lib.hid (RX2.out.below' hb7)
  replace RX4 := Lib.hid (RX4.out.below' hb7)
  replace RX5 := Lib.hid (RX5.out.below' hb7)
  replace GS := Lib.hid ((hb7.block _ (heap_lt GS.out)).trans GS.out)
  replace GG := Lib.hid ((hb7.block _ (heap_lt GG.out)).trans GG.out)
  replace HW := Lib.hid (HW.out.trans (hb7.mono HW.out.size))
  clear hb7
  go_wp2_with fail
  refine (toRowS_c ab capb b _ fpb hsb ROb.out).mono ?_
  rintro e w8 ⟨A8, c8, fx8, rfl, hr8, hn8, hf8, hb8⟩
  have ht8 := hr8.lt
  have sz8 := hb8.size
  replace NX4 := Lib.hid (NX4.out.but (But.of_below hb8 []) RX4.out.lt (by simp))
  replace NX5 := Lib.hid (NX5.out.but (But.of_below hb8 []) RX5.out.lt (by simp))
  replace ROb := Lib.hid (ROb.out.below' hb8)
  replace RX2 := Lib.hid (RX2.out.below' hb8)
  replace RX4 := Lib.hid (RX4.out.below' hb8)
  replace RX5 := Lib.hid (RX5.out.below' hb8)
  replace GS := Lib.hid ((hb8.block _ (heap_lt GS.out)).trans GS.out)
  replace GG := Lib.hid ((hb8.block _ (heap_lt GG.out)).trans GG.out)
  replace HW := Lib.hid (HW.out.trans (hb8.mono HW.out.size))
  have RX8 := Lib.hid hr8; have NX8 := Lib.hid hn8; have HF8 := Lib.hid hf8; have HLT8 := Lib.hid ht8; clear hr8 hn8 hf8 ht8 hb8
  go_wp2_with fail
  refine (eqRowS_c _ _ _ _ b _ fx4 fx8 RX4.out RX8.out).mono ?_
  rintro e w9 ⟨rfl, hb9⟩
  have sz9 := hb9.size
  replace NX4 := Lib.hid (NX4.out.but (But.of_below hb9 []) RX4.out.lt (by simp))
  replace NX5 := Lib.hid (NX5.out.but (But.of_below hb9 []) RX5.out.lt (by simp))
  replace NX8 := Lib.hid (NX8.out.but (But.of_below hb9 []) RX8.out.lt (by simp))
  replace ROb := Lib.hid (ROb.out.below' hb9)
  replace RX2 := Lib.hid (RX2.out.below' hb9)
  replace RX4 := Lib.hid (RX4.out.below' hb9)
  replace RX5 := Lib.hid (RX5.out.below' hb9)
  replace RX8 := Lib.hid (RX8.out.below' hb9)
  replace GS := Lib.hid ((hb9.block _ (heap_lt GS.out)).trans GS.out)
  replace GG := Lib.hid ((hb9.block _ (heap_lt GG.out)).trans GG.out)
  replace HW := Lib.hid (HW.out.trans (hb9.mono HW.out.size))
  clear hb9
  clear NX8
  clear RX8
  go_wp2_with fail
  refine (markRowS_c A4 c4 b.length _ (1) _ fx4 (by omega) (by omega) (by omega) RX4.out NX4.out).mono ?_
  rintro e w10 ⟨rfl, hb10, _, _, _⟩
  have sz10 := hb10.size
  clear NX4
  replace NX5 := Lib.hid (NX5.out.but hb10 RX5.out.lt (fun b hb hx => by have h1 := HLT5.out b hb; have h2 := HF4.out b hx; have h3 := HLT4.out b hx; have h4 := HF5.out b hb; omega))
  replace ROb := Lib.hid (ROb.out.but hb10 (fun b hb hx => by have h1 := HLob.out b hb; have h2 := HF4.out b hx; have h3 := HLT4.out b hx; have h4 := HFob.out b hb; omega))
  replace RX2 := Lib.hid (RX2.out.but hb10 (fun b hb hx => by have h1 := HLT2.out b hb; have h2 := HF4.out b hx; have h3 := HLT4.out b hx; have h4 := HF2.out b hb; omega))
  replace RX5 := Lib.hid (RX5.out.but hb10 (fun b hb hx => by have h1 := HLT5.out b hb; have h2 := HF4.out b hx; have h3 := HLT4.out b hx; have h4 := HF5.out b hb; omega))
  replace GS := Lib.hid (hb10.heap GS.out (fun hx => by have h2 := HF4.out _ hx; have h3 := HLT4.out _ hx; omega))
  replace GG := Lib.hid (hb10.heap GG.out (fun hx => by have h2 := HF4.out _ hx; have h3 := HLT4.out _ hx; omega))
  replace HW := Lib.hid (HW.out.trans (hb10.below HW.out.size (fun b hx => by have h2 := HF4.out b hx; omega)))
  clear RX4
  clear hb10
  have hq1 : decide ((1 + (b.length * 4 : Nat) : Int) < 0) = false := by simp; omega
  have hq2 : ¬ ((1 + (b.length * 4 : Nat) : Int) < 0) := by omega
  obtain ⟨o2_0, o2_1, _, _, o2_z⟩ := two_at GS.out
  obtain ⟨o3_0, o3_1, _, _, o3_z⟩ := two_at GG.out
  go_wp2_with fail
  clear o2_0 o2_1 o2_z o3_0 o3_1 o3_z
  refine (eqPartsResult_c C L (.slice A5 L.length c5) (.slice A2 L.length c2) _ fx5 fx2 RX5.out RX2.out).mono ?_
  rintro e w11 ⟨rfl, hb11⟩
  have sz11 := hb11.size
  replace NX5 := Lib.hid (NX5.out.but (But.of_below hb11 []) RX5.out.lt (by simp))
  replace ROb := Lib.hid (ROb.out.below' hb11)
  replace RX2 := Lib.hid (RX2.out.below' hb11)
  replace RX5 := Lib.hid (RX5.out.below' hb11)
  replace GS := Lib.hid ((hb11.block _ (heap_lt GS.out)).trans GS.out)
  replace GG := Lib.hid ((hb11.block _ (heap_lt GG.out)).trans GG.out)
  replace HW := Lib.hid (HW.out.trans (hb11.mono HW.out.size))
  clear hb11
  obtain ⟨o4_0, o4_1, _, _, o4_z⟩ := two_at GG.out
  go_wp2_with fail
  clear o4_0 o4_1 o4_z
  refine (markPartsResult_c C (.slice A5 L.length c5) L 1 _ fx5 (by omega) hLl (by omega) RX5.out NX5.out HD5.out).mono ?_
  rintro e w12 ⟨rfl, hb12, hm12⟩
  have sz12 := hb12.size
  clear NX5
  replace ROb := Lib.hid (ROb.out.but hb12 (fun b hb hx => by have h1 := HLob.out b hb; have h2 := HF5.out b hx; have h3 := HLT5.out b hx; have h4 := HFob.out b hb; omega))
  replace RX2 := Lib.hid (RX2.out.but hb12 (fun b hb hx => by have h1 := HLT2.out b hb; have h2 := HF5.out b hx; have h3 := HLT5.out b hx; have h4 := HF2.out b hb; omega))
  replace GS := Lib.hid (hb12.heap GS.out (fun hx => by have h2 := HF5.out _ hx; have h3 := HLT5.out _ hx; omega))
  replace GG := Lib.hid (hb12.heap GG.out (fun hx => by have h2 := HF5.out _ hx; have h3 := HLT5.out _ hx; omega))
  replace HW := Lib.hid (HW.out.trans (hb12.below HW.out.size (fun b hx => by have h2 := HF5.out b hx; omega)))
  replace RX5 := Lib.hid hm12; clear hb12 hm12
  obtain ⟨o5_0, o5_1, _, _, o5_z⟩ := two_at GG.out
  go_wp2_with fail
  clear o5_0 o5_1 o5_z
  refine (heldPartsResult_c C (.slice A5 L.length c5) L 1 _ fx5 (by omega) hLl (by omega) RX5.out).mono ?_
  rintro e w13 ⟨rfl, hb13⟩
  have sz13 := hb13.size
  replace ROb := Lib.hid (ROb.out.below' hb13)
  replace RX2 := Lib.hid (RX2.out.below' hb13)
  replace RX5 := Lib.hid (RX5.out.below' hb13)
  replace GS := Lib.hid ((hb13.block _ (heap_lt GS.out)).trans GS.out)
  replace GG := Lib.hid ((hb13.block _ (heap_lt GG.out)).trans GG.out)
  replace HW := Lib.hid (HW.out.trans (hb13.mono HW.out.size))
  clear hb13
  have hq3 : decide ((1 : Int) + (cntPs L : Nat) < 0) = false := by simp; omega
  go_wp2_with fail
  refine (toRowS_c ab capb b _ fpb hsb ROb.out).mono ?_
  rintro e w14 ⟨A14, c14, fx14, rfl, hr14, hn14, hf14, hb14⟩
  have ht14 := hr14.lt
  have sz14 := hb14.size
  replace ROb := Lib.hid (ROb.out.below' hb14)
  replace RX2 := Lib.hid (RX2.out.below' hb14)
  replace RX5 := Lib.hid (RX5.out.below' hb14)
  replace GS := Lib.hid ((hb14.block _ (heap_lt GS.out)).trans GS.out)
  replace GG := Lib.hid ((hb14.block _ (heap_lt GG.out)).trans GG.out)
  replace HW := Lib.hid (HW.out.trans (hb14.mono HW.out.size))
  have RX14 := Lib.hid hr14; have NX14 := Lib.hid hn14; have HF14 := Lib.hid hf14; have HLT14 := Lib.hid ht14; clear hr14 hn14 hf14 ht14 hb14
  go_wp2_with fail
  refine (ask _ _ b m _ fx14 hsb wrb wm RX14.out).mono ?_
  rw [HC.out, HL.out]
  rintro e w15 ⟨v15, fx15, rfl, hr15, hn15, ⟨hf15, hd15⟩, hb15⟩
  have HD15 := Lib.hid hd15; clear hd15
  obtain ⟨A15, c15, rfl⟩ := hr15.form'
  have ht15 := hr15.lt
  have sz15 := hb15.size
  replace NX14 := Lib.hid (NX14.out.but (But.of_below hb15 []) RX14.out.lt (by simp))
  replace ROb := Lib.hid (ROb.out.below' hb15)
  replace RX2 := Lib.hid (RX2.out.below' hb15)
  replace RX5 := Lib.hid (RX5.out.below' hb15)
  replace RX14 := Lib.hid (RX14.out.below' hb15)
  replace GS := Lib.hid ((hb15.block _ (heap_lt GS.out)).trans GS.out)
  replace GG := Lib.hid ((hb15.block _ (heap_lt GG.out)).trans GG.out)
  replace HW := Lib.hid (HW.out.trans (hb15.mono HW.out.size))
  have RX15 := Lib.hid hr15; have NX15 := Lib.hid hn15; have HF15 := Lib.hid hf15; have HLT15 := Lib.hid ht15; clear hr15 hn15 hf15 ht15 hb15
  obtain ⟨o6_0, o6_1, _, _, o6_z⟩ := two_at GS.out
  have gN := heap_new w15 (.cells #[.int .i64 C, (.slice A15 L.length c15)] 72) rfl
  have bN := below_new (w := w15) (.cells #[.int .i64 C, (.slice A15 L.length c15)] 72)
  have GN := Lib.hid gN; have BN := Lib.hid bN; clear gN bN
  go_wp2_with fail
  clear o6_0 o6_1 o6_z
  generalize w15.alloc (.cells #[.int .i64 C, (.slice A15 L.length c15)] 72) = w16 at GN BN ⊢
  have sz16 := BN.out.size
  replace NX14 := Lib.hid (NX14.out.but (But.of_below BN.out []) RX14.out.lt (by simp))
  replace NX15 := Lib.hid (NX15.out.but (But.of_below BN.out []) RX15.out.lt (by simp))
  replace ROb := Lib.hid (ROb.out.below' BN.out)
  replace RX2 := Lib.hid (RX2.out.below' BN.out)
  replace RX5 := Lib.hid (RX5.out.below' BN.out)
  replace RX14 := Lib.hid (RX14.out.below' BN.out)
  replace RX15 := Lib.hid (RX15.out.below' BN.out)
  replace GS := Lib.hid ((BN.out.block _ (heap_lt GS.out)).trans GS.out)
  replace GG := Lib.hid ((BN.out.block _ (heap_lt GG.out)).trans GG.out)
  replace HW := Lib.hid (HW.out.trans (BN.out.mono HW.out.size))
  have sgGH := heap_lt GN.out
  have GH := Lib.hid GN.out; clear GN BN
  refine (eqPartsResult_c C L (.slice A15 L.length c15) (.slice A2 L.length c2) _ fx15 fx2 RX15.out RX2.out).mono ?_
  rintro e w17 ⟨rfl, hb17⟩
  have sz17 := hb17.size
  replace NX14 := Lib.hid (NX14.out.but (But.of_below hb17 []) RX14.out.lt (by simp))
  replace NX15 := Lib.hid (NX15.out.but (But.of_below hb17 []) RX15.out.lt (by simp))
  replace ROb := Lib.hid (ROb.out.below' hb17)
  replace RX2 := Lib.hid (RX2.out.below' hb17)
  replace RX5 := Lib.hid (RX5.out.below' hb17)
  replace RX14 := Lib.hid (RX14.out.below' hb17)
  replace RX15 := Lib.hid (RX15.out.below' hb17)
  replace GS := Lib.hid ((hb17.block _ (heap_lt GS.out)).trans GS.out)
  replace GG := Lib.hid ((hb17.block _ (heap_lt GG.out)).trans GG.out)
  replace GH := Lib.hid ((hb17.block _ (heap_lt GH.out)).trans GH.out)
  replace HW := Lib.hid (HW.out.trans (hb17.mono HW.out.size))
  clear hb17
  obtain ⟨o7_0, o7_1, _, _, o7_z⟩ := two_at GG.out
  go_wp2_with fail
  clear o7_0 o7_1 o7_z
  refine (heldPartsResult_c C (.slice A5 L.length c5) L 1 _ fx5 (by omega) hLl (by omega) RX5.out).mono ?_
  rintro e w18 ⟨rfl, hb18⟩
  have sz18 := hb18.size
  replace NX14 := Lib.hid (NX14.out.but (But.of_below hb18 []) RX14.out.lt (by simp))
  replace NX15 := Lib.hid (NX15.out.but (But.of_below hb18 []) RX15.out.lt (by simp))
  replace ROb := Lib.hid (ROb.out.below' hb18)
  replace RX2 := Lib.hid (RX2.out.below' hb18)
  replace RX5 := Lib.hid (RX5.out.below' hb18)
  replace RX14 := Lib.hid (RX14.out.below' hb18)
  replace RX15 := Lib.hid (RX15.out.below' hb18)
  replace GS := Lib.hid ((hb18.block _ (heap_lt GS.out)).trans GS.out)
  replace GG := Lib.hid ((hb18.block _ (heap_lt GG.out)).trans GG.out)
  replace GH := Lib.hid ((hb18.block _ (heap_lt GH.out)).trans GH.out)
  replace HW := Lib.hid (HW.out.trans (hb18.mono HW.out.size))
  clear hb18
  go_wp2
  go_ret
  exact ⟨rfl, HW.out⟩
end Go.Proofs.Ytoabohllphoioaa
