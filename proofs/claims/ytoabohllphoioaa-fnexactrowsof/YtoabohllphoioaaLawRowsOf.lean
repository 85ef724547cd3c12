/- The law on RowsOf answers true: the walk, by a maker (reslaw.py). -/
import Derived.Test.YtoabohllphoioaaImpl7c
import Derived.Test.YtoabohllphoioaaSpec7b
import Derived.Test.YtoabohllphoioaaArgs4
namespace Go.Proofs.Ytoabohllphoioaa
open Go.RowKit

set_option maxRecDepth 100000 in
set_option maxHeartbeats 8000000 in
theorem lawRowsOf_c (ask : AskRowsOf) (ab : Option Addr) (capb : Nat) (b : List Pt) (wrb : WfT b) (w : World) (fpb : List Nat) (hrb : RdP w (.slice ab b.length capb) b fpb) :
    Calls Try.prog 11 #[(.slice ab b.length capb)] w fun e w' => e = .returned (.bool true) ∧ Below w.heap.size w w' := by
  have HLob := Lib.hid hrb.lt
  have ROb := Lib.hid hrb; clear hrb
  have HW := Lib.hid (Below.refl w.heap.size w)
  have HFob := Lib.hid (show From 0 fpb from fun _ _ => Nat.zero_le _)
  by_cases hbigb : (1048576 : Int) < psz b
  · have HBIGb := Lib.hid hbigb; clear hbigb
    go_enter Try.func11, Try.ntmps11
    go_wp2_with fail
    refine (szPartS_c ab capb b ((1048576 : Int)) _ fpb ROb.out (by omega) (by omega)).mono ?_
    rw [if_pos (show (1048576 : Int) < psz b from HBIGb.out)]
    rintro e w1 ⟨rfl, hb1⟩
    have sz1 := hb1.size
    replace ROb := Lib.hid (ROb.out.below' hb1)
    replace HW := Lib.hid (HW.out.trans (hb1.mono HW.out.size))
    clear hb1
    go_wp2
    go_ret
    exact ⟨rfl, HW.out⟩
  have nnb : 0 ≤ psz b := psz_nn b
  have hsmlb : psz b ≤ (1048576 : Int) := by omega
  have hlb : decide ((1048576 : Int) - psz b < 0) = false := by simp; omega
  have hsb : psz b ≤ 1048576 := by omega
  have HSMLb := Lib.hid hsmlb; clear hsmlb hbigb
  have hLl := roL_len b
  generalize hC : roC b = C
  generalize hL : roL b = L at hLl
  have HC := Lib.hid hC; have HL := Lib.hid hL; clear hC hL
  go_enter Try.func11, Try.ntmps11
  go_wp2_with fail
  refine (szPartS_c ab capb b ((1048576 : Int)) _ fpb ROb.out (by omega) (by omega)).mono ?_
  rw [if_neg (show ¬ (1048576 : Int) < psz b by have := HSMLb.out; omega)]
  rintro e w1 ⟨rfl, hb1⟩
  have sz1 := hb1.size
  replace ROb := Lib.hid (ROb.out.below' hb1)
  replace HW := Lib.hid (HW.out.trans (hb1.mono HW.out.size))
  clear hb1
  go_wp2_with fail
  refine (toPartS_c ab capb b _ fpb hsb ROb.out).mono ?_
  rintro e w2 ⟨A2, c2, fx2, rfl, hr2, hn2, hf2, hd2, hb2⟩
  have HD2 := Lib.hid hd2; clear hd2
  have ht2 := hr2.lt
  have sz2 := hb2.size
  replace ROb := Lib.hid (ROb.out.below' hb2)
  replace HW := Lib.hid (HW.out.trans (hb2.mono HW.out.size))
  have RX2 := Lib.hid hr2; have NX2 := Lib.hid hn2; have HF2 := Lib.hid hf2; have HLT2 := Lib.hid ht2; clear hr2 hn2 hf2 ht2 hb2
  go_wp2_with fail
  refine (specRowsOf_r _ _ b _ fx2 hsb RX2.out).mono ?_
  rw [HC.out, HL.out]
  rintro e w3 ⟨q3, rfl, ⟨v3, fx3, rfl, hr3, hn3, hf3⟩, hb3⟩
  obtain ⟨A3, c3, rfl⟩ := hr3.rows_form
  have ht3 := hr3.lt
  have sz3 := hb3.size
  replace NX2 := Lib.hid (NX2.out.but (But.of_below hb3 []) RX2.out.lt (by simp))
  replace ROb := Lib.hid (ROb.out.below' hb3)
  replace RX2 := Lib.hid (RX2.out.below' hb3)
  replace HW := Lib.hid (HW.out.trans (hb3.mono HW.out.size))
  have RX3 := Lib.hid hr3; have NX3 := Lib.hid hn3; have HF3 := Lib.hid hf3; have HLT3 := Lib.hid ht3; clear hr3 hn3 hf3 ht3 hb3
  clear NX2
  clear RX2
  clear NX3
  have gN := heap_new w3 (.cells #[.int .i64 C, (.slice A3 L.length c3)] 31) rfl
  have bN := below_new (w := w3) (.cells #[.int .i64 C, (.slice A3 L.length c3)] 31)
  have GN := Lib.hid gN; have BN := Lib.hid bN; clear gN bN
  go_wp2_with fail
  generalize w3.alloc (.cells #[.int .i64 C, (.slice A3 L.length c3)] 31) = w4 at GN BN ⊢
  have sz4 := BN.out.size
  replace ROb := Lib.hid (ROb.out.below' BN.out)
  replace RX3 := Lib.hid (RX3.out.below' BN.out)
  replace HW := Lib.hid (HW.out.trans (BN.out.mono HW.out.size))
  have sgGS := heap_lt GN.out
  have GS := Lib.hid GN.out; clear GN BN
  refine (toPartS_c ab capb b _ fpb hsb ROb.out).mono ?_
  rintro e w5 ⟨A5, c5, fx5, rfl, hr5, hn5, hf5, hd5, hb5⟩
  have HD5 := Lib.hid hd5; clear hd5
  have ht5 := hr5.lt
  have sz5 := hb5.size
  replace ROb := Lib.hid (ROb.out.below' hb5)
  replace RX3 := Lib.hid (RX3.out.below' hb5)
  replace GS := Lib.hid ((hb5.block _ (heap_lt GS.out)).trans GS.out)
  replace HW := Lib.hid (HW.out.trans (hb5.mono HW.out.size))
  have RX5 := Lib.hid hr5; have NX5 := Lib.hid hn5; have HF5 := Lib.hid hf5; have HLT5 := Lib.hid ht5; clear hr5 hn5 hf5 ht5 hb5
  go_wp2_with fail
  refine (ask _ _ b _ fx5 hsb wrb RX5.out).mono ?_
  rw [HC.out, HL.out]
  rintro e w6 ⟨q6, rfl, ⟨v6, fx6, rfl, hr6, hn6, hf6⟩, hb6⟩
  obtain ⟨A6, c6, rfl⟩ := hr6.rows_form
  have ht6 := hr6.lt
  have sz6 := hb6.size
  replace NX5 := Lib.hid (NX5.out.but (But.of_below hb6 []) RX5.out.lt (by simp))
  replace ROb := Lib.hid (ROb.out.below' hb6)
  replace RX3 := Lib.hid (RX3.out.below' hb6)
  replace RX5 := Lib.hid (RX5.out.below' hb6)
  replace GS := Lib.hid ((hb6.block _ (heap_lt GS.out)).trans GS.out)
  replace HW := Lib.hid (HW.out.trans (hb6.mono HW.out.size))
  have RX6 := Lib.hid hr6; have NX6 := Lib.hid hn6; have HF6 := Lib.hid hf6; have HLT6 := Lib.hid ht6; clear hr6 hn6 hf6 ht6 hb6
  obtain ⟨o1_0, o1_1, _, _, o1_z⟩ := two_at GS.out
  have gN := heap_new w6 (.cells #[.int .i64 C, (.slice A6 L.length c6)] 31) rfl
  have bN := below_new (w := w6) (.cells #[.int .i64 C, (.slice A6 L.length c6)] 31)
  have GN := Lib.hid gN; have BN := Lib.hid bN; clear gN bN
  go_wp2_with fail
  clear o1_0 o1_1 o1_z
  generalize w6.alloc (.cells #[.int .i64 C, (.slice A6 L.length c6)] 31) = w7 at GN BN ⊢
  have sz7 := BN.out.size
  replace NX5 := Lib.hid (NX5.out.but (But.of_below BN.out []) RX5.out.lt (by simp))
  replace NX6 := Lib.hid (NX6.out.but (But.of_below BN.out []) RX6.out.lt (by simp))
  replace ROb := Lib.hid (ROb.out.below' BN.out)
  replace RX3 := Lib.hid (RX3.out.below' BN.out)
  replace RX5 := Lib.hid (RX5.out.below' BN.out)
  replace RX6 := Lib.hid (RX6.out.below' BN.out)
  replace GS := Lib.hid ((BN.out.block _ (heap_lt GS.out)).trans GS.out)
  replace HW := Lib.hid (HW.out.trans (BN.out.mono HW.out.size))
  have sgGG := heap_lt GN.out
  have GG := Lib.hid GN.out; clear GN BN
  refine (eqRowsResult_c C _ _ L _ fx6 fx3 RX6.out RX3.out).mono ?_
  rintro e w8 ⟨rfl, hb8⟩
  have sz8 := hb8.size
  replace NX5 := Lib.hid (NX5.out.but (But.of_below hb8 []) RX5.out.lt (by simp))
  replace NX6 := Lib.hid (NX6.out.but (But.of_below hb8 []) RX6.out.lt (by simp))
  replace ROb := Lib.hid (ROb.out.below' hb8)
  replace RX3 := Lib.hid (RX3.out.below' hb8)
  replace RX5 := Lib.hid (RX5.out.below' hb8)
  replace RX6 := Lib.hid (RX6.out.below' hb8)
  replace GS := Lib.hid ((hb8.block _ (heap_lt GS.out)).trans GS.out)
  replace GG := Lib.hid ((hb8.block _ (heap_lt GG.out)).trans GG.out)
  replace HW := Lib.hid (HW.out.trans (hb8.mono HW.out.size))
  clear hb8
  go_wp2_with fail
  refine (toPartS_c ab capb b _ fpb hsb ROb.out).mono ?_
  rintro e w9 ⟨A9, c9, fx9, rfl, hr9, hn9, hf9, hd9, hb9⟩
  have HD9 := Lib.hid hd9; clear hd9
  have ht9 := hr9.lt
  have sz9 := hb9.size
  replace NX5 := Lib.hid (NX5.out.but (But.of_below hb9 []) RX5.out.lt (by simp))
  replace NX6 := Lib.hid (NX6.out.but (But.of_below hb9 []) RX6.out.lt (by simp))
  replace ROb := Lib.hid (ROb.out.below' hb9)
  replace RX3 := Lib.hid (RX3.out.below' hb9)
  replace RX5 := Lib.hid (RX5.out.below' hb9)
  replace RX6 := Lib.hid (RX6.out.below' hb9)
  replace GS := Lib.hid ((hb9.block _ (heap_lt GS.out)).trans GS.out)
  replace GG := Lib.hid ((hb9.block _ (heap_lt GG.out)).trans GG.out)
  replace HW := Lib.hid (HW.out.trans (hb9.mono HW.out.size))
  have RX9 := Lib.hid hr9; have NX9 := Lib.hid hn9; have HF9 := Lib.hid hf9; have HLT9 := Lib.hid ht9; clear hr9 hn9 hf9 ht9 hb9
  go_wp2_with fail
  refine (eqPartS_c _ _ _ _ b _ fx5 fx9 RX5.out RX9.out).mono ?_
  rintro e w10 ⟨rfl, hb10⟩
  have sz10 := hb10.size
  replace NX5 := Lib.hid (NX5.out.but (But.of_below hb10 []) RX5.out.lt (by simp))
  replace NX6 := Lib.hid (NX6.out.but (But.of_below hb10 []) RX6.out.lt (by simp))
  replace NX9 := Lib.hid (NX9.out.but (But.of_below hb10 []) RX9.out.lt (by simp))
  replace ROb := Lib.hid (ROb.out.below' hb10)
  replace RX3 := Lib.hid (RX3.out.below' hb10)
  replace RX5 := Lib.hid (RX5.out.below' hb10)
  replace RX6 := Lib.hid (RX6.out.below' hb10)
  replace RX9 := Lib.hid (RX9.out.below' hb10)
  replace GS := Lib.hid ((hb10.block _ (heap_lt GS.out)).trans GS.out)
  replace GG := Lib.hid ((hb10.block _ (heap_lt GG.out)).trans GG.out)
  replace HW := Lib.hid (HW.out.trans (hb10.mono HW.out.size))
  clear hb10
  clear NX9
  clear RX9
  go_wp2_with fail
  refine (markPartS_c A5 c5 b (1) _ fx5 (by omega) hsb (by omega) RX5.out NX5.out HD5.out).mono ?_
  rintro e w11 ⟨rfl, hb11, _, _, _⟩
  have sz11 := hb11.size
  clear NX5
  replace NX6 := Lib.hid (NX6.out.but hb11 RX6.out.lt (fun b hb hx => by have h1 := HLT6.out b hb; have h2 := HF5.out b hx; have h3 := HLT5.out b hx; have h4 := HF6.out b hb; omega))
  replace ROb := Lib.hid (ROb.out.but hb11 (fun b hb hx => by have h1 := HLob.out b hb; have h2 := HF5.out b hx; have h3 := HLT5.out b hx; have h4 := HFob.out b hb; omega))
  replace RX3 := Lib.hid (RX3.out.but hb11 (fun b hb hx => by have h1 := HLT3.out b hb; have h2 := HF5.out b hx; have h3 := HLT5.out b hx; have h4 := HF3.out b hb; omega))
  replace RX6 := Lib.hid (RX6.out.but hb11 (fun b hb hx => by have h1 := HLT6.out b hb; have h2 := HF5.out b hx; have h3 := HLT5.out b hx; have h4 := HF6.out b hb; omega))
  replace GS := Lib.hid (hb11.heap GS.out (fun hx => by have h2 := HF5.out _ hx; have h3 := HLT5.out _ hx; omega))
  replace GG := Lib.hid (hb11.heap GG.out (fun hx => by have h2 := HF5.out _ hx; have h3 := HLT5.out _ hx; omega))
  replace HW := Lib.hid (HW.out.trans (hb11.below HW.out.size (fun b hx => by have h2 := HF5.out b hx; omega)))
  clear RX5
  clear hb11
  have hq1 : decide ((1 + (cntPs b : Nat) : Int) < 0) = false := by simp; omega
  have hq2 : ¬ ((1 + (cntPs b : Nat) : Int) < 0) := by omega
  obtain ⟨o2_0, o2_1, _, _, o2_z⟩ := two_at GS.out
  obtain ⟨o3_0, o3_1, _, _, o3_z⟩ := two_at GG.out
  go_wp2_with fail
  clear o2_0 o2_1 o2_z o3_0 o3_1 o3_z
  refine (eqRowsResult_c C _ _ L _ fx6 fx3 RX6.out RX3.out).mono ?_
  rintro e w12 ⟨rfl, hb12⟩
  have sz12 := hb12.size
  replace NX6 := Lib.hid (NX6.out.but (But.of_below hb12 []) RX6.out.lt (by simp))
  replace ROb := Lib.hid (ROb.out.below' hb12)
  replace RX3 := Lib.hid (RX3.out.below' hb12)
  replace RX6 := Lib.hid (RX6.out.below' hb12)
  replace GS := Lib.hid ((hb12.block _ (heap_lt GS.out)).trans GS.out)
  replace GG := Lib.hid ((hb12.block _ (heap_lt GG.out)).trans GG.out)
  replace HW := Lib.hid (HW.out.trans (hb12.mono HW.out.size))
  clear hb12
  obtain ⟨o4_0, o4_1, _, _, o4_z⟩ := two_at GG.out
  go_wp2_with fail
  clear o4_0 o4_1 o4_z
  refine (markRowsResult_c C _ L 1 _ fx6 (by omega) (by omega) (by omega) RX6.out NX6.out).mono ?_
  rintro e w13 ⟨rfl, hb13, hm13⟩
  have sz13 := hb13.size
  clear NX6
  replace ROb := Lib.hid (ROb.out.but hb13 (fun b hb hx => by have h1 := HLob.out b hb; have h2 := HF6.out b hx; have h3 := HLT6.out b hx; have h4 := HFob.out b hb; omega))
  replace RX3 := Lib.hid (RX3.out.but hb13 (fun b hb hx => by have h1 := HLT3.out b hb; have h2 := HF6.out b hx; have h3 := HLT6.out b hx; have h4 := HF3.out b hb; omega))
  replace GS := Lib.hid (hb13.heap GS.out (fun hx => by have h2 := HF6.out _ hx; have h3 := HLT6.out _ hx; omega))
  replace GG := Lib.hid (hb13.heap GG.out (fun hx => by have h2 := HF6.out _ hx; have h3 := HLT6.out _ hx; omega))
  replace HW := Lib.hid (HW.out.trans (hb13.below HW.out.size (fun b hx => by have h2 := HF6.out b hx; omega)))
  replace RX6 := Lib.hid hm13; clear hb13 hm13
  obtain ⟨o5_0, o5_1, _, _, o5_z⟩ := two_at GG.out
  go_wp2_with fail
  clear o5_0 o5_1 o5_z
  refine (heldRowsResult_c C _ L.length 1 _ fx6 (by omega) (by omega) (by omega) A6 c6 rfl RX6.out).mono ?_
  rintro e w14 ⟨rfl, hb14⟩
  have sz14 := hb14.size
  replace ROb := Lib.hid (ROb.out.below' hb14)
  replace RX3 := Lib.hid (RX3.out.below' hb14)
  replace RX6 := Lib.hid (RX6.out.below' hb14)
  replace GS := Lib.hid ((hb14.block _ (heap_lt GS.out)).trans GS.out)
  replace GG := Lib.hid ((hb14.block _ (heap_lt GG.out)).trans GG.out)
  replace HW := Lib.hid (HW.out.trans (hb14.mono HW.out.size))
  clear hb14
  have hq3 : decide ((1 : Int) + (L.length * 4 : Nat) < 0) = false := by simp; omega
  go_wp2_with fail
  refine (toPartS_c ab capb b _ fpb hsb ROb.out).mono ?_
  rintro e w15 ⟨A15, c15, fx15, rfl, hr15, hn15, hf15, hd15, hb15⟩
  have HD15 := Lib.hid hd15; clear hd15
  have ht15 := hr15.lt
  have sz15 := hb15.size
  replace ROb := Lib.hid (ROb.out.below' hb15)
  replace RX3 := Lib.hid (RX3.out.below' hb15)
  replace RX6 := Lib.hid (RX6.out.below' hb15)
  replace GS := Lib.hid ((hb15.block _ (heap_lt GS.out)).trans GS.out)
  replace GG := Lib.hid ((hb15.block _ (heap_lt GG.out)).trans GG.out)
  replace HW := Lib.hid (HW.out.trans (hb15.mono HW.out.size))
  have RX15 := Lib.hid hr15; have NX15 := Lib.hid hn15; have HF15 := Lib.hid hf15; have HLT15 := Lib.hid ht15; clear hr15 hn15 hf15 ht15 hb15
  go_wp2_with fail
  refine (ask _ _ b _ fx15 hsb wrb RX15.out).mono ?_
  rw [HC.out, HL.out]
  rintro e w16 ⟨q16, rfl, ⟨v16, fx16, rfl, hr16, hn16, hf16⟩, hb16⟩
  obtain ⟨A16, c16, rfl⟩ := hr16.rows_form
  have ht16 := hr16.lt
  have sz16 := hb16.size
  replace NX15 := Lib.hid (NX15.out.but (But.of_below hb16 []) RX15.out.lt (by simp))
  replace ROb := Lib.hid (ROb.out.below' hb16)
  replace RX3 := Lib.hid (RX3.out.below' hb16)
  replace RX6 := Lib.hid (RX6.out.below' hb16)
  replace RX15 := Lib.hid (RX15.out.below' hb16)
  replace GS := Lib.hid ((hb16.block _ (heap_lt GS.out)).trans GS.out)
  replace GG := Lib.hid ((hb16.block _ (heap_lt GG.out)).trans GG.out)
  replace HW := Lib.hid (HW.out.trans (hb16.mono HW.out.size))
  have RX16 := Lib.hid hr16; have NX16 := Lib.hid hn16; have HF16 := Lib.hid hf16; have HLT16 := Lib.hid ht16; clear hr16 hn16 hf16 ht16 hb16
  obtain ⟨o6_0, o6_1, _, _, o6_z⟩ := two_at GS.out
  have gN := heap_new w16 (.cells #[.int .i64 C, (.slice A16 L.length c16)] 31) rfl
  have bN := below_new (w := w16) (.cells #[.int .i64 C, (.slice A16 L.length c16)] 31)
  have GN := Lib.hid gN; have BN := Lib.hid bN; clear gN bN
  go_wp2_with fail
  clear o6_0 o6_1 o6_z
  generalize w16.alloc (.cells #[.int .i64 C, (.slice A16 L.length c16)] 31) = w17 at GN BN ⊢
  have sz17 := BN.out.size
  replace NX15 := Lib.hid (NX15.out.but (But.of_below BN.out []) RX15.out.lt (by simp))
  replace NX16 := Lib.hid (NX16.out.but (But.of_below BN.out []) RX16.out.lt (by simp))
  replace ROb := Lib.hid (ROb.out.below' BN.out)
  replace RX3 := Lib.hid (RX3.out.below' BN.out)
  replace RX6 := Lib.hid (RX6.out.below' BN.out)
  replace RX15 := Lib.hid (RX15.out.below' BN.out)
  replace RX16 := Lib.hid (RX16.out.below' BN.out)
  replace GS := Lib.hid ((BN.out.block _ (heap_lt GS.out)).trans GS.out)
  replace GG := Lib.hid ((BN.out.block _ (heap_lt GG.out)).trans GG.out)
  replace HW := Lib.hid (HW.out.trans (BN.out.mono HW.out.size))
  have sgGH := heap_lt GN.out
  have GH := Lib.hid GN.out; clear GN BN
  refine (eqRowsResult_c C _ _ L _ fx16 fx3 RX16.out RX3.out).mono ?_
  rintro e w18 ⟨rfl, hb18⟩
  have sz18 := hb18.size
  replace NX15 := Lib.hid (NX15.out.but (But.of_below hb18 []) RX15.out.lt (by simp))
  replace NX16 := Lib.hid (NX16.out.but (But.of_below hb18 []) RX16.out.lt (by simp))
  replace ROb := Lib.hid (ROb.out.below' hb18)
  replace RX3 := Lib.hid (RX3.out.below' hb18)
  replace RX6 := Lib.hid (RX6.out.below' hb18)
  replace RX15 := Lib.hid (RX15.out.below' hb18)
  replace RX16 := Lib.hid (RX16.out.below' hb18)
  replace GS := Lib.hid ((hb18.block _ (heap_lt GS.out)).trans GS.out)
  replace GG := Lib.hid ((hb18.block _ (heap_lt GG.out)).trans GG.out)
  replace GH := Lib.hid ((hb18.block _ (heap_lt GH.out)).trans GH.out)
  replace HW := Lib.hid (HW.out.trans (hb18.mono HW.out.size))
  clear hb18
  obtain ⟨o7_0, o7_1, _, _, o7_z⟩ := two_at GG.out
  go_wp2_with fail
  clear o7_0 o7_1 o7_z
  refine (heldRowsResult_c C _ L.length 1 _ fx6 (by omega) (by omega) (by omega) A6 c6 rfl RX6.out).mono ?_
  rintro e w19 ⟨rfl, hb19⟩
  have sz19 := hb19.size
  replace NX15 := Lib.hid (NX15.out.but (But.of_below hb19 []) RX15.out.lt (by simp))
  replace NX16 := Lib.hid (NX16.out.but (But.of_below hb19 []) RX16.out.lt (by simp))
  replace ROb := Lib.hid (ROb.out.below' hb19)
  replace RX3 := Lib.hid (RX3.out.below' hb19)
  replace RX6 := Lib.hid (RX6.out.below' hb19)
  replace RX15 := Lib.hid (RX15.out.below' hb19)
  replace RX16 := Lib.hid (RX16.out.below' hb19)
  replace GS := Lib.hid ((hb19.block _ (heap_lt GS.out)).trans GS.out)
  replace GG := Lib.hid ((hb19.block _ (heap_lt GG.out)).trans GG.out)
  replace GH := Lib.hid ((hb19.block _ (heap_lt GH.out)).trans GH.out)
  replace HW := Lib.hid (HW.out.trans (hb19.mono HW.out.size))
  clear hb19
  go_wp2
  go_ret
  exact ⟨rfl, HW.out⟩
end Go.Proofs.Ytoabohllphoioaa
