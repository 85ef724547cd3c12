/- The law on JoinRows answers true: the walk. -/
import Derived.Test.YthmmjkpgepffeaaAsk2
namespace Go.Proofs.Ythmmjkpgepffeaa
open Go.RowKit

theorem jrL_len (a b : List R) : (jrL a b).length ≤ 12 := by
  unfold jrL
  split
  · rename_i h
    by_cases h0 : rowsF a = 0
    · by_cases h1 : rowsF b = 0
      · cases hJ : joinGo a a b with
        | none => simp
        | some o =>
          by_cases h2 : 12 < o.length
          · simp [jrC, h0, h1, hJ, jC, h2] at h
          · simp; omega
      · simp [jrC, h0, h1] at h
    · simp [jrC, h0] at h
  · simp

set_option maxRecDepth 100000 in
set_option maxHeartbeats 8000000 in
theorem lawJoinRows_c (ask : AskJoinRows) (a0 : Option Addr) (cap0 : Nat) (rs0 : List R) (wr0 : ∀ r ∈ rs0, WfR r) (a1 : Option Addr) (cap1 : Nat) (rs1 : List R) (wr1 : ∀ r ∈ rs1, WfR r) (w : World) (fp0 : List Nat) (fp1 : List Nat) (hr0 : Rd w 4 (.slice a0 rs0.length cap0) (rcs rs0) fp0) (hr1 : Rd w 4 (.slice a1 rs1.length cap1) (rcs rs1) fp1) :
    Calls Try.prog 10 #[.slice a0 rs0.length cap0, .slice a1 rs1.length cap1] w fun e w' => e = .returned (.bool true) ∧ Below w.heap.size w w' := by
  have hmax0 := hr0.len_le
  have hmx0 : rs0.length ≤ 9223372036854775807 := by unfold maxLen at hmax0; omega
  have hlt0 := hr0.lt
  have HLo0 := Lib.hid hlt0; clear hlt0
  have hmax1 := hr1.len_le
  have hmx1 : rs1.length ≤ 9223372036854775807 := by unfold maxLen at hmax1; omega
  have hlt1 := hr1.lt
  have HLo1 := Lib.hid hlt1; clear hlt1
  by_cases hbig0 : (1048576 : Int) < (rs0.length : Int)
  · have HBIG0 := Lib.hid hbig0; clear hbig0
    go_enter Try.func10, Try.ntmps10
    go_wp2_with fail
    refine (szRowS_c a0 rs0.length cap0 ((1048576 : Int)) _ hmx0 (by omega) (by omega)).mono ?_
    rw [if_pos (show (1048576 : Int) < (rs0.length : Int) from HBIG0.out)]
    rintro e w1 ⟨rfl, rfl⟩
    go_wp2
    go_ret
    exact ⟨rfl, Below.refl _ _⟩
  have hsml0 : (rs0.length : Int) ≤ (1048576 : Int) := by omega
  have hl0 : decide ((1048576 : Int) - (rs0.length : Int) < 0) = false := by simp; omega
  have hs0 : rs0.length ≤ 1048576 := by omega
  have HSML0 := Lib.hid hsml0; clear hsml0 hbig0
  by_cases hbig1 : (1048576 : Int) - (rs0.length : Int) < (rs1.length : Int)
  · have HBIG1 := Lib.hid hbig1; clear hbig1
    go_enter Try.func10, Try.ntmps10
    go_wp2_with fail
    refine (szRowS_c a0 rs0.length cap0 ((1048576 : Int)) _ hmx0 (by omega) (by omega)).mono ?_
    rw [if_neg (show ¬ (1048576 : Int) < (rs0.length : Int) by have := HSML0.out; omega)]
    rintro e w1 ⟨rfl, rfl⟩
    go_wp2_with fail
    refine (szRowS_c a1 rs1.length cap1 ((1048576 : Int) - (rs0.length : Int)) _ hmx1 (by omega) (by omega)).mono ?_
    rw [if_pos (show (1048576 : Int) - (rs0.length : Int) < (rs1.length : Int) from HBIG1.out)]
    rintro e w1 ⟨rfl, rfl⟩
    go_wp2
    go_ret
    exact ⟨rfl, Below.refl _ _⟩
  have hsml1 : (rs1.length : Int) ≤ (1048576 : Int) - (rs0.length : Int) := by omega
  have hl1 : decide ((1048576 : Int) - (rs0.length : Int) - (rs1.length : Int) < 0) = false := by simp; omega
  have hs1 : rs1.length ≤ 1048576 := by omega
  have HSML1 := Lib.hid hsml1; clear hsml1 hbig1
  have hLl := jrL_len rs0 rs1
  generalize hC : jrC rs0 rs1 = C
  generalize hL : jrL rs0 rs1 = L at hLl
  have HC := Lib.hid hC; have HL := Lib.hid hL; clear hC hL
  go_enter Try.func10, Try.ntmps10
  go_wp2_with fail
  refine (szRowS_c a0 rs0.length cap0 ((1048576 : Int)) _ hmx0 (by omega) (by omega)).mono ?_
  rw [if_neg (show ¬ (1048576 : Int) < (rs0.length : Int) by have := HSML0.out; omega)]
  rintro e w1 ⟨rfl, rfl⟩
  go_wp2_with fail
  refine (szRowS_c a1 rs1.length cap1 ((1048576 : Int) - (rs0.length : Int)) _ hmx1 (by omega) (by omega)).mono ?_
  rw [if_neg (show ¬ (1048576 : Int) - (rs0.length : Int) < (rs1.length : Int) by have := HSML1.out; omega)]
  rintro e w1 ⟨rfl, rfl⟩
  have HW := Lib.hid (Below.refl w.heap.size w)
  have RO0 := Lib.hid hr0; clear hr0
  have RO1 := Lib.hid hr1; clear hr1
  have HFo0 := Lib.hid (show From 0 fp0 from fun _ _ => Nat.zero_le _)
  have HFo1 := Lib.hid (show From 0 fp1 from fun _ _ => Nat.zero_le _)
  go_wp2_with fail
  refine (toRowS_c a0 cap0 rs0 _ fp0 hs0 RO0.out).mono ?_
  rintro e w1 ⟨A1, c1, fx1, rfl, hr1, hn1, hf1, hb1⟩
  have ht1 := hr1.lt
  have sz1 := hb1.size
  replace RO0 := Lib.hid (RO0.out.below' hb1)
  replace RO1 := Lib.hid (RO1.out.below' hb1)
  replace HW := Lib.hid (HW.out.trans (hb1.mono HW.out.size))
  have RX1 := Lib.hid hr1; have NX1 := Lib.hid hn1; have HF1 := Lib.hid hf1; have HLT1 := Lib.hid ht1; clear hr1 hn1 hf1 ht1 hb1
  go_wp2_with fail
  refine (toRowS_c a1 cap1 rs1 _ fp1 hs1 RO1.out).mono ?_
  rintro e w2 ⟨A2, c2, fx2, rfl, hr2, hn2, hf2, hb2⟩
  have ht2 := hr2.lt
  have sz2 := hb2.size
  replace NX1 := Lib.hid (NX1.out.but (But.of_below hb2 []) RX1.out.lt (by simp))
  replace RO0 := Lib.hid (RO0.out.below' hb2)
  replace RO1 := Lib.hid (RO1.out.below' hb2)
  replace RX1 := Lib.hid (RX1.out.below' hb2)
  replace HW := Lib.hid (HW.out.trans (hb2.mono HW.out.size))
  have RX2 := Lib.hid hr2; have NX2 := Lib.hid hn2; have HF2 := Lib.hid hf2; have HLT2 := Lib.hid ht2; clear hr2 hn2 hf2 ht2 hb2
  go_wp2_with fail
  refine (specJoinRows_c _ _ _ _ rs0 rs1 _ fx1 fx2 RX1.out RX2.out).mono ?_
  rw [HC.out, HL.out]
  rintro e w3 ⟨q3, rfl, ⟨v3, fv3, rfl, hr3, hn3, hf3⟩, hb3⟩
  obtain ⟨A3, c3, rfl⟩ := hr3.rows_form
  have ht3 := hr3.lt
  have sz3 := hb3.size
  replace NX1 := Lib.hid (NX1.out.but (But.of_below hb3 []) RX1.out.lt (by simp))
  replace NX2 := Lib.hid (NX2.out.but (But.of_below hb3 []) RX2.out.lt (by simp))
  replace RO0 := Lib.hid (RO0.out.below' hb3)
  replace RO1 := Lib.hid (RO1.out.below' hb3)
  replace RX1 := Lib.hid (RX1.out.below' hb3)
  replace RX2 := Lib.hid (RX2.out.below' hb3)
  replace HW := Lib.hid (HW.out.trans (hb3.mono HW.out.size))
  have RX3 := Lib.hid hr3; have NX3 := Lib.hid hn3; have HF3 := Lib.hid hf3; have HLT3 := Lib.hid ht3; clear hr3 hn3 hf3 ht3 hb3
  clear NX1
  clear RX1
  clear NX2
  clear RX2
  clear NX3
  have gN := heap_new w3 (.cells #[.int .i64 C, .slice A3 L.length c3] 30) rfl
  have bN := below_new (w := w3) (.cells #[.int .i64 C, .slice A3 L.length c3] 30)
  have GN := Lib.hid gN; have BN := Lib.hid bN; clear gN bN
  go_wp2_with fail
  generalize w3.alloc (.cells #[.int .i64 C, .slice A3 L.length c3] 30) = w4 at GN BN ⊢
  have sz4 := BN.out.size
  replace RO0 := Lib.hid (RO0.out.below' BN.out)
  replace RO1 := Lib.hid (RO1.out.below' BN.out)
  replace RX3 := Lib.hid (RX3.out.below' BN.out)
  replace HW := Lib.hid (HW.out.trans (BN.out.mono HW.out.size))
  have sgGS := heap_lt GN.out
  have GS := Lib.hid GN.out; clear GN BN
  refine (toRowS_c a0 cap0 rs0 _ fp0 hs0 RO0.out).mono ?_
  rintro e w5 ⟨A5, c5, fx5, rfl, hr5, hn5, hf5, hb5⟩
  have ht5 := hr5.lt
  have sz5 := hb5.size
  replace RO0 := Lib.hid (RO0.out.below' hb5)
  replace RO1 := Lib.hid (RO1.out.below' hb5)
  replace RX3 := Lib.hid (RX3.out.below' hb5)
  replace GS := Lib.hid ((hb5.block _ (heap_lt GS.out)).trans GS.out)
  replace HW := Lib.hid (HW.out.trans (hb5.mono HW.out.size))
  have RX5 := Lib.hid hr5; have NX5 := Lib.hid hn5; have HF5 := Lib.hid hf5; have HLT5 := Lib.hid ht5; clear hr5 hn5 hf5 ht5 hb5
  go_wp2_with fail
  refine (toRowS_c a1 cap1 rs1 _ fp1 hs1 RO1.out).mono ?_
  rintro e w6 ⟨A6, c6, fx6, rfl, hr6, hn6, hf6, hb6⟩
  have ht6 := hr6.lt
  have sz6 := hb6.size
  replace NX5 := Lib.hid (NX5.out.but (But.of_below hb6 []) RX5.out.lt (by simp))
  replace RO0 := Lib.hid (RO0.out.below' hb6)
  replace RO1 := Lib.hid (RO1.out.below' hb6)
  replace RX3 := Lib.hid (RX3.out.below' hb6)
  replace RX5 := Lib.hid (RX5.out.below' hb6)
  replace GS := Lib.hid ((hb6.block _ (heap_lt GS.out)).trans GS.out)
  replace HW := Lib.hid (HW.out.trans (hb6.mono HW.out.size))
  have RX6 := Lib.hid hr6; have NX6 := Lib.hid hn6; have HF6 := Lib.hid hf6; have HLT6 := Lib.hid ht6; clear hr6 hn6 hf6 ht6 hb6
  go_wp2_with fail
  refine (ask _ _ _ _ rs0 rs1 _ fx5 fx6 hs0 hs1 wr0 wr1 RX5.out RX6.out).mono ?_
  rw [HC.out, HL.out]
  rintro e w7 ⟨q7, rfl, ⟨v7, fv7, rfl, hr7, hn7, hf7⟩, hb7⟩
  obtain ⟨A7, c7, rfl⟩ := hr7.rows_form
  have ht7 := hr7.lt
  have sz7 := hb7.size
  replace NX5 := Lib.hid (NX5.out.but (But.of_below hb7 []) RX5.out.lt (by simp))
  replace NX6 := Lib.hid (NX6.out.but (But.of_below hb7 []) RX6.out.lt (by simp))
  replace RO0 := Lib.hid (RO0.out.below' hb7)
  replace RO1 := Lib.hid (RO1.out.below' hb7)
  replace RX3 := Lib.hid (RX3.out.below' hb7)
  replace RX5 := Lib.hid (RX5.out.below' hb7)
  replace RX6 := Lib.hid (RX6.out.below' hb7)
  replace GS := Lib.hid ((hb7.block _ (heap_lt GS.out)).trans GS.out)
  replace HW := Lib.hid (HW.out.trans (hb7.mono HW.out.size))
  have RX7 := Lib.hid hr7; have NX7 := Lib.hid hn7; have HF7 := Lib.hid hf7; have HLT7 := Lib.hid ht7; clear hr7 hn7 hf7 ht7 hb7
  have hx0 : w7.cell? ⟨w3.heap.size, 0, none⟩ = some (.int .i64 C) := cell_of_heap GS.out
  have hxz : w3.heap.size < w7.heap.size := heap_lt GS.out
  have hx1 : w7.cell? ⟨w3.heap.size, 1, none⟩ = some (.slice A3 L.length c3) := cell_of_heap GS.out
  have gN := heap_new w7 (.cells #[.int .i64 C, .slice A7 L.length c7] 30) rfl
  have bN := below_new (w := w7) (.cells #[.int .i64 C, .slice A7 L.length c7] 30)
  have GN := Lib.hid gN; have BN := Lib.hid bN; clear gN bN
  go_wp2_with fail
  generalize w7.alloc (.cells #[.int .i64 C, .slice A7 L.length c7] 30) = w8 at GN BN ⊢
  have sz8 := BN.out.size
  replace NX5 := Lib.hid (NX5.out.but (But.of_below BN.out []) RX5.out.lt (by simp))
  replace NX6 := Lib.hid (NX6.out.but (But.of_below BN.out []) RX6.out.lt (by simp))
  replace NX7 := Lib.hid (NX7.out.but (But.of_below BN.out []) RX7.out.lt (by simp))
  replace RO0 := Lib.hid (RO0.out.below' BN.out)
  replace RO1 := Lib.hid (RO1.out.below' BN.out)
  replace RX3 := Lib.hid (RX3.out.below' BN.out)
  replace RX5 := Lib.hid (RX5.out.below' BN.out)
  replace RX6 := Lib.hid (RX6.out.below' BN.out)
  replace RX7 := Lib.hid (RX7.out.below' BN.out)
  replace GS := Lib.hid ((BN.out.block _ (heap_lt GS.out)).trans GS.out)
  replace HW := Lib.hid (HW.out.trans (BN.out.mono HW.out.size))
  have sgGG := heap_lt GN.out
  have GG := Lib.hid GN.out; clear GN BN
  clear hx0 hx1 hxz
  refine (eqRowsResult_c C _ _ L _ fv7 fv3 RX7.out RX3.out).mono ?_
  rintro e w9 ⟨rfl, hb9⟩
  have sz9 := hb9.size
  replace NX5 := Lib.hid (NX5.out.but (But.of_below hb9 []) RX5.out.lt (by simp))
  replace NX6 := Lib.hid (NX6.out.but (But.of_below hb9 []) RX6.out.lt (by simp))
  replace NX7 := Lib.hid (NX7.out.but (But.of_below hb9 []) RX7.out.lt (by simp))
  replace RO0 := Lib.hid (RO0.out.below' hb9)
  replace RO1 := Lib.hid (RO1.out.below' hb9)
  replace RX3 := Lib.hid (RX3.out.below' hb9)
  replace RX5 := Lib.hid (RX5.out.below' hb9)
  replace RX6 := Lib.hid (RX6.out.below' hb9)
  replace RX7 := Lib.hid (RX7.out.below' hb9)
  replace GS := Lib.hid ((hb9.block _ (heap_lt GS.out)).trans GS.out)
  replace GG := Lib.hid ((hb9.block _ (heap_lt GG.out)).trans GG.out)
  replace HW := Lib.hid (HW.out.trans (hb9.mono HW.out.size))
  clear hb9
  go_wp2_with fail
  refine (toRowS_c a0 cap0 rs0 _ fp0 hs0 RO0.out).mono ?_
  rintro e w10 ⟨A10, c10, fx10, rfl, hr10, hn10, hf10, hb10⟩
  have ht10 := hr10.lt
  have sz10 := hb10.size
  replace NX5 := Lib.hid (NX5.out.but (But.of_below hb10 []) RX5.out.lt (by simp))
  replace NX6 := Lib.hid (NX6.out.but (But.of_below hb10 []) RX6.out.lt (by simp))
  replace NX7 := Lib.hid (NX7.out.but (But.of_below hb10 []) RX7.out.lt (by simp))
  replace RO0 := Lib.hid (RO0.out.below' hb10)
  replace RO1 := Lib.hid (RO1.out.below' hb10)
  replace RX3 := Lib.hid (RX3.out.below' hb10)
  replace RX5 := Lib.hid (RX5.out.below' hb10)
  replace RX6 := Lib.hid (RX6.out.below' hb10)
  replace RX7 := Lib.hid (RX7.out.below' hb10)
  replace GS := Lib.hid ((hb10.block _ (heap_lt GS.out)).trans GS.out)
  replace GG := Lib.hid ((hb10.block _ (heap_lt GG.out)).trans GG.out)
  replace HW := Lib.hid (HW.out.trans (hb10.mono HW.out.size))
  have RX10 := Lib.hid hr10; have NX10 := Lib.hid hn10; have HF10 := Lib.hid hf10; have HLT10 := Lib.hid ht10; clear hr10 hn10 hf10 ht10 hb10
  go_wp2_with fail
  refine (eqRowS_c _ _ _ _ rs0 _ fx5 fx10 RX5.out RX10.out).mono ?_
  rintro e w11 ⟨rfl, hb11⟩
  have sz11 := hb11.size
  replace NX5 := Lib.hid (NX5.out.but (But.of_below hb11 []) RX5.out.lt (by simp))
  replace NX6 := Lib.hid (NX6.out.but (But.of_below hb11 []) RX6.out.lt (by simp))
  replace NX7 := Lib.hid (NX7.out.but (But.of_below hb11 []) RX7.out.lt (by simp))
  replace NX10 := Lib.hid (NX10.out.but (But.of_below hb11 []) RX10.out.lt (by simp))
  replace RO0 := Lib.hid (RO0.out.below' hb11)
  replace RO1 := Lib.hid (RO1.out.below' hb11)
  replace RX3 := Lib.hid (RX3.out.below' hb11)
  replace RX5 := Lib.hid (RX5.out.below' hb11)
  replace RX6 := Lib.hid (RX6.out.below' hb11)
  replace RX7 := Lib.hid (RX7.out.below' hb11)
  replace RX10 := Lib.hid (RX10.out.below' hb11)
  replace GS := Lib.hid ((hb11.block _ (heap_lt GS.out)).trans GS.out)
  replace GG := Lib.hid ((hb11.block _ (heap_lt GG.out)).trans GG.out)
  replace HW := Lib.hid (HW.out.trans (hb11.mono HW.out.size))
  clear hb11
  clear NX10
  clear RX10
  go_wp2_with fail
  refine (toRowS_c a1 cap1 rs1 _ fp1 hs1 RO1.out).mono ?_
  rintro e w12 ⟨A12, c12, fx12, rfl, hr12, hn12, hf12, hb12⟩
  have ht12 := hr12.lt
  have sz12 := hb12.size
  replace NX5 := Lib.hid (NX5.out.but (But.of_below hb12 []) RX5.out.lt (by simp))
  replace NX6 := Lib.hid (NX6.out.but (But.of_below hb12 []) RX6.out.lt (by simp))
  replace NX7 := Lib.hid (NX7.out.but (But.of_below hb12 []) RX7.out.lt (by simp))
  replace RO0 := Lib.hid (RO0.out.below' hb12)
  replace RO1 := Lib.hid (RO1.out.below' hb12)
  replace RX3 := Lib.hid (RX3.out.below' hb12)
  replace RX5 := Lib.hid (RX5.out.below' hb12)
  replace RX6 := Lib.hid (RX6.out.below' hb12)
  replace RX7 := Lib.hid (RX7.out.below' hb12)
  replace GS := Lib.hid ((hb12.block _ (heap_lt GS.out)).trans GS.out)
  replace GG := Lib.hid ((hb12.block _ (heap_lt GG.out)).trans GG.out)
  replace HW := Lib.hid (HW.out.trans (hb12.mono HW.out.size))
  have RX12 := Lib.hid hr12; have NX12 := Lib.hid hn12; have HF12 := Lib.hid hf12; have HLT12 := Lib.hid ht12; clear hr12 hn12 hf12 ht12 hb12
  go_wp2_with fail
  refine (eqRowS_c _ _ _ _ rs1 _ fx6 fx12 RX6.out RX12.out).mono ?_
  rintro e w13 ⟨rfl, hb13⟩
  have sz13 := hb13.size
  replace NX5 := Lib.hid (NX5.out.but (But.of_below hb13 []) RX5.out.lt (by simp))
  replace NX6 := Lib.hid (NX6.out.but (But.of_below hb13 []) RX6.out.lt (by simp))
  replace NX7 := Lib.hid (NX7.out.but (But.of_below hb13 []) RX7.out.lt (by simp))
  replace NX12 := Lib.hid (NX12.out.but (But.of_below hb13 []) RX12.out.lt (by simp))
  replace RO0 := Lib.hid (RO0.out.below' hb13)
  replace RO1 := Lib.hid (RO1.out.below' hb13)
  replace RX3 := Lib.hid (RX3.out.below' hb13)
  replace RX5 := Lib.hid (RX5.out.below' hb13)
  replace RX6 := Lib.hid (RX6.out.below' hb13)
  replace RX7 := Lib.hid (RX7.out.below' hb13)
  replace RX12 := Lib.hid (RX12.out.below' hb13)
  replace GS := Lib.hid ((hb13.block _ (heap_lt GS.out)).trans GS.out)
  replace GG := Lib.hid ((hb13.block _ (heap_lt GG.out)).trans GG.out)
  replace HW := Lib.hid (HW.out.trans (hb13.mono HW.out.size))
  clear hb13
  clear NX12
  clear RX12
  go_wp2_with fail
  refine (markRowS_c A5 c5 rs0.length _ (1) _ fx5 (by omega) (by omega) (by omega) RX5.out NX5.out).mono ?_
  rintro e w14 ⟨rfl, hb14, hz14, _, _⟩
  have sz14 := Nat.le_of_eq hz14.symm
  clear NX5
  replace NX6 := Lib.hid (NX6.out.but hb14 RX6.out.lt (fun b hb hx => by have h1 := HLT6.out b hb; have h2 := HF5.out b hx; have h3 := HLT5.out b hx; have h4 := HF6.out b hb; omega))
  replace NX7 := Lib.hid (NX7.out.but hb14 RX7.out.lt (fun b hb hx => by have h1 := HLT7.out b hb; have h2 := HF5.out b hx; have h3 := HLT5.out b hx; have h4 := HF7.out b hb; omega))
  replace RO0 := Lib.hid (RO0.out.but hb14 (fun b hb hx => by have h1 := HLo0.out b hb; have h2 := HF5.out b hx; have h3 := HLT5.out b hx; have h4 := HFo0.out b hb; omega))
  replace RO1 := Lib.hid (RO1.out.but hb14 (fun b hb hx => by have h1 := HLo1.out b hb; have h2 := HF5.out b hx; have h3 := HLT5.out b hx; have h4 := HFo1.out b hb; omega))
  replace RX3 := Lib.hid (RX3.out.but hb14 (fun b hb hx => by have h1 := HLT3.out b hb; have h2 := HF5.out b hx; have h3 := HLT5.out b hx; have h4 := HF3.out b hb; omega))
  replace RX6 := Lib.hid (RX6.out.but hb14 (fun b hb hx => by have h1 := HLT6.out b hb; have h2 := HF5.out b hx; have h3 := HLT5.out b hx; have h4 := HF6.out b hb; omega))
  replace RX7 := Lib.hid (RX7.out.but hb14 (fun b hb hx => by have h1 := HLT7.out b hb; have h2 := HF5.out b hx; have h3 := HLT5.out b hx; have h4 := HF7.out b hb; omega))
  replace GS := Lib.hid (hb14.heap GS.out (fun hx => by have h2 := HF5.out _ hx; have h3 := HLT5.out _ hx; omega))
  replace GG := Lib.hid (hb14.heap GG.out (fun hx => by have h2 := HF5.out _ hx; have h3 := HLT5.out _ hx; omega))
  replace HW := Lib.hid (HW.out.trans (hb14.below HW.out.size (fun b hx => by have h2 := HF5.out b hx; omega)))
  clear RX5
  clear hb14 hz14
  go_wp2_with fail
  refine (markRowS_c A6 c6 rs1.length _ (1 + (rs0.length * 4 : Nat)) _ fx6 (by omega) (by omega) (by omega) RX6.out NX6.out).mono ?_
  rintro e w15 ⟨rfl, hb15, hz15, _, _⟩
  have sz15 := Nat.le_of_eq hz15.symm
  clear NX6
  replace NX7 := Lib.hid (NX7.out.but hb15 RX7.out.lt (fun b hb hx => by have h1 := HLT7.out b hb; have h2 := HF6.out b hx; have h3 := HLT6.out b hx; have h4 := HF7.out b hb; omega))
  replace RO0 := Lib.hid (RO0.out.but hb15 (fun b hb hx => by have h1 := HLo0.out b hb; have h2 := HF6.out b hx; have h3 := HLT6.out b hx; have h4 := HFo0.out b hb; omega))
  replace RO1 := Lib.hid (RO1.out.but hb15 (fun b hb hx => by have h1 := HLo1.out b hb; have h2 := HF6.out b hx; have h3 := HLT6.out b hx; have h4 := HFo1.out b hb; omega))
  replace RX3 := Lib.hid (RX3.out.but hb15 (fun b hb hx => by have h1 := HLT3.out b hb; have h2 := HF6.out b hx; have h3 := HLT6.out b hx; have h4 := HF3.out b hb; omega))
  replace RX7 := Lib.hid (RX7.out.but hb15 (fun b hb hx => by have h1 := HLT7.out b hb; have h2 := HF6.out b hx; have h3 := HLT6.out b hx; have h4 := HF7.out b hb; omega))
  replace GS := Lib.hid (hb15.heap GS.out (fun hx => by have h2 := HF6.out _ hx; have h3 := HLT6.out _ hx; omega))
  replace GG := Lib.hid (hb15.heap GG.out (fun hx => by have h2 := HF6.out _ hx; have h3 := HLT6.out _ hx; omega))
  replace HW := Lib.hid (HW.out.trans (hb15.below HW.out.size (fun b hx => by have h2 := HF6.out b hx; omega)))
  clear RX6
  clear hb15 hz15
  have hq1 : decide ((1 + (rs0.length * 4 : Nat) + (rs1.length * 4 : Nat) : Int) < 0) = false := by simp; omega
  have hq2 : ¬ ((1 + (rs0.length * 4 : Nat) + (rs1.length * 4 : Nat) : Int) < 0) := by omega
  have hx0 : w15.cell? ⟨w3.heap.size, 0, none⟩ = some (.int .i64 C) := cell_of_heap GS.out
  have hxz : w3.heap.size < w15.heap.size := heap_lt GS.out
  have hx1 : w15.cell? ⟨w3.heap.size, 1, none⟩ = some (.slice A3 L.length c3) := cell_of_heap GS.out
  have hy0 : w15.cell? ⟨w7.heap.size, 0, none⟩ = some (.int .i64 C) := cell_of_heap GG.out
  have hyz : w7.heap.size < w15.heap.size := heap_lt GG.out
  have hy1 : w15.cell? ⟨w7.heap.size, 1, none⟩ = some (.slice A7 L.length c7) := cell_of_heap GG.out
  go_wp2_with fail
  clear hx0 hx1 hxz hy0 hy1 hyz
  refine (eqRowsResult_c C _ _ L _ fv7 fv3 RX7.out RX3.out).mono ?_
  rintro e w16 ⟨rfl, hb16⟩
  have sz16 := hb16.size
  replace NX7 := Lib.hid (NX7.out.but (But.of_below hb16 []) RX7.out.lt (by simp))
  replace RO0 := Lib.hid (RO0.out.below' hb16)
  replace RO1 := Lib.hid (RO1.out.below' hb16)
  replace RX3 := Lib.hid (RX3.out.below' hb16)
  replace RX7 := Lib.hid (RX7.out.below' hb16)
  replace GS := Lib.hid ((hb16.block _ (heap_lt GS.out)).trans GS.out)
  replace GG := Lib.hid ((hb16.block _ (heap_lt GG.out)).trans GG.out)
  replace HW := Lib.hid (HW.out.trans (hb16.mono HW.out.size))
  clear hb16
  have hy0 : w16.cell? ⟨w7.heap.size, 0, none⟩ = some (.int .i64 C) := cell_of_heap GG.out
  have hyz : w7.heap.size < w16.heap.size := heap_lt GG.out
  have hy1 : w16.cell? ⟨w7.heap.size, 1, none⟩ = some (.slice A7 L.length c7) := cell_of_heap GG.out
  go_wp2_with fail
  clear hy0 hy1 hyz
  refine (markRowsResult_c C _ L 1 _ fv7 (by omega) (by omega) (by omega) RX7.out NX7.out).mono ?_
  rintro e w17 ⟨rfl, hb17, hm17⟩
  have sz17 := hb17.size
  clear NX7
  replace RO0 := Lib.hid (RO0.out.but hb17 (fun b hb hx => by have h1 := HLo0.out b hb; have h2 := HF7.out b hx; have h3 := HLT7.out b hx; have h4 := HFo0.out b hb; omega))
  replace RO1 := Lib.hid (RO1.out.but hb17 (fun b hb hx => by have h1 := HLo1.out b hb; have h2 := HF7.out b hx; have h3 := HLT7.out b hx; have h4 := HFo1.out b hb; omega))
  replace RX3 := Lib.hid (RX3.out.but hb17 (fun b hb hx => by have h1 := HLT3.out b hb; have h2 := HF7.out b hx; have h3 := HLT7.out b hx; have h4 := HF3.out b hb; omega))
  replace GS := Lib.hid (hb17.heap GS.out (fun hx => by have h2 := HF7.out _ hx; have h3 := HLT7.out _ hx; omega))
  replace GG := Lib.hid (hb17.heap GG.out (fun hx => by have h2 := HF7.out _ hx; have h3 := HLT7.out _ hx; omega))
  replace HW := Lib.hid (HW.out.trans (hb17.below HW.out.size (fun b hx => by have h2 := HF7.out b hx; omega)))
  replace RX7 := Lib.hid hm17; clear hb17 hm17
  have hy0 : w17.cell? ⟨w7.heap.size, 0, none⟩ = some (.int .i64 C) := cell_of_heap GG.out
  have hyz : w7.heap.size < w17.heap.size := heap_lt GG.out
  have hy1 : w17.cell? ⟨w7.heap.size, 1, none⟩ = some (.slice A7 L.length c7) := cell_of_heap GG.out
  go_wp2_with fail
  clear hy0 hy1 hyz
  refine (heldRowsResult_c C _ L.length 1 _ fv7 (by omega) (by omega) (by omega) A7 c7 rfl RX7.out).mono ?_
  rintro e w18 ⟨rfl, hb18⟩
  have sz18 := hb18.size
  replace RO0 := Lib.hid (RO0.out.below' hb18)
  replace RO1 := Lib.hid (RO1.out.below' hb18)
  replace RX3 := Lib.hid (RX3.out.below' hb18)
  replace RX7 := Lib.hid (RX7.out.below' hb18)
  replace GS := Lib.hid ((hb18.block _ (heap_lt GS.out)).trans GS.out)
  replace GG := Lib.hid ((hb18.block _ (heap_lt GG.out)).trans GG.out)
  replace HW := Lib.hid (HW.out.trans (hb18.mono HW.out.size))
  clear hb18
  have hq3 : decide ((1 : Int) + (L.length * 4 : Nat) < 0) = false := by simp; omega
  go_wp2_with fail
  refine (toRowS_c a0 cap0 rs0 _ fp0 hs0 RO0.out).mono ?_
  rintro e w19 ⟨A19, c19, fx19, rfl, hr19, hn19, hf19, hb19⟩
  have ht19 := hr19.lt
  have sz19 := hb19.size
  replace RO0 := Lib.hid (RO0.out.below' hb19)
  replace RO1 := Lib.hid (RO1.out.below' hb19)
  replace RX3 := Lib.hid (RX3.out.below' hb19)
  replace RX7 := Lib.hid (RX7.out.below' hb19)
  replace GS := Lib.hid ((hb19.block _ (heap_lt GS.out)).trans GS.out)
  replace GG := Lib.hid ((hb19.block _ (heap_lt GG.out)).trans GG.out)
  replace HW := Lib.hid (HW.out.trans (hb19.mono HW.out.size))
  have RX19 := Lib.hid hr19; have NX19 := Lib.hid hn19; have HF19 := Lib.hid hf19; have HLT19 := Lib.hid ht19; clear hr19 hn19 hf19 ht19 hb19
  go_wp2_with fail
  refine (toRowS_c a1 cap1 rs1 _ fp1 hs1 RO1.out).mono ?_
  rintro e w20 ⟨A20, c20, fx20, rfl, hr20, hn20, hf20, hb20⟩
  have ht20 := hr20.lt
  have sz20 := hb20.size
  replace NX19 := Lib.hid (NX19.out.but (But.of_below hb20 []) RX19.out.lt (by simp))
  replace RO0 := Lib.hid (RO0.out.below' hb20)
  replace RO1 := Lib.hid (RO1.out.below' hb20)
  replace RX3 := Lib.hid (RX3.out.below' hb20)
  replace RX7 := Lib.hid (RX7.out.below' hb20)
  replace RX19 := Lib.hid (RX19.out.below' hb20)
  replace GS := Lib.hid ((hb20.block _ (heap_lt GS.out)).trans GS.out)
  replace GG := Lib.hid ((hb20.block _ (heap_lt GG.out)).trans GG.out)
  replace HW := Lib.hid (HW.out.trans (hb20.mono HW.out.size))
  have RX20 := Lib.hid hr20; have NX20 := Lib.hid hn20; have HF20 := Lib.hid hf20; have HLT20 := Lib.hid ht20; clear hr20 hn20 hf20 ht20 hb20
  go_wp2_with fail
  refine (ask _ _ _ _ rs0 rs1 _ fx19 fx20 hs0 hs1 wr0 wr1 RX19.out RX20.out).mono ?_
  rw [HC.out, HL.out]
  rintro e w21 ⟨q21, rfl, ⟨v21, fv21, rfl, hr21, hn21, hf21⟩, hb21⟩
  obtain ⟨A21, c21, rfl⟩ := hr21.rows_form
  have ht21 := hr21.lt
  have sz21 := hb21.size
  replace NX19 := Lib.hid (NX19.out.but (But.of_below hb21 []) RX19.out.lt (by simp))
  replace NX20 := Lib.hid (NX20.out.but (But.of_below hb21 []) RX20.out.lt (by simp))
  replace RO0 := Lib.hid (RO0.out.below' hb21)
  replace RO1 := Lib.hid (RO1.out.below' hb21)
  replace RX3 := Lib.hid (RX3.out.below' hb21)
  replace RX7 := Lib.hid (RX7.out.below' hb21)
  replace RX19 := Lib.hid (RX19.out.below' hb21)
  replace RX20 := Lib.hid (RX20.out.below' hb21)
  replace GS := Lib.hid ((hb21.block _ (heap_lt GS.out)).trans GS.out)
  replace GG := Lib.hid ((hb21.block _ (heap_lt GG.out)).trans GG.out)
  replace HW := Lib.hid (HW.out.trans (hb21.mono HW.out.size))
  have RX21 := Lib.hid hr21; have NX21 := Lib.hid hn21; have HF21 := Lib.hid hf21; have HLT21 := Lib.hid ht21; clear hr21 hn21 hf21 ht21 hb21
  have hx0 : w21.cell? ⟨w3.heap.size, 0, none⟩ = some (.int .i64 C) := cell_of_heap GS.out
  have hxz : w3.heap.size < w21.heap.size := heap_lt GS.out
  have hx1 : w21.cell? ⟨w3.heap.size, 1, none⟩ = some (.slice A3 L.length c3) := cell_of_heap GS.out
  have gN := heap_new w21 (.cells #[.int .i64 C, .slice A21 L.length c21] 30) rfl
  have bN := below_new (w := w21) (.cells #[.int .i64 C, .slice A21 L.length c21] 30)
  have GN := Lib.hid gN; have BN := Lib.hid bN; clear gN bN
  go_wp2_with fail
  generalize w21.alloc (.cells #[.int .i64 C, .slice A21 L.length c21] 30) = w22 at GN BN ⊢
  have sz22 := BN.out.size
  replace NX19 := Lib.hid (NX19.out.but (But.of_below BN.out []) RX19.out.lt (by simp))
  replace NX20 := Lib.hid (NX20.out.but (But.of_below BN.out []) RX20.out.lt (by simp))
  replace NX21 := Lib.hid (NX21.out.but (But.of_below BN.out []) RX21.out.lt (by simp))
  replace RO0 := Lib.hid (RO0.out.below' BN.out)
  replace RO1 := Lib.hid (RO1.out.below' BN.out)
  replace RX3 := Lib.hid (RX3.out.below' BN.out)
  replace RX7 := Lib.hid (RX7.out.below' BN.out)
  replace RX19 := Lib.hid (RX19.out.below' BN.out)
  replace RX20 := Lib.hid (RX20.out.below' BN.out)
  replace RX21 := Lib.hid (RX21.out.below' BN.out)
  replace GS := Lib.hid ((BN.out.block _ (heap_lt GS.out)).trans GS.out)
  replace GG := Lib.hid ((BN.out.block _ (heap_lt GG.out)).trans GG.out)
  replace HW := Lib.hid (HW.out.trans (BN.out.mono HW.out.size))
  have sgGH := heap_lt GN.out
  have GH := Lib.hid GN.out; clear GN BN
  clear hx0 hx1 hxz
  refine (eqRowsResult_c C _ _ L _ fv21 fv3 RX21.out RX3.out).mono ?_
  rintro e w23 ⟨rfl, hb23⟩
  have sz23 := hb23.size
  replace NX19 := Lib.hid (NX19.out.but (But.of_below hb23 []) RX19.out.lt (by simp))
  replace NX20 := Lib.hid (NX20.out.but (But.of_below hb23 []) RX20.out.lt (by simp))
  replace NX21 := Lib.hid (NX21.out.but (But.of_below hb23 []) RX21.out.lt (by simp))
  replace RO0 := Lib.hid (RO0.out.below' hb23)
  replace RO1 := Lib.hid (RO1.out.below' hb23)
  replace RX3 := Lib.hid (RX3.out.below' hb23)
  replace RX7 := Lib.hid (RX7.out.below' hb23)
  replace RX19 := Lib.hid (RX19.out.below' hb23)
  replace RX20 := Lib.hid (RX20.out.below' hb23)
  replace RX21 := Lib.hid (RX21.out.below' hb23)
  replace GS := Lib.hid ((hb23.block _ (heap_lt GS.out)).trans GS.out)
  replace GG := Lib.hid ((hb23.block _ (heap_lt GG.out)).trans GG.out)
  replace GH := Lib.hid ((hb23.block _ (heap_lt GH.out)).trans GH.out)
  replace HW := Lib.hid (HW.out.trans (hb23.mono HW.out.size))
  clear hb23
  have hy0 : w23.cell? ⟨w7.heap.size, 0, none⟩ = some (.int .i64 C) := cell_of_heap GG.out
  have hyz : w7.heap.size < w23.heap.size := heap_lt GG.out
  have hy1 : w23.cell? ⟨w7.heap.size, 1, none⟩ = some (.slice A7 L.length c7) := cell_of_heap GG.out
  go_wp2_with fail
  clear hy0 hy1 hyz
  refine (heldRowsResult_c C _ L.length 1 _ fv7 (by omega) (by omega) (by omega) A7 c7 rfl RX7.out).mono ?_
  rintro e w24 ⟨rfl, hb24⟩
  have sz24 := hb24.size
  replace NX19 := Lib.hid (NX19.out.but (But.of_below hb24 []) RX19.out.lt (by simp))
  replace NX20 := Lib.hid (NX20.out.but (But.of_below hb24 []) RX20.out.lt (by simp))
  replace NX21 := Lib.hid (NX21.out.but (But.of_below hb24 []) RX21.out.lt (by simp))
  replace RO0 := Lib.hid (RO0.out.below' hb24)
  replace RO1 := Lib.hid (RO1.out.below' hb24)
  replace RX3 := Lib.hid (RX3.out.below' hb24)
  replace RX7 := Lib.hid (RX7.out.below' hb24)
  replace RX19 := Lib.hid (RX19.out.below' hb24)
  replace RX20 := Lib.hid (RX20.out.below' hb24)
  replace RX21 := Lib.hid (RX21.out.below' hb24)
  replace GS := Lib.hid ((hb24.block _ (heap_lt GS.out)).trans GS.out)
  replace GG := Lib.hid ((hb24.block _ (heap_lt GG.out)).trans GG.out)
  replace GH := Lib.hid ((hb24.block _ (heap_lt GH.out)).trans GH.out)
  replace HW := Lib.hid (HW.out.trans (hb24.mono HW.out.size))
  clear hb24
  go_wp2
  go_ret
  exact ⟨rfl, HW.out⟩
end Go.Proofs.Ythmmjkpgepffeaa
