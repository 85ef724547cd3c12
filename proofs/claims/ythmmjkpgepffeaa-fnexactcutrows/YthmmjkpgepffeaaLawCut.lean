/- The law on CutRows answers true: the walk. -/
import Derived.Test.YthmmjkpgepffeaaAsk2
namespace Go.Proofs.Ythmmjkpgepffeaa
open Go.RowKit

theorem crL_len (rs : List R) (f t : Int) : (crL rs f t).length ≤ 12 := by
  unfold crL
  split
  · rename_i h
    by_cases h0 : rowsF rs = 0
    · have := (rowsF_fits h0).2
      have h2 := List.length_filter_le (fun r => decide (f ≤ keyR r) && decide (keyR r < t)) rs
      unfold cutR; omega
    · simp [crC, h0] at h
  · simp

set_option maxRecDepth 100000 in
set_option maxHeartbeats 8000000 in
theorem lawCutRows_c (ask : AskCutRows) (a0 : Option Addr) (cap0 : Nat) (rs0 : List R) (wr0 : ∀ r ∈ rs0, WfR r) (f : Int) (wf : (Lit.int .i64 f).wf = true) (t : Int) (wt : (Lit.int .i64 t).wf = true) (w : World) (fp0 : List Nat) (hr0 : Rd w 4 (.slice a0 rs0.length cap0) (rcs rs0) fp0) :
    Calls Try.prog 11 #[.slice a0 rs0.length cap0, .int .i64 f, .int .i64 t] w fun e w' => e = .returned (.bool true) ∧ Below w.heap.size w w' := by
  have hmax0 := hr0.len_le
  have hmx0 : rs0.length ≤ 9223372036854775807 := by unfold maxLen at hmax0; omega
  have hlt0 := hr0.lt
  have HLo0 := Lib.hid hlt0; clear hlt0
  by_cases hbig0 : (1048576 : Int) < (rs0.length : Int)
  · have HBIG0 := Lib.hid hbig0; clear hbig0
    go_enter Try.func11, Try.ntmps11
    go_wp2_with fail
    refine (szRowS_c a0 rs0.length cap0 ((1048576 : Int)) _ hmx0 (by omega) (by omega)).mono ?_
    rw [if_pos (show (1048576 : Int) < (rs0.length : Int) from HBIG0.out)]
    rintro e w1 ⟨rfl, rfl⟩
    go_wp2
    go_ret
    exact ⟨rfl, Below.refl _ _⟩
  have hsml0 : (rs0.length : Int) ≤ (1048576 : Int) := by omega
  have hl0 : decide ((1048576 : Int) - (rs0.length : Int) < 0) = false := by simp; omega
  have hs0 : rs0.length ≤ 1048576 := by omega
  have HSML0 := Lib.hid hsml0; clear hsml0 hbig0
  have hLl := crL_len rs0 f t
  generalize hC : crC rs0 f t = C
  generalize hL : crL rs0 f t = L at hLl
  have HC := Lib.hid hC; have HL := Lib.hid hL; clear hC hL
  go_enter Try.func11, Try.ntmps11
  go_wp2_with fail
  refine (szRowS_c a0 rs0.length cap0 ((1048576 : Int)) _ hmx0 (by omega) (by omega)).mono ?_
  rw [if_neg (show ¬ (1048576 : Int) < (rs0.length : Int) by have := HSML0.out; omega)]
  rintro e w1 ⟨rfl, rfl⟩
  have HW := Lib.hid (Below.refl w.heap.size w)
  have RO0 := Lib.hid hr0; clear hr0
  have HFo0 := Lib.hid (show From 0 fp0 from fun _ _ => Nat.zero_le _)
  go_wp2_with fail
  refine (toRowS_c a0 cap0 rs0 _ fp0 hs0 RO0.out).mono ?_
  rintro e w1 ⟨A1, c1, fx1, rfl, hr1, hn1, hf1, hb1⟩
  have ht1 := hr1.lt
  have sz1 := hb1.size
  replace RO0 := Lib.hid (RO0.out.below' hb1)
  replace HW := Lib.hid (HW.out.trans (hb1.mono HW.out.size))
  have RX1 := Lib.hid hr1; have NX1 := Lib.hid hn1; have HF1 := Lib.hid hf1; have HLT1 := Lib.hid ht1; clear hr1 hn1 hf1 ht1 hb1
  go_wp2_with fail
  refine (specCutRows_c _ _ rs0 f t _ fx1 RX1.out).mono ?_
  rw [HC.out, HL.out]
  rintro e w2 ⟨q2, rfl, ⟨v2, fv2, rfl, hr2, hn2, hf2⟩, hb2⟩
  obtain ⟨A2, c2, rfl⟩ := hr2.rows_form
  have ht2 := hr2.lt
  have sz2 := hb2.size
  replace NX1 := Lib.hid (NX1.out.but (But.of_below hb2 []) RX1.out.lt (by simp))
  replace RO0 := Lib.hid (RO0.out.below' hb2)
  replace RX1 := Lib.hid (RX1.out.below' hb2)
  replace HW := Lib.hid (HW.out.trans (hb2.mono HW.out.size))
  have RX2 := Lib.hid hr2; have NX2 := Lib.hid hn2; have HF2 := Lib.hid hf2; have HLT2 := Lib.hid ht2; clear hr2 hn2 hf2 ht2 hb2
  clear NX1
  clear RX1
  clear NX2
  have gN := heap_new w2 (.cells #[.int .i64 C, .slice A2 L.length c2] 30) rfl
  have bN := below_new (w := w2) (.cells #[.int .i64 C, .slice A2 L.length c2] 30)
  have GN := Lib.hid gN; have BN := Lib.hid bN; clear gN bN
  go_wp2_with fail
  generalize w2.alloc (.cells #[.int .i64 C, .slice A2 L.length c2] 30) = w3 at GN BN ⊢
  have sz3 := BN.out.size
  replace RO0 := Lib.hid (RO0.out.below' BN.out)
  replace RX2 := Lib.hid (RX2.out.below' BN.out)
  replace HW := Lib.hid (HW.out.trans (BN.out.mono HW.out.size))
  have sgGS := heap_lt GN.out
  have GS := Lib.hid GN.out; clear GN BN
  refine (toRowS_c a0 cap0 rs0 _ fp0 hs0 RO0.out).mono ?_
  rintro e w4 ⟨A4, c4, fx4, rfl, hr4, hn4, hf4, hb4⟩
  have ht4 := hr4.lt
  have sz4 := hb4.size
  replace RO0 := Lib.hid (RO0.out.below' hb4)
  replace RX2 := Lib.hid (RX2.out.below' hb4)
  replace GS := Lib.hid ((hb4.block _ (heap_lt GS.out)).trans GS.out)
  replace HW := Lib.hid (HW.out.trans (hb4.mono HW.out.size))
  have RX4 := Lib.hid hr4; have NX4 := Lib.hid hn4; have HF4 := Lib.hid hf4; have HLT4 := Lib.hid ht4; clear hr4 hn4 hf4 ht4 hb4
  go_wp2_with fail
  refine (ask _ _ rs0 f t _ fx4 hs0 wr0 wf wt RX4.out).mono ?_
  rw [HC.out, HL.out]
  rintro e w5 ⟨q5, rfl, ⟨v5, fv5, rfl, hr5, hn5, hf5⟩, hb5⟩
  obtain ⟨A5, c5, rfl⟩ := hr5.rows_form
  have ht5 := hr5.lt
  have sz5 := hb5.size
  replace NX4 := Lib.hid (NX4.out.but (But.of_below hb5 []) RX4.out.lt (by simp))
  replace RO0 := Lib.hid (RO0.out.below' hb5)
  replace RX2 := Lib.hid (RX2.out.below' hb5)
  replace RX4 := Lib.hid (RX4.out.below' hb5)
  replace GS := Lib.hid ((hb5.block _ (heap_lt GS.out)).trans GS.out)
  replace HW := Lib.hid (HW.out.trans (hb5.mono HW.out.size))
  have RX5 := Lib.hid hr5; have NX5 := Lib.hid hn5; have HF5 := Lib.hid hf5; have HLT5 := Lib.hid ht5; clear hr5 hn5 hf5 ht5 hb5
  have hx0 : w5.cell? ⟨w2.heap.size, 0, none⟩ = some (.int .i64 C) := cell_of_heap GS.out
  have hxz : w2.heap.size < w5.heap.size := heap_lt GS.out
  have hx1 : w5.cell? ⟨w2.heap.size, 1, none⟩ = some (.slice A2 L.length c2) := cell_of_heap GS.out
  have gN := heap_new w5 (.cells #[.int .i64 C, .slice A5 L.length c5] 30) rfl
  have bN := below_new (w := w5) (.cells #[.int .i64 C, .slice A5 L.length c5] 30)
  have GN := Lib.hid gN; have BN := Lib.hid bN; clear gN bN
  go_wp2_with fail
  generalize w5.alloc (.cells #[.int .i64 C, .slice A5 L.length c5] 30) = w6 at GN BN ⊢
  have sz6 := BN.out.size
  replace NX4 := Lib.hid (NX4.out.but (But.of_below BN.out []) RX4.out.lt (by simp))
  replace NX5 := Lib.hid (NX5.out.but (But.of_below BN.out []) RX5.out.lt (by simp))
  replace RO0 := Lib.hid (RO0.out.below' BN.out)
  replace RX2 := Lib.hid (RX2.out.below' BN.out)
  replace RX4 := Lib.hid (RX4.out.below' BN.out)
  replace RX5 := Lib.hid (RX5.out.below' BN.out)
  replace GS := Lib.hid ((BN.out.block _ (heap_lt GS.out)).trans GS.out)
  replace HW := Lib.hid (HW.out.trans (BN.out.mono HW.out.size))
  have sgGG := heap_lt GN.out
  have GG := Lib.hid GN.out; clear GN BN
  clear hx0 hx1 hxz
  refine (eqRowsResult_c C _ _ L _ fv5 fv2 RX5.out RX2.out).mono ?_
  rintro e w7 ⟨rfl, hb7⟩
  have sz7 := hb7.size
  replace NX4 := Lib.hid (NX4.out.but (But.of_below hb7 []) RX4.out.lt (by simp))
  replace NX5 := Lib.hid (NX5.out.but (But.of_below hb7 []) RX5.out.lt (by simp))
  replace RO0 := Lib.hid (RO0.out.below' hb7)
  replace RX2 := Lib.hid (RX2.out.below' hb7)
  replace RX4 := Lib.hid (RX4.out.below' hb7)
  replace RX5 := Lib.hid (RX5.out.below' hb7)
  replace GS := Lib.hid ((hb7.block _ (heap_lt GS.out)).trans GS.out)
  replace GG := Lib.hid ((hb7.block _ (heap_lt GG.out)).trans GG.out)
  replace HW := Lib.hid (HW.out.trans (hb7.mono HW.out.size))
  clear hb7
  go_wp2_with fail
  refine (toRowS_c a0 cap0 rs0 _ fp0 hs0 RO0.out).mono ?_
  rintro e w8 ⟨A8, c8, fx8, rfl, hr8, hn8, hf8, hb8⟩
  have ht8 := hr8.lt
  have sz8 := hb8.size
  replace NX4 := Lib.hid (NX4.out.but (But.of_below hb8 []) RX4.out.lt (by simp))
  replace NX5 := Lib.hid (NX5.out.but (But.of_below hb8 []) RX5.out.lt (by simp))
  replace RO0 := Lib.hid (RO0.out.below' hb8)
  replace RX2 := Lib.hid (RX2.out.below' hb8)
  replace RX4 := Lib.hid (RX4.out.below' hb8)
  replace RX5 := Lib.hid (RX5.out.below' hb8)
  replace GS := Lib.hid ((hb8.block _ (heap_lt GS.out)).trans GS.out)
  replace GG := Lib.hid ((hb8.block _ (heap_lt GG.out)).trans GG.out)
  replace HW := Lib.hid (HW.out.trans (hb8.mono HW.out.size))
  have RX8 := Lib.hid hr8; have NX8 := Lib.hid hn8; have HF8 := Lib.hid hf8; have HLT8 := Lib.hid ht8; clear hr8 hn8 hf8 ht8 hb8
  go_wp2_with fail
  refine (eqRowS_c _ _ _ _ rs0 _ fx4 fx8 RX4.out RX8.out).mono ?_
  rintro e w9 ⟨rfl, hb9⟩
  have sz9 := hb9.size
  replace NX4 := Lib.hid (NX4.out.but (But.of_below hb9 []) RX4.out.lt (by simp))
  replace NX5 := Lib.hid (NX5.out.but (But.of_below hb9 []) RX5.out.lt (by simp))
  replace NX8 := Lib.hid (NX8.out.but (But.of_below hb9 []) RX8.out.lt (by simp))
  replace RO0 := Lib.hid (RO0.out.below' hb9)
  replace RX2 := Lib.hid (RX2.out.below' hb9)
  replace RX4 := Lib.hid (RX4.out.below' hb9)
  replace RX5 := Lib.hid (RX5.out.below' hb9)
  replace RX8 := Lib.hid (RX8.out.below' hb9)
  replace GS := Lib.hid ((hb9.block _ (heap_lt GS.out)).trans GS.out)
  replace GG := Lib.hid ((hb9.block _ (heap_lt GG.out)).trans GG.out)
  replace HW := Lib.hid (HW.out.trans (hb9.mono HW.out.size))
  clear hb9
  clear NX8
  clear RX8
  go_wp2_with fail
  refine (markRowS_c A4 c4 rs0.length _ (1) _ fx4 (by omega) (by omega) (by omega) RX4.out NX4.out).mono ?_
  rintro e w10 ⟨rfl, hb10, hz10, _, _⟩
  have sz10 := Nat.le_of_eq hz10.symm
  clear NX4
  replace NX5 := Lib.hid (NX5.out.but hb10 RX5.out.lt (fun b hb hx => by have h1 := HLT5.out b hb; have h2 := HF4.out b hx; have h3 := HLT4.out b hx; have h4 := HF5.out b hb; omega))
  replace RO0 := Lib.hid (RO0.out.but hb10 (fun b hb hx => by have h1 := HLo0.out b hb; have h2 := HF4.out b hx; have h3 := HLT4.out b hx; have h4 := HFo0.out b hb; omega))
  replace RX2 := Lib.hid (RX2.out.but hb10 (fun b hb hx => by have h1 := HLT2.out b hb; have h2 := HF4.out b hx; have h3 := HLT4.out b hx; have h4 := HF2.out b hb; omega))
  replace RX5 := Lib.hid (RX5.out.but hb10 (fun b hb hx => by have h1 := HLT5.out b hb; have h2 := HF4.out b hx; have h3 := HLT4.out b hx; have h4 := HF5.out b hb; omega))
  replace GS := Lib.hid (hb10.heap GS.out (fun hx => by have h2 := HF4.out _ hx; have h3 := HLT4.out _ hx; omega))
  replace GG := Lib.hid (hb10.heap GG.out (fun hx => by have h2 := HF4.out _ hx; have h3 := HLT4.out _ hx; omega))
  replace HW := Lib.hid (HW.out.trans (hb10.below HW.out.size (fun b hx => by have h2 := HF4.out b hx; omega)))
  clear RX4
  clear hb10 hz10
  have hq1 : decide ((1 + (rs0.length * 4 : Nat) : Int) < 0) = false := by simp; omega
  have hq2 : ¬ ((1 + (rs0.length * 4 : Nat) : Int) < 0) := by omega
  have hx0 : w10.cell? ⟨w2.heap.size, 0, none⟩ = some (.int .i64 C) := cell_of_heap GS.out
  have hxz : w2.heap.size < w10.heap.size := heap_lt GS.out
  have hx1 : w10.cell? ⟨w2.heap.size, 1, none⟩ = some (.slice A2 L.length c2) := cell_of_heap GS.out
  have hy0 : w10.cell? ⟨w5.heap.size, 0, none⟩ = some (.int .i64 C) := cell_of_heap GG.out
  have hyz : w5.heap.size < w10.heap.size := heap_lt GG.out
  have hy1 : w10.cell? ⟨w5.heap.size, 1, none⟩ = some (.slice A5 L.length c5) := cell_of_heap GG.out
  go_wp2_with fail
  clear hx0 hx1 hxz hy0 hy1 hyz
  refine (eqRowsResult_c C _ _ L _ fv5 fv2 RX5.out RX2.out).mono ?_
  rintro e w11 ⟨rfl, hb11⟩
  have sz11 := hb11.size
  replace NX5 := Lib.hid (NX5.out.but (But.of_below hb11 []) RX5.out.lt (by simp))
  replace RO0 := Lib.hid (RO0.out.below' hb11)
  replace RX2 := Lib.hid (RX2.out.below' hb11)
  replace RX5 := Lib.hid (RX5.out.below' hb11)
  replace GS := Lib.hid ((hb11.block _ (heap_lt GS.out)).trans GS.out)
  replace GG := Lib.hid ((hb11.block _ (heap_lt GG.out)).trans GG.out)
  replace HW := Lib.hid (HW.out.trans (hb11.mono HW.out.size))
  clear hb11
  have hy0 : w11.cell? ⟨w5.heap.size, 0, none⟩ = some (.int .i64 C) := cell_of_heap GG.out
  have hyz : w5.heap.size < w11.heap.size := heap_lt GG.out
  have hy1 : w11.cell? ⟨w5.heap.size, 1, none⟩ = some (.slice A5 L.length c5) := cell_of_heap GG.out
  go_wp2_with fail
  clear hy0 hy1 hyz
  refine (markRowsResult_c C _ L 1 _ fv5 (by omega) (by omega) (by omega) RX5.out NX5.out).mono ?_
  rintro e w12 ⟨rfl, hb12, hm12⟩
  have sz12 := hb12.size
  clear NX5
  replace RO0 := Lib.hid (RO0.out.but hb12 (fun b hb hx => by have h1 := HLo0.out b hb; have h2 := HF5.out b hx; have h3 := HLT5.out b hx; have h4 := HFo0.out b hb; omega))
  replace RX2 := Lib.hid (RX2.out.but hb12 (fun b hb hx => by have h1 := HLT2.out b hb; have h2 := HF5.out b hx; have h3 := HLT5.out b hx; have h4 := HF2.out b hb; omega))
  replace GS := Lib.hid (hb12.heap GS.out (fun hx => by have h2 := HF5.out _ hx; have h3 := HLT5.out _ hx; omega))
  replace GG := Lib.hid (hb12.heap GG.out (fun hx => by have h2 := HF5.out _ hx; have h3 := HLT5.out _ hx; omega))
  replace HW := Lib.hid (HW.out.trans (hb12.below HW.out.size (fun b hx => by have h2 := HF5.out b hx; omega)))
  replace RX5 := Lib.hid hm12; clear hb12 hm12
  have hy0 : w12.cell? ⟨w5.heap.size, 0, none⟩ = some (.int .i64 C) := cell_of_heap GG.out
  have hyz : w5.heap.size < w12.heap.size := heap_lt GG.out
  have hy1 : w12.cell? ⟨w5.heap.size, 1, none⟩ = some (.slice A5 L.length c5) := cell_of_heap GG.out
  go_wp2_with fail
  clear hy0 hy1 hyz
  refine (heldRowsResult_c C _ L.length 1 _ fv5 (by omega) (by omega) (by omega) A5 c5 rfl RX5.out).mono ?_
  rintro e w13 ⟨rfl, hb13⟩
  have sz13 := hb13.size
  replace RO0 := Lib.hid (RO0.out.below' hb13)
  replace RX2 := Lib.hid (RX2.out.below' hb13)
  replace RX5 := Lib.hid (RX5.out.below' hb13)
  replace GS := Lib.hid ((hb13.block _ (heap_lt GS.out)).trans GS.out)
  replace GG := Lib.hid ((hb13.block _ (heap_lt GG.out)).trans GG.out)
  replace HW := Lib.hid (HW.out.trans (hb13.mono HW.out.size))
  clear hb13
  have hq3 : decide ((1 : Int) + (L.length * 4 : Nat) < 0) = false := by simp; omega
  go_wp2_with fail
  refine (toRowS_c a0 cap0 rs0 _ fp0 hs0 RO0.out).mono ?_
  rintro e w14 ⟨A14, c14, fx14, rfl, hr14, hn14, hf14, hb14⟩
  have ht14 := hr14.lt
  have sz14 := hb14.size
  replace RO0 := Lib.hid (RO0.out.below' hb14)
  replace RX2 := Lib.hid (RX2.out.below' hb14)
  replace RX5 := Lib.hid (RX5.out.below' hb14)
  replace GS := Lib.hid ((hb14.block _ (heap_lt GS.out)).trans GS.out)
  replace GG := Lib.hid ((hb14.block _ (heap_lt GG.out)).trans GG.out)
  replace HW := Lib.hid (HW.out.trans (hb14.mono HW.out.size))
  have RX14 := Lib.hid hr14; have NX14 := Lib.hid hn14; have HF14 := Lib.hid hf14; have HLT14 := Lib.hid ht14; clear hr14 hn14 hf14 ht14 hb14
  go_wp2_with fail
  refine (ask _ _ rs0 f t _ fx14 hs0 wr0 wf wt RX14.out).mono ?_
  rw [HC.out, HL.out]
  rintro e w15 ⟨q15, rfl, ⟨v15, fv15, rfl, hr15, hn15, hf15⟩, hb15⟩
  obtain ⟨A15, c15, rfl⟩ := hr15.rows_form
  have ht15 := hr15.lt
  have sz15 := hb15.size
  replace NX14 := Lib.hid (NX14.out.but (But.of_below hb15 []) RX14.out.lt (by simp))
  replace RO0 := Lib.hid (RO0.out.below' hb15)
  replace RX2 := Lib.hid (RX2.out.below' hb15)
  replace RX5 := Lib.hid (RX5.out.below' hb15)
  replace RX14 := Lib.hid (RX14.out.below' hb15)
  replace GS := Lib.hid ((hb15.block _ (heap_lt GS.out)).trans GS.out)
  replace GG := Lib.hid ((hb15.block _ (heap_lt GG.out)).trans GG.out)
  replace HW := Lib.hid (HW.out.trans (hb15.mono HW.out.size))
  have RX15 := Lib.hid hr15; have NX15 := Lib.hid hn15; have HF15 := Lib.hid hf15; have HLT15 := Lib.hid ht15; clear hr15 hn15 hf15 ht15 hb15
  have hx0 : w15.cell? ⟨w2.heap.size, 0, none⟩ = some (.int .i64 C) := cell_of_heap GS.out
  have hxz : w2.heap.size < w15.heap.size := heap_lt GS.out
  have hx1 : w15.cell? ⟨w2.heap.size, 1, none⟩ = some (.slice A2 L.length c2) := cell_of_heap GS.out
  have gN := heap_new w15 (.cells #[.int .i64 C, .slice A15 L.length c15] 30) rfl
  have bN := below_new (w := w15) (.cells #[.int .i64 C, .slice A15 L.length c15] 30)
  have GN := Lib.hid gN; have BN := Lib.hid bN; clear gN bN
  go_wp2_with fail
  generalize w15.alloc (.cells #[.int .i64 C, .slice A15 L.length c15] 30) = w16 at GN BN ⊢
  have sz16 := BN.out.size
  replace NX14 := Lib.hid (NX14.out.but (But.of_below BN.out []) RX14.out.lt (by simp))
  replace NX15 := Lib.hid (NX15.out.but (But.of_below BN.out []) RX15.out.lt (by simp))
  replace RO0 := Lib.hid (RO0.out.below' BN.out)
  replace RX2 := Lib.hid (RX2.out.below' BN.out)
  replace RX5 := Lib.hid (RX5.out.below' BN.out)
  replace RX14 := Lib.hid (RX14.out.below' BN.out)
  replace RX15 := Lib.hid (RX15.out.below' BN.out)
  replace GS := Lib.hid ((BN.out.block _ (heap_lt GS.out)).trans GS.out)
  replace GG := Lib.hid ((BN.out.block _ (heap_lt GG.out)).trans GG.out)
  replace HW := Lib.hid (HW.out.trans (BN.out.mono HW.out.size))
  have sgGH := heap_lt GN.out
  have GH := Lib.hid GN.out; clear GN BN
  clear hx0 hx1 hxz
  refine (eqRowsResult_c C _ _ L _ fv15 fv2 RX15.out RX2.out).mono ?_
  rintro e w17 ⟨rfl, hb17⟩
  have sz17 := hb17.size
  replace NX14 := Lib.hid (NX14.out.but (But.of_below hb17 []) RX14.out.lt (by simp))
  replace NX15 := Lib.hid (NX15.out.but (But.of_below hb17 []) RX15.out.lt (by simp))
  replace RO0 := Lib.hid (RO0.out.below' hb17)
  replace RX2 := Lib.hid (RX2.out.below' hb17)
  replace RX5 := Lib.hid (RX5.out.below' hb17)
  replace RX14 := Lib.hid (RX14.out.below' hb17)
  replace RX15 := Lib.hid (RX15.out.below' hb17)
  replace GS := Lib.hid ((hb17.block _ (heap_lt GS.out)).trans GS.out)
  replace GG := Lib.hid ((hb17.block _ (heap_lt GG.out)).trans GG.out)
  replace GH := Lib.hid ((hb17.block _ (heap_lt GH.out)).trans GH.out)
  replace HW := Lib.hid (HW.out.trans (hb17.mono HW.out.size))
  clear hb17
  have hy0 : w17.cell? ⟨w5.heap.size, 0, none⟩ = some (.int .i64 C) := cell_of_heap GG.out
  have hyz : w5.heap.size < w17.heap.size := heap_lt GG.out
  have hy1 : w17.cell? ⟨w5.heap.size, 1, none⟩ = some (.slice A5 L.length c5) := cell_of_heap GG.out
  go_wp2_with fail
  clear hy0 hy1 hyz
  refine (heldRowsResult_c C _ L.length 1 _ fv5 (by omega) (by omega) (by omega) A5 c5 rfl RX5.out).mono ?_
  rintro e w18 ⟨rfl, hb18⟩
  have sz18 := hb18.size
  replace NX14 := Lib.hid (NX14.out.but (But.of_below hb18 []) RX14.out.lt (by simp))
  replace NX15 := Lib.hid (NX15.out.but (But.of_below hb18 []) RX15.out.lt (by simp))
  replace RO0 := Lib.hid (RO0.out.below' hb18)
  replace RX2 := Lib.hid (RX2.out.below' hb18)
  replace RX5 := Lib.hid (RX5.out.below' hb18)
  replace RX14 := Lib.hid (RX14.out.below' hb18)
  replace RX15 := Lib.hid (RX15.out.below' hb18)
  replace GS := Lib.hid ((hb18.block _ (heap_lt GS.out)).trans GS.out)
  replace GG := Lib.hid ((hb18.block _ (heap_lt GG.out)).trans GG.out)
  replace GH := Lib.hid ((hb18.block _ (heap_lt GH.out)).trans GH.out)
  replace HW := Lib.hid (HW.out.trans (hb18.mono HW.out.size))
  clear hb18
  go_wp2
  go_ret
  exact ⟨rfl, HW.out⟩
end Go.Proofs.Ythmmjkpgepffeaa
