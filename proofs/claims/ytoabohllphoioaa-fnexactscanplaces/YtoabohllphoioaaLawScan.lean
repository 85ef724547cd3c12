/- The law on ScanPlaces answers true: the walk, by a maker (reslaw.py). -/
import Derived.Test.YtoabohllphoioaaImpl6c
import Derived.Test.YtoabohllphoioaaArgs4
namespace Go.Proofs.Ytoabohllphoioaa
open Go.RowKit

set_option maxRecDepth 100000 in
set_option maxHeartbeats 8000000 in
theorem lawScanPlaces_c (ask : AskScanPlaces) (b : Pl) (wnb : (Lit.int .i64 b.mark).wf = true) (vb : Value) (wrb : WfF b.fs) (f : Int) (wf : (Lit.int .i64 f).wf = true) (m : Int) (wm : (Lit.int .i64 m).wf = true) (w : World) (fpb : List Nat) (hrb : PlAt w b vb fpb) :
    Calls Try.prog 7 #[plv b.mark vb, .int .i64 f, .int .i64 m] w fun e w' => e = .returned (.bool true) ∧ Below w.heap.size w w' := by
  obtain ⟨aab, ccb, rfl⟩ := hrb.form
  have HLob := Lib.hid hrb.lt
  have ROb := Lib.hid hrb; clear hrb
  have HB0 : Hid (Below w.heap.size w (w.alloc (.cells #[(.slice aab b.fs.length ccb), .int .i64 b.mark] 42))) := below_new _
  have Gb : Hid ((w.alloc (.cells #[(.slice aab b.fs.length ccb), .int .i64 b.mark] 42)).heap[w.heap.size]? = some (.cells #[(.slice aab b.fs.length ccb), .int .i64 b.mark] 42 (0, 0))) := heap_new w _ (by simp)
  have ⟨W0, hW0⟩ : ∃ x, x = (w.alloc (.cells #[(.slice aab b.fs.length ccb), .int .i64 b.mark] 42)) := ⟨_, rfl⟩
  rw [← hW0] at HB0 Gb
  have HW0 := Lib.hid hW0; clear hW0
  replace ROb := Lib.hid (ROb.out.below' HB0.out)
  have HW := HB0; have sz0 := HB0.out.size
  have sgGb := heap_lt Gb.out
  have HFob := Lib.hid (show From 0 fpb from fun _ _ => Nat.zero_le _)
  by_cases hbigb : (1048576 : Int) < plsz b
  · have HBIGb := Lib.hid hbigb; clear hbigb
    go_enter Try.func7, Try.ntmps7
    go_wp2_with fail
    rw [← HW0.out]
    refine (szPlaces_c b (.slice aab b.fs.length ccb) fpb ((1048576 : Int)) _ ROb.out (by omega) (by omega)).mono ?_
    rw [if_pos (show (1048576 : Int) < plsz b from HBIGb.out)]
    rintro e w1 ⟨rfl, hb1⟩
    have sz1 := hb1.size
    replace ROb := Lib.hid (ROb.out.below' hb1)
    replace Gb := Lib.hid ((hb1.block _ (heap_lt Gb.out)).trans Gb.out)
    replace HW := Lib.hid (HW.out.trans (hb1.mono HW.out.size))
    clear hb1
    go_wp2
    go_ret
    exact ⟨rfl, HW.out⟩
  have nnb : 0 ≤ plsz b := plsz_nn b
  have hsmlb : plsz b ≤ (1048576 : Int) := by omega
  have hlb : decide ((1048576 : Int) - plsz b < 0) = false := by simp; omega
  have hsb : plsz b ≤ 1048576 := by omega
  have HSMLb := Lib.hid hsmlb; clear hsmlb hbigb
  have hLl := scL_len b f m
  generalize hC : scC b f m = C
  generalize hL : scL b f m = L at hLl
  have HC := Lib.hid hC; have HL := Lib.hid hL; clear hC hL
  go_enter Try.func7, Try.ntmps7
  go_wp2_with fail
  rw [← HW0.out]
  refine (szPlaces_c b (.slice aab b.fs.length ccb) fpb ((1048576 : Int)) _ ROb.out (by omega) (by omega)).mono ?_
  rw [if_neg (show ¬ (1048576 : Int) < plsz b by have := HSMLb.out; omega)]
  rintro e w1 ⟨rfl, hb1⟩
  have sz1 := hb1.size
  replace ROb := Lib.hid (ROb.out.below' hb1)
  replace Gb := Lib.hid ((hb1.block _ (heap_lt Gb.out)).trans Gb.out)
  replace HW := Lib.hid (HW.out.trans (hb1.mono HW.out.size))
  clear hb1
  obtain ⟨o1_0, o1_1, _, _, o1_z⟩ := two_at Gb.out
  go_wp2_with fail
  clear o1_0 o1_1 o1_z
  refine (toPlaces_c b (.slice aab b.fs.length ccb) fpb _ hsb ROb.out).mono ?_
  rintro e w2 ⟨v2, fx2, rfl, hr2, hn2, ⟨hf2, hd2⟩, hb2⟩
  obtain ⟨A2, c2, rfl⟩ := hr2.form
  have HD2 := Lib.hid hd2; clear hd2
  have ht2 := hr2.lt
  have sz2 := hb2.size
  replace ROb := Lib.hid (ROb.out.below' hb2)
  replace Gb := Lib.hid ((hb2.block _ (heap_lt Gb.out)).trans Gb.out)
  replace HW := Lib.hid (HW.out.trans (hb2.mono HW.out.size))
  have RX2 := Lib.hid hr2; have NX2 := Lib.hid hn2; have HF2 := Lib.hid hf2; have HLT2 := Lib.hid ht2; clear hr2 hn2 hf2 ht2 hb2
  go_wp2_with fail
  refine (specScanPlaces_r b (.slice A2 b.fs.length c2) f m _ fx2 hsb RX2.out).mono ?_
  rw [HC.out, HL.out]
  rintro e w3 ⟨q3, rfl, ⟨v3, fx3, rfl, hr3, hn3, hf3⟩, hb3⟩
  obtain ⟨A3, c3, rfl⟩ := hr3.rows_form
  have ht3 := hr3.lt
  have sz3 := hb3.size
  replace NX2 := Lib.hid (NX2.out.but (But.of_below hb3 []) RX2.out.lt (by simp))
  replace ROb := Lib.hid (ROb.out.below' hb3)
  replace RX2 := Lib.hid (RX2.out.below' hb3)
  replace Gb := Lib.hid ((hb3.block _ (heap_lt Gb.out)).trans Gb.out)
  replace HW := Lib.hid (HW.out.trans (hb3.mono HW.out.size))
  have RX3 := Lib.hid hr3; have NX3 := Lib.hid hn3; have HF3 := Lib.hid hf3; have HLT3 := Lib.hid ht3; clear hr3 hn3 hf3 ht3 hb3
  clear NX2
  clear RX2
  clear NX3
  obtain ⟨o2_0, o2_1, _, _, o2_z⟩ := two_at Gb.out
  have gN := heap_new w3 (.cells #[.int .i64 C, (.slice A3 L.length c3)] 31) rfl
  have bN := below_new (w := w3) (.cells #[.int .i64 C, (.slice A3 L.length c3)] 31)
  have GN := Lib.hid gN; have BN := Lib.hid bN; clear gN bN
  go_wp2_with fail
  clear o2_0 o2_1 o2_z
  generalize w3.alloc (.cells #[.int .i64 C, (.slice A3 L.length c3)] 31) = w4 at GN BN ⊢
  have sz4 := BN.out.size
  replace ROb := Lib.hid (ROb.out.below' BN.out)
  replace RX3 := Lib.hid (RX3.out.below' BN.out)
  replace Gb := Lib.hid ((BN.out.block _ (heap_lt Gb.out)).trans Gb.out)
  replace HW := Lib.hid (HW.out.trans (BN.out.mono HW.out.size))
  have sgGS := heap_lt GN.out
  have GS := Lib.hid GN.out; clear GN BN
  refine (toPlaces_c b (.slice aab b.fs.length ccb) fpb _ hsb ROb.out).mono ?_
  rintro e w5 ⟨v5, fx5, rfl, hr5, hn5, ⟨hf5, hd5⟩, hb5⟩
  obtain ⟨A5, c5, rfl⟩ := hr5.form
  have HD5 := Lib.hid hd5; clear hd5
  have ht5 := hr5.lt
  have sz5 := hb5.size
  replace ROb := Lib.hid (ROb.out.below' hb5)
  replace RX3 := Lib.hid (RX3.out.below' hb5)
  replace Gb := Lib.hid ((hb5.block _ (heap_lt Gb.out)).trans Gb.out)
  replace GS := Lib.hid ((hb5.block _ (heap_lt GS.out)).trans GS.out)
  replace HW := Lib.hid (HW.out.trans (hb5.mono HW.out.size))
  have RX5 := Lib.hid hr5; have NX5 := Lib.hid hn5; have HF5 := Lib.hid hf5; have HLT5 := Lib.hid ht5; clear hr5 hn5 hf5 ht5 hb5
  have gN := heap_new w5 (.cells #[(.slice A5 b.fs.length c5), .int .i64 b.mark] 26) rfl
  have bN := below_new (w := w5) (.cells #[(.slice A5 b.fs.length c5), .int .i64 b.mark] 26)
  have GN := Lib.hid gN; have BN := Lib.hid bN; clear gN bN
  go_wp2_with fail
  generalize w5.alloc (.cells #[(.slice A5 b.fs.length c5), .int .i64 b.mark] 26) = w6 at GN BN ⊢
  have sz6 := BN.out.size
  replace NX5 := Lib.hid (NX5.out.but (But.of_below BN.out []) RX5.out.lt (by simp))
  replace ROb := Lib.hid (ROb.out.below' BN.out)
  replace RX3 := Lib.hid (RX3.out.below' BN.out)
  replace RX5 := Lib.hid (RX5.out.below' BN.out)
  replace Gb := Lib.hid ((BN.out.block _ (heap_lt Gb.out)).trans Gb.out)
  replace GS := Lib.hid ((BN.out.block _ (heap_lt GS.out)).trans GS.out)
  replace HW := Lib.hid (HW.out.trans (BN.out.mono HW.out.size))
  have sgGXb := heap_lt GN.out
  have GXb := Lib.hid GN.out; clear GN BN
  refine (ask b (.slice A5 b.fs.length c5) f m _ fx5 hsb wnb wrb wf wm RX5.out).mono ?_
  rw [HC.out, HL.out]
  rintro e w7 ⟨q7, rfl, ⟨v7, fx7, rfl, hr7, hn7, hf7⟩, hb7⟩
  obtain ⟨A7, c7, rfl⟩ := hr7.rows_form
  have ht7 := hr7.lt
  have sz7 := hb7.size
  replace NX5 := Lib.hid (NX5.out.but (But.of_below hb7 []) RX5.out.lt (by simp))
  replace ROb := Lib.hid (ROb.out.below' hb7)
  replace RX3 := Lib.hid (RX3.out.below' hb7)
  replace RX5 := Lib.hid (RX5.out.below' hb7)
  replace Gb := Lib.hid ((hb7.block _ (heap_lt Gb.out)).trans Gb.out)
  replace GS := Lib.hid ((hb7.block _ (heap_lt GS.out)).trans GS.out)
  replace GXb := Lib.hid ((hb7.block _ (heap_lt GXb.out)).trans GXb.out)
  replace HW := Lib.hid (HW.out.trans (hb7.mono HW.out.size))
  have RX7 := Lib.hid hr7; have NX7 := Lib.hid hn7; have HF7 := Lib.hid hf7; have HLT7 := Lib.hid ht7; clear hr7 hn7 hf7 ht7 hb7
  obtain ⟨o3_0, o3_1, _, _, o3_z⟩ := two_at GS.out
  have gN := heap_new w7 (.cells #[.int .i64 C, (.slice A7 L.length c7)] 31) rfl
  have bN := below_new (w := w7) (.cells #[.int .i64 C, (.slice A7 L.length c7)] 31)
  have GN := Lib.hid gN; have BN := Lib.hid bN; clear gN bN
  go_wp2_with fail
  clear o3_0 o3_1 o3_z
  generalize w7.alloc (.cells #[.int .i64 C, (.slice A7 L.length c7)] 31) = w8 at GN BN ⊢
  have sz8 := BN.out.size
  replace NX5 := Lib.hid (NX5.out.but (But.of_below BN.out []) RX5.out.lt (by simp))
  replace NX7 := Lib.hid (NX7.out.but (But.of_below BN.out []) RX7.out.lt (by simp))
  replace ROb := Lib.hid (ROb.out.below' BN.out)
  replace RX3 := Lib.hid (RX3.out.below' BN.out)
  replace RX5 := Lib.hid (RX5.out.below' BN.out)
  replace RX7 := Lib.hid (RX7.out.below' BN.out)
  replace Gb := Lib.hid ((BN.out.block _ (heap_lt Gb.out)).trans Gb.out)
  replace GS := Lib.hid ((BN.out.block _ (heap_lt GS.out)).trans GS.out)
  replace GXb := Lib.hid ((BN.out.block _ (heap_lt GXb.out)).trans GXb.out)
  replace HW := Lib.hid (HW.out.trans (BN.out.mono HW.out.size))
  have sgGG := heap_lt GN.out
  have GG := Lib.hid GN.out; clear GN BN
  refine (eqRowsResult_c C _ _ L _ fx7 fx3 RX7.out RX3.out).mono ?_
  rintro e w9 ⟨rfl, hb9⟩
  have sz9 := hb9.size
  replace NX5 := Lib.hid (NX5.out.but (But.of_below hb9 []) RX5.out.lt (by simp))
  replace NX7 := Lib.hid (NX7.out.but (But.of_below hb9 []) RX7.out.lt (by simp))
  replace ROb := Lib.hid (ROb.out.below' hb9)
  replace RX3 := Lib.hid (RX3.out.below' hb9)
  replace RX5 := Lib.hid (RX5.out.below' hb9)
  replace RX7 := Lib.hid (RX7.out.below' hb9)
  replace Gb := Lib.hid ((hb9.block _ (heap_lt Gb.out)).trans Gb.out)
  replace GS := Lib.hid ((hb9.block _ (heap_lt GS.out)).trans GS.out)
  replace GXb := Lib.hid ((hb9.block _ (heap_lt GXb.out)).trans GXb.out)
  replace GG := Lib.hid ((hb9.block _ (heap_lt GG.out)).trans GG.out)
  replace HW := Lib.hid (HW.out.trans (hb9.mono HW.out.size))
  clear hb9
  obtain ⟨o4_0, o4_1, _, _, o4_z⟩ := two_at Gb.out
  obtain ⟨o5_0, o5_1, _, _, o5_z⟩ := two_at GXb.out
  go_wp2_with fail
  go_region_held3 (fun w' => w'.cell? ⟨w.heap.size, 0, none⟩ = some ((.slice aab b.fs.length ccb)) ∧ w'.cell? ⟨w.heap.size, 1, none⟩ = some (.int .i64 b.mark) ∧ w'.cell? ⟨w5.heap.size, 0, none⟩ = some ((.slice A5 b.fs.length c5)) ∧ w'.cell? ⟨w5.heap.size, 1, none⟩ = some (.int .i64 b.mark))
    (first | go_keep | (refine ⟨(Below.cell (w := w9) (p := ⟨w.heap.size, _, none⟩) ?_ o4_z).trans o4_0, (Below.cell (w := w9) (p := ⟨w.heap.size, _, none⟩) ?_ o4_z).trans o4_1, (Below.cell (w := w9) (p := ⟨w5.heap.size, _, none⟩) ?_ o5_z).trans o5_0, (Below.cell (w := w9) (p := ⟨w5.heap.size, _, none⟩) ?_ o5_z).trans o5_1⟩ <;> (first | with_reducible exact hq2 | with_reducible exact hq1)))
    (first
      | (go_at_call 24
         refine (toPlaces_c b (.slice aab b.fs.length ccb) fpb _ hsb (ROb.out.below' (Below.refl _ _).drew)).mono ?_
         rintro e y1 ⟨vq, fq, rfl, hkq, _, _, hbq⟩
         have hq1 : Below w9.heap.size w9 y1 := (Below.refl _ _).drew.trans hbq
         clear hbq)
      | (go_at_call 26
         refine (eqPlaces_c b (.slice A5 b.fs.length c5) vq fx5 fq _ (RX5.out.below' hq1) hkq).mono ?_
         rintro e y2 ⟨rfl, hbq⟩
         have hq2 : Below w9.heap.size w9 y2 := hq1.trans (hbq.mono hq1.size)
         clear hbq))
  have ⟨w10, hw10⟩ : ∃ x, x = y2 := ⟨_, rfl⟩
  subst hw10
  have sz10 := hq2.size
  clear o4_0 o4_1 o4_z o5_0 o5_1 o5_z hkq
  replace NX5 := Lib.hid (NX5.out.but (But.of_below hq2 []) RX5.out.lt (by simp))
  replace NX7 := Lib.hid (NX7.out.but (But.of_below hq2 []) RX7.out.lt (by simp))
  replace ROb := Lib.hid (ROb.out.below' hq2)
  replace RX3 := Lib.hid (RX3.out.below' hq2)
  replace RX5 := Lib.hid (RX5.out.below' hq2)
  replace RX7 := Lib.hid (RX7.out.below' hq2)
  replace Gb := Lib.hid ((hq2.block _ (heap_lt Gb.out)).trans Gb.out)
  replace GS := Lib.hid ((hq2.block _ (heap_lt GS.out)).trans GS.out)
  replace GXb := Lib.hid ((hq2.block _ (heap_lt GXb.out)).trans GXb.out)
  replace GG := Lib.hid ((hq2.block _ (heap_lt GG.out)).trans GG.out)
  replace HW := Lib.hid (HW.out.trans (hq2.mono HW.out.size))
  clear hq1 hq2
  obtain ⟨o6_0, o6_1, _, _, o6_z⟩ := two_at GXb.out
  go_wp2_with fail
  clear o6_0 o6_1 o6_z
  refine (markPlaces_c b (.slice A5 b.fs.length c5) (1) _ fx5 (by omega) hsb (by omega) RX5.out NX5.out HD5.out).mono ?_
  rintro e w11 ⟨rfl, hb11, _⟩
  have sz11 := hb11.size
  clear NX5
  replace NX7 := Lib.hid (NX7.out.but hb11 RX7.out.lt (fun b hb hx => by have h1 := HLT7.out b hb; have h2 := HF5.out b hx; have h3 := HLT5.out b hx; have h4 := HF7.out b hb; omega))
  replace ROb := Lib.hid (ROb.out.but hb11 (fun b hb hx => by have h1 := HLob.out b hb; have h2 := HF5.out b hx; have h3 := HLT5.out b hx; have h4 := HFob.out b hb; omega))
  replace RX3 := Lib.hid (RX3.out.but hb11 (fun b hb hx => by have h1 := HLT3.out b hb; have h2 := HF5.out b hx; have h3 := HLT5.out b hx; have h4 := HF3.out b hb; omega))
  replace RX7 := Lib.hid (RX7.out.but hb11 (fun b hb hx => by have h1 := HLT7.out b hb; have h2 := HF5.out b hx; have h3 := HLT5.out b hx; have h4 := HF7.out b hb; omega))
  replace Gb := Lib.hid (hb11.heap Gb.out (fun hx => by have h2 := HF5.out _ hx; have h3 := HLT5.out _ hx; omega))
  replace GS := Lib.hid (hb11.heap GS.out (fun hx => by have h2 := HF5.out _ hx; have h3 := HLT5.out _ hx; omega))
  replace GXb := Lib.hid (hb11.heap GXb.out (fun hx => by have h2 := HF5.out _ hx; have h3 := HLT5.out _ hx; omega))
  replace GG := Lib.hid (hb11.heap GG.out (fun hx => by have h2 := HF5.out _ hx; have h3 := HLT5.out _ hx; omega))
  replace HW := Lib.hid (HW.out.trans (hb11.below HW.out.size (fun b hx => by have h2 := HF5.out b hx; omega)))
  clear RX5
  clear hb11
  have hq1 : decide ((1 + (cntPl b : Nat) : Int) < 0) = false := by simp; omega
  have hq2 : ¬ ((1 + (cntPl b : Nat) : Int) < 0) := by omega
  obtain ⟨o7_0, o7_1, _, _, o7_z⟩ := two_at GS.out
  obtain ⟨o8_0, o8_1, _, _, o8_z⟩ := two_at GG.out
  go_wp2_with fail
  clear o7_0 o7_1 o7_z o8_0 o8_1 o8_z
  refine (eqRowsResult_c C _ _ L _ fx7 fx3 RX7.out RX3.out).mono ?_
  rintro e w12 ⟨rfl, hb12⟩
  have sz12 := hb12.size
  replace NX7 := Lib.hid (NX7.out.but (But.of_below hb12 []) RX7.out.lt (by simp))
  replace ROb := Lib.hid (ROb.out.below' hb12)
  replace RX3 := Lib.hid (RX3.out.below' hb12)
  replace RX7 := Lib.hid (RX7.out.below' hb12)
  replace Gb := Lib.hid ((hb12.block _ (heap_lt Gb.out)).trans Gb.out)
  replace GS := Lib.hid ((hb12.block _ (heap_lt GS.out)).trans GS.out)
  replace GXb := Lib.hid ((hb12.block _ (heap_lt GXb.out)).trans GXb.out)
  replace GG := Lib.hid ((hb12.block _ (heap_lt GG.out)).trans GG.out)
  replace HW := Lib.hid (HW.out.trans (hb12.mono HW.out.size))
  clear hb12
  obtain ⟨o9_0, o9_1, _, _, o9_z⟩ := two_at GG.out
  go_wp2_with fail
  clear o9_0 o9_1 o9_z
  refine (markRowsResult_c C _ L 1 _ fx7 (by omega) (by omega) (by omega) RX7.out NX7.out).mono ?_
  rintro e w13 ⟨rfl, hb13, hm13⟩
  have sz13 := hb13.size
  clear NX7
  replace ROb := Lib.hid (ROb.out.but hb13 (fun b hb hx => by have h1 := HLob.out b hb; have h2 := HF7.out b hx; have h3 := HLT7.out b hx; have h4 := HFob.out b hb; omega))
  replace RX3 := Lib.hid (RX3.out.but hb13 (fun b hb hx => by have h1 := HLT3.out b hb; have h2 := HF7.out b hx; have h3 := HLT7.out b hx; have h4 := HF3.out b hb; omega))
  replace Gb := Lib.hid (hb13.heap Gb.out (fun hx => by have h2 := HF7.out _ hx; have h3 := HLT7.out _ hx; omega))
  replace GS := Lib.hid (hb13.heap GS.out (fun hx => by have h2 := HF7.out _ hx; have h3 := HLT7.out _ hx; omega))
  replace GXb := Lib.hid (hb13.heap GXb.out (fun hx => by have h2 := HF7.out _ hx; have h3 := HLT7.out _ hx; omega))
  replace GG := Lib.hid (hb13.heap GG.out (fun hx => by have h2 := HF7.out _ hx; have h3 := HLT7.out _ hx; omega))
  replace HW := Lib.hid (HW.out.trans (hb13.below HW.out.size (fun b hx => by have h2 := HF7.out b hx; omega)))
  replace RX7 := Lib.hid hm13; clear hb13 hm13
  obtain ⟨o10_0, o10_1, _, _, o10_z⟩ := two_at GG.out
  go_wp2_with fail
  clear o10_0 o10_1 o10_z
  refine (heldRowsResult_c C _ L.length 1 _ fx7 (by omega) (by omega) (by omega) A7 c7 rfl RX7.out).mono ?_
  rintro e w14 ⟨rfl, hb14⟩
  have sz14 := hb14.size
  replace ROb := Lib.hid (ROb.out.below' hb14)
  replace RX3 := Lib.hid (RX3.out.below' hb14)
  replace RX7 := Lib.hid (RX7.out.below' hb14)
  replace Gb := Lib.hid ((hb14.block _ (heap_lt Gb.out)).trans Gb.out)
  replace GS := Lib.hid ((hb14.block _ (heap_lt GS.out)).trans GS.out)
  replace GXb := Lib.hid ((hb14.block _ (heap_lt GXb.out)).trans GXb.out)
  replace GG := Lib.hid ((hb14.block _ (heap_lt GG.out)).trans GG.out)
  replace HW := Lib.hid (HW.out.trans (hb14.mono HW.out.size))
  clear hb14
  have hq3 : decide ((1 : Int) + (L.length * 4 : Nat) < 0) = false := by simp; omega
  obtain ⟨o11_0, o11_1, _, _, o11_z⟩ := two_at Gb.out
  go_wp2_with fail
  clear o11_0 o11_1 o11_z
  refine (toPlaces_c b (.slice aab b.fs.length ccb) fpb _ hsb ROb.out).mono ?_
  rintro e w15 ⟨v15, fx15, rfl, hr15, hn15, ⟨hf15, hd15⟩, hb15⟩
  obtain ⟨A15, c15, rfl⟩ := hr15.form
  have HD15 := Lib.hid hd15; clear hd15
  have ht15 := hr15.lt
  have sz15 := hb15.size
  replace ROb := Lib.hid (ROb.out.below' hb15)
  replace RX3 := Lib.hid (RX3.out.below' hb15)
  replace RX7 := Lib.hid (RX7.out.below' hb15)
  replace Gb := Lib.hid ((hb15.block _ (heap_lt Gb.out)).trans Gb.out)
  replace GS := Lib.hid ((hb15.block _ (heap_lt GS.out)).trans GS.out)
  replace GXb := Lib.hid ((hb15.block _ (heap_lt GXb.out)).trans GXb.out)
  replace GG := Lib.hid ((hb15.block _ (heap_lt GG.out)).trans GG.out)
  replace HW := Lib.hid (HW.out.trans (hb15.mono HW.out.size))
  have RX15 := Lib.hid hr15; have NX15 := Lib.hid hn15; have HF15 := Lib.hid hf15; have HLT15 := Lib.hid ht15; clear hr15 hn15 hf15 ht15 hb15
  go_wp2_with fail
  refine (ask b (.slice A15 b.fs.length c15) f m _ fx15 hsb wnb wrb wf wm RX15.out).mono ?_
  rw [HC.out, HL.out]
  rintro e w16 ⟨q16, rfl, ⟨v16, fx16, rfl, hr16, hn16, hf16⟩, hb16⟩
  obtain ⟨A16, c16, rfl⟩ := hr16.rows_form
  have ht16 := hr16.lt
  have sz16 := hb16.size
  replace NX15 := Lib.hid (NX15.out.but (But.of_below hb16 []) RX15.out.lt (by simp))
  replace ROb := Lib.hid (ROb.out.below' hb16)
  replace RX3 := Lib.hid (RX3.out.below' hb16)
  replace RX7 := Lib.hid (RX7.out.below' hb16)
  replace RX15 := Lib.hid (RX15.out.below' hb16)
  replace Gb := Lib.hid ((hb16.block _ (heap_lt Gb.out)).trans Gb.out)
  replace GS := Lib.hid ((hb16.block _ (heap_lt GS.out)).trans GS.out)
  replace GXb := Lib.hid ((hb16.block _ (heap_lt GXb.out)).trans GXb.out)
  replace GG := Lib.hid ((hb16.block _ (heap_lt GG.out)).trans GG.out)
  replace HW := Lib.hid (HW.out.trans (hb16.mono HW.out.size))
  have RX16 := Lib.hid hr16; have NX16 := Lib.hid hn16; have HF16 := Lib.hid hf16; have HLT16 := Lib.hid ht16; clear hr16 hn16 hf16 ht16 hb16
  obtain ⟨o12_0, o12_1, _, _, o12_z⟩ := two_at GS.out
  have gN := heap_new w16 (.cells #[.int .i64 C, (.slice A16 L.length c16)] 31) rfl
  have bN := below_new (w := w16) (.cells #[.int .i64 C, (.slice A16 L.length c16)] 31)
  have GN := Lib.hid gN; have BN := Lib.hid bN; clear gN bN
  go_wp2_with fail
  clear o12_0 o12_1 o12_z
  generalize w16.alloc (.cells #[.int .i64 C, (.slice A16 L.length c16)] 31) = w17 at GN BN ⊢
  have sz17 := BN.out.size
  replace NX15 := Lib.hid (NX15.out.but (But.of_below BN.out []) RX15.out.lt (by simp))
  replace NX16 := Lib.hid (NX16.out.but (But.of_below BN.out []) RX16.out.lt (by simp))
  replace ROb := Lib.hid (ROb.out.below' BN.out)
  replace RX3 := Lib.hid (RX3.out.below' BN.out)
  replace RX7 := Lib.hid (RX7.out.below' BN.out)
  replace RX15 := Lib.hid (RX15.out.below' BN.out)
  replace RX16 := Lib.hid (RX16.out.below' BN.out)
  replace Gb := Lib.hid ((BN.out.block _ (heap_lt Gb.out)).trans Gb.out)
  replace GS := Lib.hid ((BN.out.block _ (heap_lt GS.out)).trans GS.out)
  replace GXb := Lib.hid ((BN.out.block _ (heap_lt GXb.out)).trans GXb.out)
  replace GG := Lib.hid ((BN.out.block _ (heap_lt GG.out)).trans GG.out)
  replace HW := Lib.hid (HW.out.trans (BN.out.mono HW.out.size))
  have sgGH := heap_lt GN.out
  have GH := Lib.hid GN.out; clear GN BN
  refine (eqRowsResult_c C _ _ L _ fx16 fx3 RX16.out RX3.out).mono ?_
  rintro e w18 ⟨rfl, hb18⟩
  have sz18 := hb18.size
  replace NX15 := Lib.hid (NX15.out.but (But.of_below hb18 []) RX15.out.lt (by simp))
  replace NX16 := Lib.hid (NX16.out.but (But.of_below hb18 []) RX16.out.lt (by simp))
  replace ROb := Lib.hid (ROb.out.below' hb18)
  replace RX3 := Lib.hid (RX3.out.below' hb18)
  replace RX7 := Lib.hid (RX7.out.below' hb18)
  replace RX15 := Lib.hid (RX15.out.below' hb18)
  replace RX16 := Lib.hid (RX16.out.below' hb18)
  replace Gb := Lib.hid ((hb18.block _ (heap_lt Gb.out)).trans Gb.out)
  replace GS := Lib.hid ((hb18.block _ (heap_lt GS.out)).trans GS.out)
  replace GXb := Lib.hid ((hb18.block _ (heap_lt GXb.out)).trans GXb.out)
  replace GG := Lib.hid ((hb18.block _ (heap_lt GG.out)).trans GG.out)
  replace GH := Lib.hid ((hb18.block _ (heap_lt GH.out)).trans GH.out)
  replace HW := Lib.hid (HW.out.trans (hb18.mono HW.out.size))
  clear hb18
  obtain ⟨o13_0, o13_1, _, _, o13_z⟩ := two_at GG.out
  go_wp2_with fail
  clear o13_0 o13_1 o13_z
  refine (heldRowsResult_c C _ L.length 1 _ fx7 (by omega) (by omega) (by omega) A7 c7 rfl RX7.out).mono ?_
  rintro e w19 ⟨rfl, hb19⟩
  have sz19 := hb19.size
  replace NX15 := Lib.hid (NX15.out.but (But.of_below hb19 []) RX15.out.lt (by simp))
  replace NX16 := Lib.hid (NX16.out.but (But.of_below hb19 []) RX16.out.lt (by simp))
  replace ROb := Lib.hid (ROb.out.below' hb19)
  replace RX3 := Lib.hid (RX3.out.below' hb19)
  replace RX7 := Lib.hid (RX7.out.below' hb19)
  replace RX15 := Lib.hid (RX15.out.below' hb19)
  replace RX16 := Lib.hid (RX16.out.below' hb19)
  replace Gb := Lib.hid ((hb19.block _ (heap_lt Gb.out)).trans Gb.out)
  replace GS := Lib.hid ((hb19.block _ (heap_lt GS.out)).trans GS.out)
  replace GXb := Lib.hid ((hb19.block _ (heap_lt GXb.out)).trans GXb.out)
  replace GG := Lib.hid ((hb19.block _ (heap_lt GG.out)).trans GG.out)
  replace GH := Lib.hid ((hb19.block _ (heap_lt GH.out)).trans GH.out)
  replace HW := Lib.hid (HW.out.trans (hb19.mono HW.out.size))
  clear hb19
  go_wp2
  go_ret
  exact ⟨rfl, HW.out⟩
end Go.Proofs.Ytoabohllphoioaa
