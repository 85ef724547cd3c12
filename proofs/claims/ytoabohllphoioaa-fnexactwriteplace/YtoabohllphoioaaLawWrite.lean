/- The law on WritePlace answers true: the walk, by a maker (reslaw.py). -/
import Derived.Test.YtoabohllphoioaaImpl6e
import Derived.Test.YtoabohllphoioaaSpec6i
import Derived.Test.YtoabohllphoioaaGotP
import Derived.Test.YtoabohllphoioaaArgs4
import Derived.Deep.DeepCutAuto
namespace Go.Proofs.Ytoabohllphoioaa
open Go.RowKit

set_option maxRecDepth 100000 in
set_option maxHeartbeats 8000000 in
theorem lawWritePlace_c (ask : AskWritePlace) (b : Pl) (wnb : (Lit.int .i64 b.mark).wf = true) (vb : Value) (wrb : WfF b.fs) (r : R) (wrr : WfR r) (m : Int) (wm : (Lit.int .i64 m).wf = true) (w : World) (fpb : List Nat) (hrb : PlAt w b vb fpb) :
    Calls Try.prog 6 #[plv b.mark vb, rv r, .int .i64 m] w fun e w' => e = .returned (.bool true) ∧ Below w.heap.size w w' := by
  obtain ⟨aab, ccb, rfl⟩ := hrb.form
  have HLob := Lib.hid hrb.lt
  have ROb := Lib.hid hrb; clear hrb
  have HB0 : Hid (Below w.heap.size w ((w.alloc (.cells #[(.slice aab b.fs.length ccb), .int .i64 b.mark] 42)).alloc (.cells #[.int .i64 r.1, .int .i64 r.2.1, .int .i64 r.2.2.1, .int .i64 r.2.2.2] 51))) := below_more (below_new _) _
  have Gb : Hid (((w.alloc (.cells #[(.slice aab b.fs.length ccb), .int .i64 b.mark] 42)).alloc (.cells #[.int .i64 r.1, .int .i64 r.2.1, .int .i64 r.2.2.1, .int .i64 r.2.2.2] 51)).heap[w.heap.size]? = some (.cells #[(.slice aab b.fs.length ccb), .int .i64 b.mark] 42 (0, 0))) := heap_old (heap_new w _ (by simp))
  have Gr : Hid (((w.alloc (.cells #[(.slice aab b.fs.length ccb), .int .i64 b.mark] 42)).alloc (.cells #[.int .i64 r.1, .int .i64 r.2.1, .int .i64 r.2.2.1, .int .i64 r.2.2.2] 51)).heap[w.heap.size + 1]? = some (.cells #[.int .i64 r.1, .int .i64 r.2.1, .int .i64 r.2.2.1, .int .i64 r.2.2.2] 51 (0, 0))) := heap_new (w.alloc (.cells #[(.slice aab b.fs.length ccb), .int .i64 b.mark] 42)) _ (by simp)
  have ⟨W0, hW0⟩ : ∃ x, x = ((w.alloc (.cells #[(.slice aab b.fs.length ccb), .int .i64 b.mark] 42)).alloc (.cells #[.int .i64 r.1, .int .i64 r.2.1, .int .i64 r.2.2.1, .int .i64 r.2.2.2] 51)) := ⟨_, rfl⟩
  rw [← hW0] at HB0 Gb Gr
  have HW0 := Lib.hid hW0; clear hW0
  replace ROb := Lib.hid (ROb.out.below' HB0.out)
  have HW := HB0; have sz0 := HB0.out.size
  have sgGb := heap_lt Gb.out
  have sgGr := heap_lt Gr.out
  have HFob := Lib.hid (show From 0 fpb from fun _ _ => Nat.zero_le _)
  by_cases hbigb : (1048576 : Int) < plsz b
  · have HBIGb := Lib.hid hbigb; clear hbigb
    go_enter Try.func6, Try.ntmps6
    go_wp2_with fail
    rw [← HW0.out]
    refine (szPlaces_c b (.slice aab b.fs.length ccb) fpb ((1048576 : Int)) _ ROb.out (by omega) (by omega)).mono ?_
    rw [if_pos (show (1048576 : Int) < plsz b from HBIGb.out)]
    rintro e w1 ⟨rfl, hb1⟩
    have sz1 := hb1.size
    replace ROb := Lib.hid (ROb.out.below' hb1)
    replace Gb := Lib.hid ((hb1.block _ (heap_lt Gb.out)).trans Gb.out)
    replace Gr := Lib.hid ((hb1.block _ (heap_lt Gr.out)).trans Gr.out)
    replace HW := Lib.hid (HW.out.trans (hb1.mono HW.out.size))
    clear hb1
    go_wp2
    go_ret
    exact ⟨rfl, HW.out⟩
  have nnb : 0 ≤ plsz b := plsz_nn b
  have hsmlb : plsz b ≤ (1048576 : Int) := by omega
  have hlb : decide ((1048576 : Int) - plsz b < 0) = false := by simp; omega
  have hsb : plsz b ≤ 1048576 := by omega
  have HSMLb := Lib.hid hsmlb; clear hsmlb hbigb
  have hLl := wpL_sz b r m
  generalize hC : wpC b r m = C
  generalize hL : wpL b r m = L at hLl
  have HC := Lib.hid hC; have HL := Lib.hid hL; clear hC hL
  go_enter Try.func6, Try.ntmps6
  go_wp2_with fail
  rw [← HW0.out]
  refine (szPlaces_c b (.slice aab b.fs.length ccb) fpb ((1048576 : Int)) _ ROb.out (by omega) (by omega)).mono ?_
  rw [if_neg (show ¬ (1048576 : Int) < plsz b by have := HSMLb.out; omega)]
  rintro e w1 ⟨rfl, hb1⟩
  have sz1 := hb1.size
  replace ROb := Lib.hid (ROb.out.below' hb1)
  replace Gb := Lib.hid ((hb1.block _ (heap_lt Gb.out)).trans Gb.out)
  replace Gr := Lib.hid ((hb1.block _ (heap_lt Gr.out)).trans Gr.out)
  replace HW := Lib.hid (HW.out.trans (hb1.mono HW.out.size))
  clear hb1
  go_upto_region 5 with (fail)
  obtain ⟨a0_, a1_, _, _, az_⟩ := two_at Gb.out
  obtain ⟨b0_, b1_, b2_, b3_, _, _, _, _, bz_⟩ := four_at Gr.out
  go_cut [8] (fun p wc => ∃ g A c fv, p = .pointer (some ⟨g, 0, none⟩) ∧ Hid (GotP w1 C L g A c fv wc))
  case first =>
    go_region_held3 (fun w' => w'.cell? ⟨w.heap.size, 0, none⟩ = some ((.slice aab b.fs.length ccb)) ∧ w'.cell? ⟨w.heap.size, 1, none⟩ = some (.int .i64 b.mark) ∧ w'.cell? ⟨w.heap.size + 1, 0, none⟩ = some (.int .i64 r.1) ∧ w'.cell? ⟨w.heap.size + 1, 1, none⟩ = some (.int .i64 r.2.1) ∧ w'.cell? ⟨w.heap.size + 1, 2, none⟩ = some (.int .i64 r.2.2.1) ∧ w'.cell? ⟨w.heap.size + 1, 3, none⟩ = some (.int .i64 r.2.2.2))
      (first | go_keep | (refine ⟨(Below.cell (w := w1) (p := ⟨w.heap.size, _, none⟩) ?_ az_).trans a0_, (Below.cell (w := w1) (p := ⟨w.heap.size, _, none⟩) ?_ az_).trans a1_, (Below.cell (w := w1) (p := ⟨w.heap.size + 1, _, none⟩) ?_ bz_).trans b0_, (Below.cell (w := w1) (p := ⟨w.heap.size + 1, _, none⟩) ?_ bz_).trans b1_, (Below.cell (w := w1) (p := ⟨w.heap.size + 1, _, none⟩) ?_ bz_).trans b2_, (Below.cell (w := w1) (p := ⟨w.heap.size + 1, _, none⟩) ?_ bz_).trans b3_⟩ <;> (repeat (first | with_reducible exact hk4 | with_reducible exact hk2 | with_reducible exact hk1 | with_reducible refine below_more ?_ _ | with_reducible refine Below.setCell ?_ hlo _))))
      (first
        | (go_at_call 24
           refine (toPlaces_c b (.slice aab b.fs.length ccb) fpb _ hsb (ROb.out.below' (Below.refl _ _).drew)).mono ?_
           rintro e x1 ⟨v1, fx1, rfl, hr1, hn1, ⟨hf1, hd1⟩, hb1⟩
           obtain ⟨A1, c1, rfl⟩ := hr1.form
           have hk1 : Below w1.heap.size w1 x1 := (Below.refl _ _).drew.trans hb1
           clear hn1 hf1 hd1 hb1)
        | (go_at_call 24
           refine (toPlaces_c b (.slice aab b.fs.length ccb) fpb _ hsb (ROb.out.below' ((Below.refl _ _).drew.alloc (by simp) _))).mono ?_
           rintro e x1 ⟨v1, fx1, rfl, hr1, hn1, ⟨hf1, hd1⟩, hb1⟩
           obtain ⟨A1, c1, rfl⟩ := hr1.form
           have hk1 : Below w1.heap.size w1 x1 := ((Below.refl _ _).drew.alloc (by simp) _).trans (hb1.mono (by simp))
           have gg := Lib.hid (show x1.heap[w1.heap.size]? = _ from (hb1.block w1.heap.size (by simp)).trans (heap_new w1.drew _ rfl))
           clear hn1 hf1 hd1 hb1)
        | (go_at_call 33
           refine (toRow_c r _).mono ?_
           rintro e x2 ⟨rfl, hb2⟩
           have gg2 := Lib.hid ((hb2.block _ (heap_lt gg.out)).trans gg.out)
           have hk2 : Below w1.heap.size w1 x2 := hk1.trans (hb2.mono hk1.size)
           have hr2 := hr1.below' hb2
           have hlo := Nat.le_refl w1.heap.size
           clear hb2 hr1 gg)
        | (go_at_call 33
           refine (toRow_c r _).mono ?_
           rintro e x2 ⟨rfl, hb2⟩
           have hk2 : Below w1.heap.size w1 x2 := hk1.trans (hb2.mono hk1.size)
           have hr2 := hr1.below' hb2
           clear hb2 hr1)
        | (go_at_call 33
           refine (toRow_c r _).mono ?_
           rintro e x2 ⟨rfl, hb2⟩
           have hk2 : Below w1.heap.size w1 x2 := (below_more hk1 _).trans (hb2.mono (below_more hk1 _).size)
           have hr2 := (hr1.alloc _).below' hb2
           have gg2 := Lib.hid (show x2.heap[x1.heap.size]? = _ from (hb2.block x1.heap.size (by simp)).trans (heap_new x1 _ rfl))
           have hlo := hk1.size
           clear hb2 hr1)
        | (go_at_call 32
           refine (specWritePlace_r b (.slice A1 b.fs.length c1) r m _ fx1 hsb hr2).mono ?_
           rw [HC.out, HL.out]
           rintro e x4 ⟨v4, f4, rfl, hr4, hn4, ⟨hf4, hd4⟩, hb4⟩
           have gg4 := Lib.hid ((hb4.block _ (heap_lt gg2.out)).trans gg2.out)
           obtain ⟨y0, y1, y2, z0, z1, z2, zz⟩ := three_at6 gg4.out
           have hap := hf4.mono (Nat.succ_le_of_lt (heap_lt gg2.out))
           obtain ⟨A4, c4, rfl⟩ := hr4.form
           have hk4 : Below w1.heap.size w1 x4 := hk2.trans (hb4.mono hk2.size)
           clear hb4 hr2 hf4 gg2)
        | (go_at_call 32
           refine (specWritePlace_r b (.slice A1 b.fs.length c1) r m _ fx1 hsb hr2).mono ?_
           rw [HC.out, HL.out]
           rintro e x4 ⟨v4, f4, rfl, hr4, hn4, ⟨hf4, hd4⟩, hb4⟩
           obtain ⟨A4, c4, rfl⟩ := hr4.form
           have hk4 : Below w1.heap.size w1 x4 := hk2.trans (hb4.mono hk2.size)
           have hf4' := hf4.mono hk2.size
           clear hb4 hr2 hf4)
        | (go_at_call 32
           refine (specWritePlace_r b (.slice A1 b.fs.length c1) r m _ fx1 hsb (hr2.alloc _)).mono ?_
           rw [HC.out, HL.out]
           rintro e x4 ⟨v4, f4, rfl, hr4, hn4, ⟨hf4, hd4⟩, hb4⟩
           have gg4 := Lib.hid (show x4.heap[x2.heap.size]? = _ from (hb4.block x2.heap.size (by simp)).trans (heap_new x2 _ rfl))
           obtain ⟨y0, y1, y2, z0, z1, z2, zz⟩ := three_at6 gg4.out
           have hap := hf4.mono (show x2.heap.size + 1 ≤ _ by simp)
           obtain ⟨A4, c4, rfl⟩ := hr4.form
           have hk4 : Below w1.heap.size w1 x4 := (below_more hk2 _).trans (hb4.mono (below_more hk2 _).size)
           have hlo := hk2.size
           clear hb4 hr2 hf4))
    all_goals (go_wp2_with fail; go_meet)
    all_goals (first | exact ⟨_, _, _, _, rfl, Lib.hid (gotp_new hr4 hn4 hf4' hd4 hk4)⟩ | exact ⟨_, _, _, _, rfl, Lib.hid (gotp_set gg4.out hlo hap hr4 hn4 hd4 hk4)⟩)
  case rest =>
    obtain ⟨g2, A2, c2, fx2, rfl, HG2⟩ := hcut
    have ⟨w2, hw2⟩ : ∃ x, x = wc := ⟨_, rfl⟩
    subst hw2
    clear a0_ a1_ az_ b0_ b1_ b2_ b3_ bz_
    have sz2 := HG2.out.bel.size
    replace ROb := Lib.hid (ROb.out.below' HG2.out.bel)
    replace Gb := Lib.hid ((HG2.out.bel.block _ (heap_lt Gb.out)).trans Gb.out)
    replace Gr := Lib.hid ((HG2.out.bel.block _ (heap_lt Gr.out)).trans Gr.out)
    replace HW := Lib.hid (HW.out.trans (HG2.out.bel.mono HW.out.size))
    have lo2 := HG2.out.lo; have HAPRX2 := Lib.hid HG2.out.ap
    have GS := Lib.hid HG2.out.blk; have sgGS := heap_lt HG2.out.blk
    have RX2 := Lib.hid HG2.out.rd; have NX2 := Lib.hid HG2.out.nf; have HF2 := Lib.hid HG2.out.fr; have HD2 := Lib.hid HG2.out.nd; have HLT2 := Lib.hid HG2.out.rd.lt; clear HG2
    clear NX2
    obtain ⟨o1_0, o1_1, _, _, o1_z⟩ := two_at Gb.out
    go_wp2_with fail
    clear o1_0 o1_1 o1_z
    refine (toPlaces_c b (.slice aab b.fs.length ccb) fpb _ hsb ROb.out).mono ?_
    rintro e w3 ⟨v3, fx3, rfl, hr3, hn3, ⟨hf3, hd3⟩, hb3⟩
    obtain ⟨A3, c3, rfl⟩ := hr3.form
    have HD3 := Lib.hid hd3; clear hd3
    have ht3 := hr3.lt
    have sz3 := hb3.size
    replace ROb := Lib.hid (ROb.out.below' hb3)
    replace RX2 := Lib.hid (RX2.out.below' hb3)
    replace Gb := Lib.hid ((hb3.block _ (heap_lt Gb.out)).trans Gb.out)
    replace Gr := Lib.hid ((hb3.block _ (heap_lt Gr.out)).trans Gr.out)
    replace GS := Lib.hid ((hb3.block _ (heap_lt GS.out)).trans GS.out)
    replace HW := Lib.hid (HW.out.trans (hb3.mono HW.out.size))
    have RX3 := Lib.hid hr3; have NX3 := Lib.hid hn3; have HF3 := Lib.hid hf3; have HLT3 := Lib.hid ht3; clear hr3 hn3 hf3 ht3 hb3
    have gN := heap_new w3 (.cells #[(.slice A3 b.fs.length c3), .int .i64 b.mark] 26) rfl
    have bN := below_new (w := w3) (.cells #[(.slice A3 b.fs.length c3), .int .i64 b.mark] 26)
    have GN := Lib.hid gN; have BN := Lib.hid bN; clear gN bN
    go_upto_region 7 with (fail)
    generalize w3.alloc (.cells #[(.slice A3 b.fs.length c3), .int .i64 b.mark] 26) = w4 at GN BN ⊢
    have sz4 := BN.out.size
    replace NX3 := Lib.hid (NX3.out.but (But.of_below BN.out []) RX3.out.lt (by simp))
    replace ROb := Lib.hid (ROb.out.below' BN.out)
    replace RX2 := Lib.hid (RX2.out.below' BN.out)
    replace RX3 := Lib.hid (RX3.out.below' BN.out)
    replace Gb := Lib.hid ((BN.out.block _ (heap_lt Gb.out)).trans Gb.out)
    replace Gr := Lib.hid ((BN.out.block _ (heap_lt Gr.out)).trans Gr.out)
    replace GS := Lib.hid ((BN.out.block _ (heap_lt GS.out)).trans GS.out)
    replace HW := Lib.hid (HW.out.trans (BN.out.mono HW.out.size))
    have sgGXb := heap_lt GN.out
    have GXb := Lib.hid GN.out; clear GN BN
    go_upto_region 7 with (fail)
    obtain ⟨a0_, a1_, _, _, az_⟩ := two_at GXb.out
    obtain ⟨b0_, b1_, b2_, b3_, _, _, _, _, bz_⟩ := four_at Gr.out
    go_cut [10] (fun p wc => ∃ g A c fv, p = .pointer (some ⟨g, 0, none⟩) ∧ Hid (GotP w4 C L g A c fv wc))
    case first =>
      go_region_held3 (fun w' => w'.cell? ⟨w3.heap.size, 0, none⟩ = some ((.slice A3 b.fs.length c3)) ∧ w'.cell? ⟨w3.heap.size, 1, none⟩ = some (.int .i64 b.mark) ∧ w'.cell? ⟨w.heap.size + 1, 0, none⟩ = some (.int .i64 r.1) ∧ w'.cell? ⟨w.heap.size + 1, 1, none⟩ = some (.int .i64 r.2.1) ∧ w'.cell? ⟨w.heap.size + 1, 2, none⟩ = some (.int .i64 r.2.2.1) ∧ w'.cell? ⟨w.heap.size + 1, 3, none⟩ = some (.int .i64 r.2.2.2))
        (first | go_keep | (refine ⟨(Below.cell (w := w4) (p := ⟨w3.heap.size, _, none⟩) ?_ az_).trans a0_, (Below.cell (w := w4) (p := ⟨w3.heap.size, _, none⟩) ?_ az_).trans a1_, (Below.cell (w := w4) (p := ⟨w.heap.size + 1, _, none⟩) ?_ bz_).trans b0_, (Below.cell (w := w4) (p := ⟨w.heap.size + 1, _, none⟩) ?_ bz_).trans b1_, (Below.cell (w := w4) (p := ⟨w.heap.size + 1, _, none⟩) ?_ bz_).trans b2_, (Below.cell (w := w4) (p := ⟨w.heap.size + 1, _, none⟩) ?_ bz_).trans b3_⟩ <;> (repeat (first | with_reducible exact hk4 | with_reducible exact hk2 | with_reducible exact hk1 | with_reducible refine below_more ?_ _ | with_reducible refine Below.setCell ?_ hlo _))))
        (first
          | (go_at_call 33
             refine (toRow_c r _).mono ?_
             rintro e x2 ⟨rfl, hb2⟩
             have gg2 := Lib.hid (show x2.heap[w4.heap.size]? = _ from (hb2.block w4.heap.size (by simp)).trans (heap_new w4.drew _ rfl))
             have hk2 : Below w4.heap.size w4 x2 := ((Below.refl _ _).drew.alloc (by simp) _).trans (hb2.mono (by simp))
             have hr2 := RX3.out.below' hk2
             have hlo := Nat.le_refl w4.heap.size
             clear hb2)
          | (go_at_call 33
             refine (toRow_c r _).mono ?_
             rintro e x2 ⟨rfl, hb2⟩
             have hk2 : Below w4.heap.size w4 x2 := (Below.refl _ _).drew.trans hb2
             have hr2 := RX3.out.below' hk2
             clear hb2)
          | (go_at_call 34
             refine (ask b (.slice A3 b.fs.length c3) r m _ fx3 hsb wnb wrb wrr wm hr2).mono ?_
             rw [HC.out, HL.out]
             rintro e x4 ⟨v4, f4, rfl, hr4, hn4, ⟨hf4, hd4⟩, hb4⟩
             have gg4 := Lib.hid ((hb4.block _ (heap_lt gg2.out)).trans gg2.out)
             obtain ⟨y0, y1, y2, z0, z1, z2, zz⟩ := three_at6 gg4.out
             have hap := hf4.mono (Nat.succ_le_of_lt (heap_lt gg2.out))
             obtain ⟨A4, c4, rfl⟩ := hr4.form
             have hk4 : Below w4.heap.size w4 x4 := hk2.trans (hb4.mono hk2.size)
             clear hb4 hr2 hf4 gg2)
          | (go_at_call 34
             refine (ask b (.slice A3 b.fs.length c3) r m _ fx3 hsb wnb wrb wrr wm hr2).mono ?_
             rw [HC.out, HL.out]
             rintro e x4 ⟨v4, f4, rfl, hr4, hn4, ⟨hf4, hd4⟩, hb4⟩
             obtain ⟨A4, c4, rfl⟩ := hr4.form
             have hk4 : Below w4.heap.size w4 x4 := hk2.trans (hb4.mono hk2.size)
             have hf4' := hf4.mono hk2.size
             clear hb4 hr2 hf4)
          | (go_at_call 34
             refine (ask b (.slice A3 b.fs.length c3) r m _ fx3 hsb wnb wrb wrr wm (hr2.alloc _)).mono ?_
             rw [HC.out, HL.out]
             rintro e x4 ⟨v4, f4, rfl, hr4, hn4, ⟨hf4, hd4⟩, hb4⟩
             have gg4 := Lib.hid (show x4.heap[x2.heap.size]? = _ from (hb4.block x2.heap.size (by simp)).trans (heap_new x2 _ rfl))
             obtain ⟨y0, y1, y2, z0, z1, z2, zz⟩ := three_at6 gg4.out
             have hap := hf4.mono (show x2.heap.size + 1 ≤ _ by simp)
             obtain ⟨A4, c4, rfl⟩ := hr4.form
             have hk4 : Below w4.heap.size w4 x4 := (below_more hk2 _).trans (hb4.mono (below_more hk2 _).size)
             have hlo := hk2.size
             clear hb4 hr2 hf4))
      all_goals (go_wp2_with fail; go_meet)
      all_goals (first | exact ⟨_, _, _, _, rfl, Lib.hid (gotp_new hr4 hn4 hf4' hd4 hk4)⟩ | exact ⟨_, _, _, _, rfl, Lib.hid (gotp_set gg4.out hlo hap hr4 hn4 hd4 hk4)⟩)
    case rest =>
      obtain ⟨g5, A5, c5, fx5, rfl, HG5⟩ := hcut
      have ⟨w5, hw5⟩ : ∃ x, x = wc := ⟨_, rfl⟩
      subst hw5
      clear a0_ a1_ az_ b0_ b1_ b2_ b3_ bz_
      have sz5 := HG5.out.bel.size
      replace NX3 := Lib.hid (NX3.out.but (But.of_below HG5.out.bel []) RX3.out.lt (by simp))
      replace ROb := Lib.hid (ROb.out.below' HG5.out.bel)
      replace RX2 := Lib.hid (RX2.out.below' HG5.out.bel)
      replace RX3 := Lib.hid (RX3.out.below' HG5.out.bel)
      replace Gb := Lib.hid ((HG5.out.bel.block _ (heap_lt Gb.out)).trans Gb.out)
      replace Gr := Lib.hid ((HG5.out.bel.block _ (heap_lt Gr.out)).trans Gr.out)
      replace GS := Lib.hid ((HG5.out.bel.block _ (heap_lt GS.out)).trans GS.out)
      replace GXb := Lib.hid ((HG5.out.bel.block _ (heap_lt GXb.out)).trans GXb.out)
      replace HW := Lib.hid (HW.out.trans (HG5.out.bel.mono HW.out.size))
      have lo5 := HG5.out.lo; have HAPRX5 := Lib.hid HG5.out.ap
      have GG := Lib.hid HG5.out.blk; have sgGG := heap_lt HG5.out.blk
      have RX5 := Lib.hid HG5.out.rd; have NX5 := Lib.hid HG5.out.nf; have HF5 := Lib.hid HG5.out.fr; have HD5 := Lib.hid HG5.out.nd; have HLT5 := Lib.hid HG5.out.rd.lt; clear HG5
      obtain ⟨o2_0, o2_1, o2_2, _, _, _, o2_z⟩ := three_at6 GS.out
      obtain ⟨o3_0, o3_1, o3_2, _, _, _, o3_z⟩ := three_at6 GG.out
      go_wp2_with fail
      clear o2_0 o2_1 o2_2 o2_z o3_0 o3_1 o3_2 o3_z
      refine (eqPlacesResult_c C L (.slice A5 L.fs.length c5) (.slice A2 L.fs.length c2) _ fx5 fx2 RX5.out RX2.out).mono ?_
      rintro e w6 ⟨rfl, hb6⟩
      have sz6 := hb6.size
      replace NX3 := Lib.hid (NX3.out.but (But.of_below hb6 []) RX3.out.lt (by simp))
      replace NX5 := Lib.hid (NX5.out.but (But.of_below hb6 []) RX5.out.lt (by simp))
      replace ROb := Lib.hid (ROb.out.below' hb6)
      replace RX2 := Lib.hid (RX2.out.below' hb6)
      replace RX3 := Lib.hid (RX3.out.below' hb6)
      replace RX5 := Lib.hid (RX5.out.below' hb6)
      replace Gb := Lib.hid ((hb6.block _ (heap_lt Gb.out)).trans Gb.out)
      replace Gr := Lib.hid ((hb6.block _ (heap_lt Gr.out)).trans Gr.out)
      replace GS := Lib.hid ((hb6.block _ (heap_lt GS.out)).trans GS.out)
      replace GXb := Lib.hid ((hb6.block _ (heap_lt GXb.out)).trans GXb.out)
      replace GG := Lib.hid ((hb6.block _ (heap_lt GG.out)).trans GG.out)
      replace HW := Lib.hid (HW.out.trans (hb6.mono HW.out.size))
      clear hb6
      obtain ⟨o4_0, o4_1, _, _, o4_z⟩ := two_at Gb.out
      obtain ⟨o5_0, o5_1, _, _, o5_z⟩ := two_at GXb.out
      go_wp2_with fail
      go_region_held3 (fun w' => w'.cell? ⟨w.heap.size, 0, none⟩ = some ((.slice aab b.fs.length ccb)) ∧ w'.cell? ⟨w.heap.size, 1, none⟩ = some (.int .i64 b.mark) ∧ w'.cell? ⟨w3.heap.size, 0, none⟩ = some ((.slice A3 b.fs.length c3)) ∧ w'.cell? ⟨w3.heap.size, 1, none⟩ = some (.int .i64 b.mark))
        (first | go_keep | (refine ⟨(Below.cell (w := w6) (p := ⟨w.heap.size, _, none⟩) ?_ o4_z).trans o4_0, (Below.cell (w := w6) (p := ⟨w.heap.size, _, none⟩) ?_ o4_z).trans o4_1, (Below.cell (w := w6) (p := ⟨w3.heap.size, _, none⟩) ?_ o5_z).trans o5_0, (Below.cell (w := w6) (p := ⟨w3.heap.size, _, none⟩) ?_ o5_z).trans o5_1⟩ <;> (first | with_reducible exact hq2 | with_reducible exact hq1)))
        (first
          | (go_at_call 24
             refine (toPlaces_c b (.slice aab b.fs.length ccb) fpb _ hsb (ROb.out.below' (Below.refl _ _).drew)).mono ?_
             rintro e y1 ⟨vq, fq, rfl, hkq, _, _, hbq⟩
             have hq1 : Below w6.heap.size w6 y1 := (Below.refl _ _).drew.trans hbq
             clear hbq)
          | (go_at_call 26
             refine (eqPlaces_c b (.slice A3 b.fs.length c3) vq fx3 fq _ (RX3.out.below' hq1) hkq).mono ?_
             rintro e y2 ⟨rfl, hbq⟩
             have hq2 : Below w6.heap.size w6 y2 := hq1.trans (hbq.mono hq1.size)
             clear hbq))
      have ⟨w7, hw7⟩ : ∃ x, x = y2 := ⟨_, rfl⟩
      subst hw7
      have sz7 := hq2.size
      clear o4_0 o4_1 o4_z o5_0 o5_1 o5_z hkq
      replace NX3 := Lib.hid (NX3.out.but (But.of_below hq2 []) RX3.out.lt (by simp))
      replace NX5 := Lib.hid (NX5.out.but (But.of_below hq2 []) RX5.out.lt (by simp))
      replace ROb := Lib.hid (ROb.out.below' hq2)
      replace RX2 := Lib.hid (RX2.out.below' hq2)
      replace RX3 := Lib.hid (RX3.out.below' hq2)
      replace RX5 := Lib.hid (RX5.out.below' hq2)
      replace Gb := Lib.hid ((hq2.block _ (heap_lt Gb.out)).trans Gb.out)
      replace Gr := Lib.hid ((hq2.block _ (heap_lt Gr.out)).trans Gr.out)
      replace GS := Lib.hid ((hq2.block _ (heap_lt GS.out)).trans GS.out)
      replace GXb := Lib.hid ((hq2.block _ (heap_lt GXb.out)).trans GXb.out)
      replace GG := Lib.hid ((hq2.block _ (heap_lt GG.out)).trans GG.out)
      replace HW := Lib.hid (HW.out.trans (hq2.mono HW.out.size))
      clear hq1 hq2
      obtain ⟨o6_0, o6_1, _, _, o6_z⟩ := two_at GXb.out
      go_wp2_with fail
      clear o6_0 o6_1 o6_z
      refine (markPlaces_c b (.slice A3 b.fs.length c3) (1) _ fx3 (by omega) hsb (by omega) RX3.out NX3.out HD3.out).mono ?_
      rintro e w8 ⟨rfl, hb8, _⟩
      have sz8 := hb8.size
      clear NX3
      replace NX5 := Lib.hid (NX5.out.but hb8 RX5.out.lt (fun b hb hx => by have h1 := HLT5.out b hb; have h2 := HF3.out b hx; have h3 := HLT3.out b hx; have h4 := HF5.out b hb; omega))
      replace ROb := Lib.hid (ROb.out.but hb8 (fun b hb hx => by have h1 := HLob.out b hb; have h2 := HF3.out b hx; have h3 := HLT3.out b hx; have h4 := HFob.out b hb; omega))
      replace RX2 := Lib.hid (RX2.out.but hb8 (fun b hb hx => by have h1 := HLT2.out b hb; have h2 := HF3.out b hx; have h3 := HLT3.out b hx; have h4 := HF2.out b hb; omega))
      replace RX5 := Lib.hid (RX5.out.but hb8 (fun b hb hx => by have h1 := HLT5.out b hb; have h2 := HF3.out b hx; have h3 := HLT3.out b hx; have h4 := HF5.out b hb; omega))
      replace Gb := Lib.hid (hb8.heap Gb.out (fun hx => by have h2 := HF3.out _ hx; have h3 := HLT3.out _ hx; omega))
      replace Gr := Lib.hid (hb8.heap Gr.out (fun hx => by have h2 := HF3.out _ hx; have h3 := HLT3.out _ hx; omega))
      replace GS := Lib.hid (hb8.heap GS.out (fun hx => by have h2 := HF3.out _ hx; have h3 := HLT3.out _ hx; omega))
      replace GXb := Lib.hid (hb8.heap GXb.out (fun hx => by have h2 := HF3.out _ hx; have h3 := HLT3.out _ hx; omega))
      replace GG := Lib.hid (hb8.heap GG.out (fun hx => by have h2 := HF3.out _ hx; have h3 := HLT3.out _ hx; omega))
      replace HW := Lib.hid (HW.out.trans (hb8.below HW.out.size (fun b hx => by have h2 := HF3.out b hx; omega)))
      clear RX3
      clear hb8
      have hq1 : decide ((1 + (cntPl b : Nat) : Int) < 0) = false := by simp; omega
      have hq2 : ¬ ((1 + (cntPl b : Nat) : Int) < 0) := by omega
      obtain ⟨o7_0, o7_1, o7_2, _, _, _, o7_z⟩ := three_at6 GS.out
      obtain ⟨o8_0, o8_1, o8_2, _, _, _, o8_z⟩ := three_at6 GG.out
      go_wp2_with fail
      clear o7_0 o7_1 o7_2 o7_z o8_0 o8_1 o8_2 o8_z
      refine (eqPlacesResult_c C L (.slice A5 L.fs.length c5) (.slice A2 L.fs.length c2) _ fx5 fx2 RX5.out RX2.out).mono ?_
      rintro e w9 ⟨rfl, hb9⟩
      have sz9 := hb9.size
      replace NX5 := Lib.hid (NX5.out.but (But.of_below hb9 []) RX5.out.lt (by simp))
      replace ROb := Lib.hid (ROb.out.below' hb9)
      replace RX2 := Lib.hid (RX2.out.below' hb9)
      replace RX5 := Lib.hid (RX5.out.below' hb9)
      replace Gb := Lib.hid ((hb9.block _ (heap_lt Gb.out)).trans Gb.out)
      replace Gr := Lib.hid ((hb9.block _ (heap_lt Gr.out)).trans Gr.out)
      replace GS := Lib.hid ((hb9.block _ (heap_lt GS.out)).trans GS.out)
      replace GXb := Lib.hid ((hb9.block _ (heap_lt GXb.out)).trans GXb.out)
      replace GG := Lib.hid ((hb9.block _ (heap_lt GG.out)).trans GG.out)
      replace HW := Lib.hid (HW.out.trans (hb9.mono HW.out.size))
      clear hb9
      obtain ⟨o9_0, o9_1, o9_2, _, _, _, o9_z⟩ := three_at6 GG.out
      go_wp2_with fail
      clear o9_0 o9_1 o9_2 o9_z
      refine (markPlacesResult_c C (.slice A5 L.fs.length c5) L 1 _ fx5 (by omega) hLl (by omega) RX5.out NX5.out HD5.out).mono ?_
      rintro e w10 ⟨rfl, hb10, hm10⟩
      have sz10 := hb10.size
      clear NX5
      replace ROb := Lib.hid (ROb.out.but hb10 (fun b hb hx => by have h1 := HLob.out b hb; have h2 := HF5.out b hx; have h3 := HLT5.out b hx; have h4 := HFob.out b hb; omega))
      replace RX2 := Lib.hid (RX2.out.but hb10 (fun b hb hx => by have h1 := HLT2.out b hb; have h2 := HF5.out b hx; have h3 := HLT5.out b hx; have h4 := HF2.out b hb; omega))
      replace Gb := Lib.hid (hb10.heap Gb.out (fun hx => by have h2 := HF5.out _ hx; have h3 := HLT5.out _ hx; omega))
      replace Gr := Lib.hid (hb10.heap Gr.out (fun hx => by have h2 := HF5.out _ hx; have h3 := HLT5.out _ hx; omega))
      replace GS := Lib.hid (hb10.heap GS.out (fun hx => by have h2 := HF5.out _ hx; have h3 := HLT5.out _ hx; omega))
      replace GXb := Lib.hid (hb10.heap GXb.out (fun hx => by have h2 := HF5.out _ hx; have h3 := HLT5.out _ hx; omega))
      replace GG := Lib.hid (hb10.heap GG.out HAPRX5.out)
      replace HW := Lib.hid (HW.out.trans (hb10.below HW.out.size (fun b hx => by have h2 := HF5.out b hx; omega)))
      replace RX5 := Lib.hid hm10; clear hb10 hm10
      obtain ⟨o10_0, o10_1, o10_2, _, _, _, o10_z⟩ := three_at6 GG.out
      go_wp2_with fail
      clear o10_0 o10_1 o10_2 o10_z
      refine (heldPlacesResult_c C (.slice A5 L.fs.length c5) L 1 _ fx5 (by omega) hLl (by omega) RX5.out).mono ?_
      rintro e w11 ⟨rfl, hb11⟩
      have sz11 := hb11.size
      replace ROb := Lib.hid (ROb.out.below' hb11)
      replace RX2 := Lib.hid (RX2.out.below' hb11)
      replace RX5 := Lib.hid (RX5.out.below' hb11)
      replace Gb := Lib.hid ((hb11.block _ (heap_lt Gb.out)).trans Gb.out)
      replace Gr := Lib.hid ((hb11.block _ (heap_lt Gr.out)).trans Gr.out)
      replace GS := Lib.hid ((hb11.block _ (heap_lt GS.out)).trans GS.out)
      replace GXb := Lib.hid ((hb11.block _ (heap_lt GXb.out)).trans GXb.out)
      replace GG := Lib.hid ((hb11.block _ (heap_lt GG.out)).trans GG.out)
      replace HW := Lib.hid (HW.out.trans (hb11.mono HW.out.size))
      clear hb11
      have hq3 : decide ((1 : Int) + (cntPl L : Nat) < 0) = false := by simp; omega
      go_upto_region 24 with (fail)
      obtain ⟨a0_, a1_, _, _, az_⟩ := two_at Gb.out
      obtain ⟨b0_, b1_, b2_, b3_, _, _, _, _, bz_⟩ := four_at Gr.out
      go_cut [14] (fun p wc => ∃ g A c fv, p = .pointer (some ⟨g, 0, none⟩) ∧ Hid (GotP w11 C L g A c fv wc))
      case first =>
        go_region_held3 (fun w' => w'.cell? ⟨w.heap.size, 0, none⟩ = some ((.slice aab b.fs.length ccb)) ∧ w'.cell? ⟨w.heap.size, 1, none⟩ = some (.int .i64 b.mark) ∧ w'.cell? ⟨w.heap.size + 1, 0, none⟩ = some (.int .i64 r.1) ∧ w'.cell? ⟨w.heap.size + 1, 1, none⟩ = some (.int .i64 r.2.1) ∧ w'.cell? ⟨w.heap.size + 1, 2, none⟩ = some (.int .i64 r.2.2.1) ∧ w'.cell? ⟨w.heap.size + 1, 3, none⟩ = some (.int .i64 r.2.2.2))
          (first | go_keep | (refine ⟨(Below.cell (w := w11) (p := ⟨w.heap.size, _, none⟩) ?_ az_).trans a0_, (Below.cell (w := w11) (p := ⟨w.heap.size, _, none⟩) ?_ az_).trans a1_, (Below.cell (w := w11) (p := ⟨w.heap.size + 1, _, none⟩) ?_ bz_).trans b0_, (Below.cell (w := w11) (p := ⟨w.heap.size + 1, _, none⟩) ?_ bz_).trans b1_, (Below.cell (w := w11) (p := ⟨w.heap.size + 1, _, none⟩) ?_ bz_).trans b2_, (Below.cell (w := w11) (p := ⟨w.heap.size + 1, _, none⟩) ?_ bz_).trans b3_⟩ <;> (repeat (first | with_reducible exact hk4 | with_reducible exact hk2 | with_reducible exact hk1 | with_reducible refine below_more ?_ _ | with_reducible refine Below.setCell ?_ hlo _))))
          (first
            | (go_at_call 24
               refine (toPlaces_c b (.slice aab b.fs.length ccb) fpb _ hsb (ROb.out.below' (Below.refl _ _).drew)).mono ?_
               rintro e x1 ⟨v1, fx1, rfl, hr1, hn1, ⟨hf1, hd1⟩, hb1⟩
               obtain ⟨A1, c1, rfl⟩ := hr1.form
               have hk1 : Below w11.heap.size w11 x1 := (Below.refl _ _).drew.trans hb1
               clear hn1 hf1 hd1 hb1)
            | (go_at_call 24
               refine (toPlaces_c b (.slice aab b.fs.length ccb) fpb _ hsb (ROb.out.below' ((Below.refl _ _).drew.alloc (by simp) _))).mono ?_
               rintro e x1 ⟨v1, fx1, rfl, hr1, hn1, ⟨hf1, hd1⟩, hb1⟩
               obtain ⟨A1, c1, rfl⟩ := hr1.form
               have hk1 : Below w11.heap.size w11 x1 := ((Below.refl _ _).drew.alloc (by simp) _).trans (hb1.mono (by simp))
               have gg := Lib.hid (show x1.heap[w11.heap.size]? = _ from (hb1.block w11.heap.size (by simp)).trans (heap_new w11.drew _ rfl))
               clear hn1 hf1 hd1 hb1)
            | (go_at_call 33
               refine (toRow_c r _).mono ?_
               rintro e x2 ⟨rfl, hb2⟩
               have gg2 := Lib.hid ((hb2.block _ (heap_lt gg.out)).trans gg.out)
               have hk2 : Below w11.heap.size w11 x2 := hk1.trans (hb2.mono hk1.size)
               have hr2 := hr1.below' hb2
               have hlo := Nat.le_refl w11.heap.size
               clear hb2 hr1 gg)
            | (go_at_call 33
               refine (toRow_c r _).mono ?_
               rintro e x2 ⟨rfl, hb2⟩
               have hk2 : Below w11.heap.size w11 x2 := hk1.trans (hb2.mono hk1.size)
               have hr2 := hr1.below' hb2
               clear hb2 hr1)
            | (go_at_call 33
               refine (toRow_c r _).mono ?_
               rintro e x2 ⟨rfl, hb2⟩
               have hk2 : Below w11.heap.size w11 x2 := (below_more hk1 _).trans (hb2.mono (below_more hk1 _).size)
               have hr2 := (hr1.alloc _).below' hb2
               have gg2 := Lib.hid (show x2.heap[x1.heap.size]? = _ from (hb2.block x1.heap.size (by simp)).trans (heap_new x1 _ rfl))
               have hlo := hk1.size
               clear hb2 hr1)
            | (go_at_call 34
               refine (ask b (.slice A1 b.fs.length c1) r m _ fx1 hsb wnb wrb wrr wm hr2).mono ?_
               rw [HC.out, HL.out]
               rintro e x4 ⟨v4, f4, rfl, hr4, hn4, ⟨hf4, hd4⟩, hb4⟩
               have gg4 := Lib.hid ((hb4.block _ (heap_lt gg2.out)).trans gg2.out)
               obtain ⟨y0, y1, y2, z0, z1, z2, zz⟩ := three_at6 gg4.out
               have hap := hf4.mono (Nat.succ_le_of_lt (heap_lt gg2.out))
               obtain ⟨A4, c4, rfl⟩ := hr4.form
               have hk4 : Below w11.heap.size w11 x4 := hk2.trans (hb4.mono hk2.size)
               clear hb4 hr2 hf4 gg2)
            | (go_at_call 34
               refine (ask b (.slice A1 b.fs.length c1) r m _ fx1 hsb wnb wrb wrr wm hr2).mono ?_
               rw [HC.out, HL.out]
               rintro e x4 ⟨v4, f4, rfl, hr4, hn4, ⟨hf4, hd4⟩, hb4⟩
               obtain ⟨A4, c4, rfl⟩ := hr4.form
               have hk4 : Below w11.heap.size w11 x4 := hk2.trans (hb4.mono hk2.size)
               have hf4' := hf4.mono hk2.size
               clear hb4 hr2 hf4)
            | (go_at_call 34
               refine (ask b (.slice A1 b.fs.length c1) r m _ fx1 hsb wnb wrb wrr wm (hr2.alloc _)).mono ?_
               rw [HC.out, HL.out]
               rintro e x4 ⟨v4, f4, rfl, hr4, hn4, ⟨hf4, hd4⟩, hb4⟩
               have gg4 := Lib.hid (show x4.heap[x2.heap.size]? = _ from (hb4.block x2.heap.size (by simp)).trans (heap_new x2 _ rfl))
               obtain ⟨y0, y1, y2, z0, z1, z2, zz⟩ := three_at6 gg4.out
               have hap := hf4.mono (show x2.heap.size + 1 ≤ _ by simp)
               obtain ⟨A4, c4, rfl⟩ := hr4.form
               have hk4 : Below w11.heap.size w11 x4 := (below_more hk2 _).trans (hb4.mono (below_more hk2 _).size)
               have hlo := hk2.size
               clear hb4 hr2 hf4))
        all_goals (go_wp2_with fail; go_meet)
        all_goals (first | exact ⟨_, _, _, _, rfl, Lib.hid (gotp_new hr4 hn4 hf4' hd4 hk4)⟩ | exact ⟨_, _, _, _, rfl, Lib.hid (gotp_set gg4.out hlo hap hr4 hn4 hd4 hk4)⟩)
      case rest =>
        obtain ⟨g12, A12, c12, fx12, rfl, HG12⟩ := hcut
        have ⟨w12, hw12⟩ : ∃ x, x = wc := ⟨_, rfl⟩
        subst hw12
        clear a0_ a1_ az_ b0_ b1_ b2_ b3_ bz_
        have sz12 := HG12.out.bel.size
        replace ROb := Lib.hid (ROb.out.below' HG12.out.bel)
        replace RX2 := Lib.hid (RX2.out.below' HG12.out.bel)
        replace RX5 := Lib.hid (RX5.out.below' HG12.out.bel)
        replace Gb := Lib.hid ((HG12.out.bel.block _ (heap_lt Gb.out)).trans Gb.out)
        replace Gr := Lib.hid ((HG12.out.bel.block _ (heap_lt Gr.out)).trans Gr.out)
        replace GS := Lib.hid ((HG12.out.bel.block _ (heap_lt GS.out)).trans GS.out)
        replace GXb := Lib.hid ((HG12.out.bel.block _ (heap_lt GXb.out)).trans GXb.out)
        replace GG := Lib.hid ((HG12.out.bel.block _ (heap_lt GG.out)).trans GG.out)
        replace HW := Lib.hid (HW.out.trans (HG12.out.bel.mono HW.out.size))
        have lo12 := HG12.out.lo; have HAPRX12 := Lib.hid HG12.out.ap
        have GH := Lib.hid HG12.out.blk; have sgGH := heap_lt HG12.out.blk
        have RX12 := Lib.hid HG12.out.rd; have NX12 := Lib.hid HG12.out.nf; have HF12 := Lib.hid HG12.out.fr; have HD12 := Lib.hid HG12.out.nd; have HLT12 := Lib.hid HG12.out.rd.lt; clear HG12
        obtain ⟨o11_0, o11_1, o11_2, _, _, _, o11_z⟩ := three_at6 GS.out
        obtain ⟨o12_0, o12_1, o12_2, _, _, _, o12_z⟩ := three_at6 GH.out
        go_wp2_with fail
        clear o11_0 o11_1 o11_2 o11_z o12_0 o12_1 o12_2 o12_z
        refine (eqPlacesResult_c C L (.slice A12 L.fs.length c12) (.slice A2 L.fs.length c2) _ fx12 fx2 RX12.out RX2.out).mono ?_
        rintro e w13 ⟨rfl, hb13⟩
        have sz13 := hb13.size
        replace NX12 := Lib.hid (NX12.out.but (But.of_below hb13 []) RX12.out.lt (by simp))
        replace ROb := Lib.hid (ROb.out.below' hb13)
        replace RX2 := Lib.hid (RX2.out.below' hb13)
        replace RX5 := Lib.hid (RX5.out.below' hb13)
        replace RX12 := Lib.hid (RX12.out.below' hb13)
        replace Gb := Lib.hid ((hb13.block _ (heap_lt Gb.out)).trans Gb.out)
        replace Gr := Lib.hid ((hb13.block _ (heap_lt Gr.out)).trans Gr.out)
        replace GS := Lib.hid ((hb13.block _ (heap_lt GS.out)).trans GS.out)
        replace GXb := Lib.hid ((hb13.block _ (heap_lt GXb.out)).trans GXb.out)
        replace GG := Lib.hid ((hb13.block _ (heap_lt GG.out)).trans GG.out)
        replace GH := Lib.hid ((hb13.block _ (heap_lt GH.out)).trans GH.out)
        replace HW := Lib.hid (HW.out.trans (hb13.mono HW.out.size))
        clear hb13
        obtain ⟨o13_0, o13_1, o13_2, _, _, _, o13_z⟩ := three_at6 GG.out
        go_wp2_with fail
        clear o13_0 o13_1 o13_2 o13_z
        refine (heldPlacesResult_c C (.slice A5 L.fs.length c5) L 1 _ fx5 (by omega) hLl (by omega) RX5.out).mono ?_
        rintro e w14 ⟨rfl, hb14⟩
        have sz14 := hb14.size
        replace NX12 := Lib.hid (NX12.out.but (But.of_below hb14 []) RX12.out.lt (by simp))
        replace ROb := Lib.hid (ROb.out.below' hb14)
        replace RX2 := Lib.hid (RX2.out.below' hb14)
        replace RX5 := Lib.hid (RX5.out.below' hb14)
        replace RX12 := Lib.hid (RX12.out.below' hb14)
        replace Gb := Lib.hid ((hb14.block _ (heap_lt Gb.out)).trans Gb.out)
        replace Gr := Lib.hid ((hb14.block _ (heap_lt Gr.out)).trans Gr.out)
        replace GS := Lib.hid ((hb14.block _ (heap_lt GS.out)).trans GS.out)
        replace GXb := Lib.hid ((hb14.block _ (heap_lt GXb.out)).trans GXb.out)
        replace GG := Lib.hid ((hb14.block _ (heap_lt GG.out)).trans GG.out)
        replace GH := Lib.hid ((hb14.block _ (heap_lt GH.out)).trans GH.out)
        replace HW := Lib.hid (HW.out.trans (hb14.mono HW.out.size))
        clear hb14
        go_wp2
        go_ret
        exact ⟨rfl, HW.out⟩
end Go.Proofs.Ytoabohllphoioaa
