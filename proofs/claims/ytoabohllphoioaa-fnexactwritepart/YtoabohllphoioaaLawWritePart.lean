/- The law on WritePart answers true: the walk, by a maker (reslaw.py). -/
import Derived.Test.YtoabohllphoioaaImpl7e
import Derived.Test.YtoabohllphoioaaSpec7e
import Derived.Test.YtoabohllphoioaaGotS
import Derived.Test.YtoabohllphoioaaArgs4
import Derived.Deep.DeepCutAuto
namespace Go.Proofs.Ytoabohllphoioaa
open Go.RowKit

set_option maxRecDepth 100000 in
set_option maxHeartbeats 8000000 in
theorem lawWritePart_c (ask : AskWritePart) (ab : Option Addr) (capb : Nat) (b : List Pt) (wrb : WfT b) (r : R) (wrr : WfR r) (m : Int) (wm : (Lit.int .i64 m).wf = true) (w : World) (fpb : List Nat) (hrb : RdP w (.slice ab b.length capb) b fpb) :
    Calls Try.prog 12 #[(.slice ab b.length capb), rv r, .int .i64 m] w fun e w' => e = .returned (.bool true) ∧ Below w.heap.size w w' := by
  have HLob := Lib.hid hrb.lt
  have ROb := Lib.hid hrb; clear hrb
  have HB0 : Hid (Below w.heap.size w (w.alloc (.cells #[.int .i64 r.1, .int .i64 r.2.1, .int .i64 r.2.2.1, .int .i64 r.2.2.2] 51))) := below_new _
  have Gr : Hid ((w.alloc (.cells #[.int .i64 r.1, .int .i64 r.2.1, .int .i64 r.2.2.1, .int .i64 r.2.2.2] 51)).heap[w.heap.size]? = some (.cells #[.int .i64 r.1, .int .i64 r.2.1, .int .i64 r.2.2.1, .int .i64 r.2.2.2] 51 (0, 0))) := heap_new w _ (by simp)
  have ⟨W0, hW0⟩ : ∃ x, x = (w.alloc (.cells #[.int .i64 r.1, .int .i64 r.2.1, .int .i64 r.2.2.1, .int .i64 r.2.2.2] 51)) := ⟨_, rfl⟩
  rw [← hW0] at HB0 Gr
  have HW0 := Lib.hid hW0; clear hW0
  replace ROb := Lib.hid (ROb.out.below' HB0.out)
  have HW := HB0; have sz0 := HB0.out.size
  have sgGr := heap_lt Gr.out
  have HFob := Lib.hid (show From 0 fpb from fun _ _ => Nat.zero_le _)
  by_cases hbigb : (1048576 : Int) < psz b
  · have HBIGb := Lib.hid hbigb; clear hbigb
    go_enter Try.func12, Try.ntmps12
    go_wp2_with fail
    rw [← HW0.out]
    refine (szPartS_c ab capb b ((1048576 : Int)) _ fpb ROb.out (by omega) (by omega)).mono ?_
    rw [if_pos (show (1048576 : Int) < psz b from HBIGb.out)]
    rintro e w1 ⟨rfl, hb1⟩
    have sz1 := hb1.size
    replace ROb := Lib.hid (ROb.out.below' hb1)
    replace Gr := Lib.hid ((hb1.block _ (heap_lt Gr.out)).trans Gr.out)
    replace HW := Lib.hid (HW.out.trans (hb1.mono HW.out.size))
    clear hb1
    go_wp2
    go_ret
    exact ⟨rfl, HW.out⟩
  have nnb : 0 ≤ psz b := psz_nn b
  have hsmlb : psz b ≤ (1048576 : Int) := by omega
  have hlb : decide ((1048576 : Int) - psz b < 0) = false := by simp; omega
  have hsb : psz b ≤ 1048576 := by omega
  have HSMLb := Lib.hid hsmlb; clear hsmlb hbigb
  have hLl := wqL_sz b r m
  generalize hC : wqC b r m = C
  generalize hL : wqL b r m = L at hLl
  have HC := Lib.hid hC; have HL := Lib.hid hL; clear hC hL
  go_enter Try.func12, Try.ntmps12
  go_wp2_with fail
  rw [← HW0.out]
  refine (szPartS_c ab capb b ((1048576 : Int)) _ fpb ROb.out (by omega) (by omega)).mono ?_
  rw [if_neg (show ¬ (1048576 : Int) < psz b by have := HSMLb.out; omega)]
  rintro e w1 ⟨rfl, hb1⟩
  have sz1 := hb1.size
  replace ROb := Lib.hid (ROb.out.below' hb1)
  replace Gr := Lib.hid ((hb1.block _ (heap_lt Gr.out)).trans Gr.out)
  replace HW := Lib.hid (HW.out.trans (hb1.mono HW.out.size))
  clear hb1
  go_upto_region 5 with (fail)
  obtain ⟨b0_, b1_, b2_, b3_, _, _, _, _, bz_⟩ := four_at Gr.out
  go_cut [8] (fun p wc => ∃ g A c fv, p = .pointer (some ⟨g, 0, none⟩) ∧ Hid (GotS w1 C L g A c fv wc))
  case first =>
    go_region_held3 (fun w' => w'.cell? ⟨w.heap.size, 0, none⟩ = some (.int .i64 r.1) ∧ w'.cell? ⟨w.heap.size, 1, none⟩ = some (.int .i64 r.2.1) ∧ w'.cell? ⟨w.heap.size, 2, none⟩ = some (.int .i64 r.2.2.1) ∧ w'.cell? ⟨w.heap.size, 3, none⟩ = some (.int .i64 r.2.2.2))
      (first | go_keep | (refine ⟨(Below.cell (w := w1) (p := ⟨w.heap.size, _, none⟩) ?_ bz_).trans b0_, (Below.cell (w := w1) (p := ⟨w.heap.size, _, none⟩) ?_ bz_).trans b1_, (Below.cell (w := w1) (p := ⟨w.heap.size, _, none⟩) ?_ bz_).trans b2_, (Below.cell (w := w1) (p := ⟨w.heap.size, _, none⟩) ?_ bz_).trans b3_⟩ <;> (repeat (first | with_reducible exact hk4 | with_reducible exact hk2 | with_reducible exact hk1 | with_reducible refine below_more ?_ _ | with_reducible refine Below.setCell ?_ hlo _))))
      (first
        | (go_at_call 43
           refine (toPartS_c ab capb b _ fpb hsb (ROb.out.below' (Below.refl _ _).drew)).mono ?_
           rintro e x1 ⟨A1, c1, fx1, rfl, hr1, hn1, hf1, hd1, hb1⟩
           skip
           have hk1 : Below w1.heap.size w1 x1 := (Below.refl _ _).drew.trans hb1
           clear hn1 hf1 hd1 hb1)
        | (go_at_call 43
           refine (toPartS_c ab capb b _ fpb hsb (ROb.out.below' ((Below.refl _ _).drew.alloc (by simp) _))).mono ?_
           rintro e x1 ⟨A1, c1, fx1, rfl, hr1, hn1, hf1, hd1, hb1⟩
           skip
           have hk1 : Below w1.heap.size w1 x1 := ((Below.refl _ _).drew.alloc (by simp) _).trans (hb1.mono (by simp))
           have gg := Lib.hid (show x1.heap[w1.heap.size]? = _ from (hb1.block w1.heap.size (by simp)).trans (heap_new w1.drew _ rfl))
           clear hn1 hf1 hd1 hb1)
        | (go_at_call 33
           refine (toRow_c r _).mono ?_
           rintro e x2 ⟨rfl, hb2⟩
           have gg2 := Lib.hid ((hb2.block _ (heap_lt gg.out)).trans gg.out)
           have hk2 : Below w1.heap.size w1 x2 := hk1.trans (hb2.mono hk1.size)
           have hr2 := hr1.below' hb2
           have hlo := Nat.le_refl w1.heap.size
           clear hb2 hr1 gg)
        | (go_at_call 33
           refine (toRow_c r _).mono ?_
           rintro e x2 ⟨rfl, hb2⟩
           have hk2 : Below w1.heap.size w1 x2 := hk1.trans (hb2.mono hk1.size)
           have hr2 := hr1.below' hb2
           clear hb2 hr1)
        | (go_at_call 33
           refine (toRow_c r _).mono ?_
           rintro e x2 ⟨rfl, hb2⟩
           have hk2 : Below w1.heap.size w1 x2 := (below_more hk1 _).trans (hb2.mono (below_more hk1 _).size)
           have hr2 := (hr1.alloc _).below' hb2
           have gg2 := Lib.hid (show x2.heap[x1.heap.size]? = _ from (hb2.block x1.heap.size (by simp)).trans (heap_new x1 _ rfl))
           have hlo := hk1.size
           clear hb2 hr1)
        | (go_at_call 58
           refine (specWritePart_r _ _ b r m _ fx1 hsb hr2).mono ?_
           rw [HC.out, HL.out]
           rintro e x4 ⟨v4, f4, rfl, hr4, hn4, ⟨hf4, hd4⟩, hb4⟩
           have gg4 := Lib.hid ((hb4.block _ (heap_lt gg2.out)).trans gg2.out)
           obtain ⟨y0, y1, z0, z1, zz⟩ := two_at gg4.out
           have hap := hf4.mono (Nat.succ_le_of_lt (heap_lt gg2.out))
           obtain ⟨A4, c4, rfl⟩ := hr4.form'
           have hk4 : Below w1.heap.size w1 x4 := hk2.trans (hb4.mono hk2.size)
           clear hb4 hr2 hf4 gg2)
        | (go_at_call 58
           refine (specWritePart_r _ _ b r m _ fx1 hsb hr2).mono ?_
           rw [HC.out, HL.out]
           rintro e x4 ⟨v4, f4, rfl, hr4, hn4, ⟨hf4, hd4⟩, hb4⟩
           obtain ⟨A4, c4, rfl⟩ := hr4.form'
           have hk4 : Below w1.heap.size w1 x4 := hk2.trans (hb4.mono hk2.size)
           have hf4' := hf4.mono hk2.size
           clear hb4 hr2 hf4)
        | (go_at_call 58
           refine (specWritePart_r _ _ b r m _ fx1 hsb (hr2.alloc _)).mono ?_
           rw [HC.out, HL.out]
           rintro e x4 ⟨v4, f4, rfl, hr4, hn4, ⟨hf4, hd4⟩, hb4⟩
           have gg4 := Lib.hid (show x4.heap[x2.heap.size]? = _ from (hb4.block x2.heap.size (by simp)).trans (heap_new x2 _ rfl))
           obtain ⟨y0, y1, z0, z1, zz⟩ := two_at gg4.out
           have hap := hf4.mono (show x2.heap.size + 1 ≤ _ by simp)
           obtain ⟨A4, c4, rfl⟩ := hr4.form'
           have hk4 : Below w1.heap.size w1 x4 := (below_more hk2 _).trans (hb4.mono (below_more hk2 _).size)
           have hlo := hk2.size
           clear hb4 hr2 hf4))
    all_goals (go_wp2_with fail; go_meet)
    all_goals (first | exact ⟨_, _, _, _, rfl, Lib.hid (gots_new hr4 hn4 hf4' hd4 hk4)⟩ | exact ⟨_, _, _, _, rfl, Lib.hid (gots_set gg4.out hlo hap hr4 hn4 hd4 hk4)⟩)
  case rest =>
    obtain ⟨g2, A2, c2, fx2, rfl, HG2⟩ := hcut
    have ⟨w2, hw2⟩ : ∃ x, x = wc := ⟨_, rfl⟩
    subst hw2
    clear b0_ b1_ b2_ b3_ bz_
    have sz2 := HG2.out.bel.size
    replace ROb := Lib.hid (ROb.out.below' HG2.out.bel)
    replace Gr := Lib.hid ((HG2.out.bel.block _ (heap_lt Gr.out)).trans Gr.out)
    replace HW := Lib.hid (HW.out.trans (HG2.out.bel.mono HW.out.size))
    have lo2 := HG2.out.lo; have HAPRX2 := Lib.hid HG2.out.ap
    have GS := Lib.hid HG2.out.blk; have sgGS := heap_lt HG2.out.blk
    have RX2 := Lib.hid HG2.out.rd; have NX2 := Lib.hid HG2.out.nf; have HF2 := Lib.hid HG2.out.fr; have HD2 := Lib.hid HG2.out.nd; have HLT2 := Lib.hid HG2.out.rd.lt; clear HG2
    clear NX2
    go_wp2_with fail
    refine (toPartS_c ab capb b _ fpb hsb ROb.out).mono ?_
    rintro e w3 ⟨A3, c3, fx3, rfl, hr3, hn3, hf3, hd3, hb3⟩
    have HD3 := Lib.hid hd3; clear hd3
    have ht3 := hr3.lt
    have sz3 := hb3.size
    replace ROb := Lib.hid (ROb.out.below' hb3)
    replace RX2 := Lib.hid (RX2.out.below' hb3)
    replace Gr := Lib.hid ((hb3.block _ (heap_lt Gr.out)).trans Gr.out)
    replace GS := Lib.hid ((hb3.block _ (heap_lt GS.out)).trans GS.out)
    replace HW := Lib.hid (HW.out.trans (hb3.mono HW.out.size))
    have RX3 := Lib.hid hr3; have NX3 := Lib.hid hn3; have HF3 := Lib.hid hf3; have HLT3 := Lib.hid ht3; clear hr3 hn3 hf3 ht3 hb3
    obtain ⟨o1_0, o1_1, o1_2, o1_3, _, _, _, _, o1_z⟩ := four_at Gr.out
    go_wp2_with fail
    clear o1_0 o1_1 o1_2 o1_3 o1_z
    refine (toRow_c r _).mono ?_
    rintro e w4 ⟨rfl, hb4⟩
    have sz4 := hb4.size
    replace NX3 := Lib.hid (NX3.out.but (But.of_below hb4 []) RX3.out.lt (by simp))
    replace ROb := Lib.hid (ROb.out.below' hb4)
    replace RX2 := Lib.hid (RX2.out.below' hb4)
    replace RX3 := Lib.hid (RX3.out.below' hb4)
    replace Gr := Lib.hid ((hb4.block _ (heap_lt Gr.out)).trans Gr.out)
    replace GS := Lib.hid ((hb4.block _ (heap_lt GS.out)).trans GS.out)
    replace HW := Lib.hid (HW.out.trans (hb4.mono HW.out.size))
    clear hb4
    go_wp2_with fail
    refine (ask _ _ b r m _ fx3 hsb wrb wrr wm RX3.out).mono ?_
    rw [HC.out, HL.out]
    rintro e w5 ⟨v5, fx5, rfl, hr5, hn5, ⟨hf5, hd5⟩, hb5⟩
    have HD5 := Lib.hid hd5; clear hd5
    obtain ⟨A5, c5, rfl⟩ := hr5.form'
    have ht5 := hr5.lt
    have sz5 := hb5.size
    replace NX3 := Lib.hid (NX3.out.but (But.of_below hb5 []) RX3.out.lt (by simp))
    replace ROb := Lib.hid (ROb.out.below' hb5)
    replace RX2 := Lib.hid (RX2.out.below' hb5)
    replace RX3 := Lib.hid (RX3.out.below' hb5)
    replace Gr := Lib.hid ((hb5.block _ (heap_lt Gr.out)).trans Gr.out)
    replace GS := Lib.hid ((hb5.block _ (heap_lt GS.out)).trans GS.out)
    replace HW := Lib.hid (HW.out.trans (hb5.mono HW.out.size))
    have RX5 := Lib.hid hr5; have NX5 := Lib.hid hn5; have HF5 := Lib.hid hf5; have HLT5 := Lib.hid ht5; clear hr5 hn5 hf5 ht5 hb5
    obtain ⟨o2_0, o2_1, _, _, o2_z⟩ := two_at GS.out
    have gN := heap_new w5 (.cells #[.int .i64 C, (.slice A5 L.length c5)] 72) rfl
    have bN := below_new (w := w5) (.cells #[.int .i64 C, (.slice A5 L.length c5)] 72)
    have GN := Lib.hid gN; have BN := Lib.hid bN; clear gN bN
    go_wp2_with fail
    clear o2_0 o2_1 o2_z
    generalize w5.alloc (.cells #[.int .i64 C, (.slice A5 L.length c5)] 72) = w6 at GN BN ⊢
    have sz6 := BN.out.size
    replace NX3 := Lib.hid (NX3.out.but (But.of_below BN.out []) RX3.out.lt (by simp))
    replace NX5 := Lib.hid (NX5.out.but (But.of_below BN.out []) RX5.out.lt (by simp))
    replace ROb := Lib.hid (ROb.out.below' BN.out)
    replace RX2 := Lib.hid (RX2.out.below' BN.out)
    replace RX3 := Lib.hid (RX3.out.below' BN.out)
    replace RX5 := Lib.hid (RX5.out.below' BN.out)
    replace Gr := Lib.hid ((BN.out.block _ (heap_lt Gr.out)).trans Gr.out)
    replace GS := Lib.hid ((BN.out.block _ (heap_lt GS.out)).trans GS.out)
    replace HW := Lib.hid (HW.out.trans (BN.out.mono HW.out.size))
    have sgGG := heap_lt GN.out
    have GG := Lib.hid GN.out; clear GN BN
    refine (eqPartsResult_c C L (.slice A5 L.length c5) (.slice A2 L.length c2) _ fx5 fx2 RX5.out RX2.out).mono ?_
    rintro e w7 ⟨rfl, hb7⟩
    have sz7 := hb7.size
    replace NX3 := Lib.hid (NX3.out.but (But.of_below hb7 []) RX3.out.lt (by simp))
    replace NX5 := Lib.hid (NX5.out.but (But.of_below hb7 []) RX5.out.lt (by simp))
    replace ROb := Lib.hid (ROb.out.below' hb7)
    replace RX2 := Lib.hid (RX2.out.below' hb7)
    replace RX3 := Lib.hid (RX3.out.below' hb7)
    replace RX5 := Lib.hid (RX5.out.below' hb7)
    replace Gr := Lib.hid ((hb7.block _ (heap_lt Gr.out)).trans Gr.out)
    replace GS := Lib.hid ((hb7.block _ (heap_lt GS.out)).trans GS.out)
    replace GG := Lib.hid ((hb7.block _ (heap_lt GG.out)).trans GG.out)
    replace HW := Lib.hid (HW.out.trans (hb7.mono HW.out.size))
    clear hb7
    go_wp2_with fail
    refine (toPartS_c ab capb b _ fpb hsb ROb.out).mono ?_
    rintro e w8 ⟨A8, c8, fx8, rfl, hr8, hn8, hf8, hd8, hb8⟩
    have HD8 := Lib.hid hd8; clear hd8
    have ht8 := hr8.lt
    have sz8 := hb8.size
    replace NX3 := Lib.hid (NX3.out.but (But.of_below hb8 []) RX3.out.lt (by simp))
    replace NX5 := Lib.hid (NX5.out.but (But.of_below hb8 []) RX5.out.lt (by simp))
    replace ROb := Lib.hid (ROb.out.below' hb8)
    replace RX2 := Lib.hid (RX2.out.below' hb8)
    replace RX3 := Lib.hid (RX3.out.below' hb8)
    replace RX5 := Lib.hid (RX5.out.below' hb8)
    replace Gr := Lib.hid ((hb8.block _ (heap_lt Gr.out)).trans Gr.out)
    replace GS := Lib.hid ((hb8.block _ (heap_lt GS.out)).trans GS.out)
    replace GG := Lib.hid ((hb8.block _ (heap_lt GG.out)).trans GG.out)
    replace HW := Lib.hid (HW.out.trans (hb8.mono HW.out.size))
    have RX8 := Lib.hid hr8; have NX8 := Lib.hid hn8; have HF8 := Lib.hid hf8; have HLT8 := Lib.hid ht8; clear hr8 hn8 hf8 ht8 hb8
    go_wp2_with fail
    refine (eqPartS_c _ _ _ _ b _ fx3 fx8 RX3.out RX8.out).mono ?_
    rintro e w9 ⟨rfl, hb9⟩
    have sz9 := hb9.size
    replace NX3 := Lib.hid (NX3.out.but (But.of_below hb9 []) RX3.out.lt (by simp))
    replace NX5 := Lib.hid (NX5.out.but (But.of_below hb9 []) RX5.out.lt (by simp))
    replace NX8 := Lib.hid (NX8.out.but (But.of_below hb9 []) RX8.out.lt (by simp))
    replace ROb := Lib.hid (ROb.out.below' hb9)
    replace RX2 := Lib.hid (RX2.out.below' hb9)
    replace RX3 := Lib.hid (RX3.out.below' hb9)
    replace RX5 := Lib.hid (RX5.out.below' hb9)
    replace RX8 := Lib.hid (RX8.out.below' hb9)
    replace Gr := Lib.hid ((hb9.block _ (heap_lt Gr.out)).trans Gr.out)
    replace GS := Lib.hid ((hb9.block _ (heap_lt GS.out)).trans GS.out)
    replace GG := Lib.hid ((hb9.block _ (heap_lt GG.out)).trans GG.out)
    replace HW := Lib.hid (HW.out.trans (hb9.mono HW.out.size))
    clear hb9
    clear NX8
    clear RX8
    go_wp2_with fail
    refine (markPartS_c A3 c3 b (1) _ fx3 (by omega) hsb (by omega) RX3.out NX3.out HD3.out).mono ?_
    rintro e w10 ⟨rfl, hb10, _, _, _⟩
    have sz10 := hb10.size
    clear NX3
    replace NX5 := Lib.hid (NX5.out.but hb10 RX5.out.lt (fun b hb hx => by have h1 := HLT5.out b hb; have h2 := HF3.out b hx; have h3 := HLT3.out b hx; have h4 := HF5.out b hb; omega))
    replace ROb := Lib.hid (ROb.out.but hb10 (fun b hb hx => by have h1 := HLob.out b hb; have h2 := HF3.out b hx; have h3 := HLT3.out b hx; have h4 := HFob.out b hb; omega))
    replace RX2 := Lib.hid (RX2.out.but hb10 (fun b hb hx => by have h1 := HLT2.out b hb; have h2 := HF3.out b hx; have h3 := HLT3.out b hx; have h4 := HF2.out b hb; omega))
    replace RX5 := Lib.hid (RX5.out.but hb10 (fun b hb hx => by have h1 := HLT5.out b hb; have h2 := HF3.out b hx; have h3 := HLT3.out b hx; have h4 := HF5.out b hb; omega))
    replace Gr := Lib.hid (hb10.heap Gr.out (fun hx => by have h2 := HF3.out _ hx; have h3 := HLT3.out _ hx; omega))
    replace GS := Lib.hid (hb10.heap GS.out (fun hx => by have h2 := HF3.out _ hx; have h3 := HLT3.out _ hx; omega))
    replace GG := Lib.hid (hb10.heap GG.out (fun hx => by have h2 := HF3.out _ hx; have h3 := HLT3.out _ hx; omega))
    replace HW := Lib.hid (HW.out.trans (hb10.below HW.out.size (fun b hx => by have h2 := HF3.out b hx; omega)))
    clear RX3
    clear hb10
    have hq1 : decide ((1 + (cntPs b : Nat) : Int) < 0) = false := by simp; omega
    have hq2 : ¬ ((1 + (cntPs b : Nat) : Int) < 0) := by omega
    obtain ⟨o3_0, o3_1, _, _, o3_z⟩ := two_at GS.out
    obtain ⟨o4_0, o4_1, _, _, o4_z⟩ := two_at GG.out
    go_wp2_with fail
    clear o3_0 o3_1 o3_z o4_0 o4_1 o4_z
    refine (eqPartsResult_c C L (.slice A5 L.length c5) (.slice A2 L.length c2) _ fx5 fx2 RX5.out RX2.out).mono ?_
    rintro e w11 ⟨rfl, hb11⟩
    have sz11 := hb11.size
    replace NX5 := Lib.hid (NX5.out.but (But.of_below hb11 []) RX5.out.lt (by simp))
    replace ROb := Lib.hid (ROb.out.below' hb11)
    replace RX2 := Lib.hid (RX2.out.below' hb11)
    replace RX5 := Lib.hid (RX5.out.below' hb11)
    replace Gr := Lib.hid ((hb11.block _ (heap_lt Gr.out)).trans Gr.out)
    replace GS := Lib.hid ((hb11.block _ (heap_lt GS.out)).trans GS.out)
    replace GG := Lib.hid ((hb11.block _ (heap_lt GG.out)).trans GG.out)
    replace HW := Lib.hid (HW.out.trans (hb11.mono HW.out.size))
    clear hb11
    obtain ⟨o5_0, o5_1, _, _, o5_z⟩ := two_at GG.out
    go_wp2_with fail
    clear o5_0 o5_1 o5_z
    refine (markPartsResult_c C (.slice A5 L.length c5) L 1 _ fx5 (by omega) hLl (by omega) RX5.out NX5.out HD5.out).mono ?_
    rintro e w12 ⟨rfl, hb12, hm12⟩
    have sz12 := hb12.size
    clear NX5
    replace ROb := Lib.hid (ROb.out.but hb12 (fun b hb hx => by have h1 := HLob.out b hb; have h2 := HF5.out b hx; have h3 := HLT5.out b hx; have h4 := HFob.out b hb; omega))
    replace RX2 := Lib.hid (RX2.out.but hb12 (fun b hb hx => by have h1 := HLT2.out b hb; have h2 := HF5.out b hx; have h3 := HLT5.out b hx; have h4 := HF2.out b hb; omega))
    replace Gr := Lib.hid (hb12.heap Gr.out (fun hx => by have h2 := HF5.out _ hx; have h3 := HLT5.out _ hx; omega))
    replace GS := Lib.hid (hb12.heap GS.out (fun hx => by have h2 := HF5.out _ hx; have h3 := HLT5.out _ hx; omega))
    replace GG := Lib.hid (hb12.heap GG.out (fun hx => by have h2 := HF5.out _ hx; have h3 := HLT5.out _ hx; omega))
    replace HW := Lib.hid (HW.out.trans (hb12.below HW.out.size (fun b hx => by have h2 := HF5.out b hx; omega)))
    replace RX5 := Lib.hid hm12; clear hb12 hm12
    obtain ⟨o6_0, o6_1, _, _, o6_z⟩ := two_at GG.out
    go_wp2_with fail
    clear o6_0 o6_1 o6_z
    refine (heldPartsResult_c C (.slice A5 L.length c5) L 1 _ fx5 (by omega) hLl (by omega) RX5.out).mono ?_
    rintro e w13 ⟨rfl, hb13⟩
    have sz13 := hb13.size
    replace ROb := Lib.hid (ROb.out.below' hb13)
    replace RX2 := Lib.hid (RX2.out.below' hb13)
    replace RX5 := Lib.hid (RX5.out.below' hb13)
    replace Gr := Lib.hid ((hb13.block _ (heap_lt Gr.out)).trans Gr.out)
    replace GS := Lib.hid ((hb13.block _ (heap_lt GS.out)).trans GS.out)
    replace GG := Lib.hid ((hb13.block _ (heap_lt GG.out)).trans GG.out)
    replace HW := Lib.hid (HW.out.trans (hb13.mono HW.out.size))
    clear hb13
    have hq3 : decide ((1 : Int) + (cntPs L : Nat) < 0) = false := by simp; omega
    go_upto_region 24 with (fail)
    obtain ⟨b0_, b1_, b2_, b3_, _, _, _, _, bz_⟩ := four_at Gr.out
    go_cut [14] (fun p wc => ∃ g A c fv, p = .pointer (some ⟨g, 0, none⟩) ∧ Hid (GotS w13 C L g A c fv wc))
    case first =>
      go_region_held3 (fun w' => w'.cell? ⟨w.heap.size, 0, none⟩ = some (.int .i64 r.1) ∧ w'.cell? ⟨w.heap.size, 1, none⟩ = some (.int .i64 r.2.1) ∧ w'.cell? ⟨w.heap.size, 2, none⟩ = some (.int .i64 r.2.2.1) ∧ w'.cell? ⟨w.heap.size, 3, none⟩ = some (.int .i64 r.2.2.2))
        (first | go_keep | (refine ⟨(Below.cell (w := w13) (p := ⟨w.heap.size, _, none⟩) ?_ bz_).trans b0_, (Below.cell (w := w13) (p := ⟨w.heap.size, _, none⟩) ?_ bz_).trans b1_, (Below.cell (w := w13) (p := ⟨w.heap.size, _, none⟩) ?_ bz_).trans b2_, (Below.cell (w := w13) (p := ⟨w.heap.size, _, none⟩) ?_ bz_).trans b3_⟩ <;> (repeat (first | with_reducible exact hk4 | with_reducible exact hk2 | with_reducible exact hk1 | with_reducible refine below_more ?_ _ | with_reducible refine Below.setCell ?_ hlo _))))
        (first
          | (go_at_call 43
             refine (toPartS_c ab capb b _ fpb hsb (ROb.out.below' (Below.refl _ _).drew)).mono ?_
             rintro e x1 ⟨A1, c1, fx1, rfl, hr1, hn1, hf1, hd1, hb1⟩
             skip
             have hk1 : Below w13.heap.size w13 x1 := (Below.refl _ _).drew.trans hb1
             clear hn1 hf1 hd1 hb1)
          | (go_at_call 43
             refine (toPartS_c ab capb b _ fpb hsb (ROb.out.below' ((Below.refl _ _).drew.alloc (by simp) _))).mono ?_
             rintro e x1 ⟨A1, c1, fx1, rfl, hr1, hn1, hf1, hd1, hb1⟩
             skip
             have hk1 : Below w13.heap.size w13 x1 := ((Below.refl _ _).drew.alloc (by simp) _).trans (hb1.mono (by simp))
             have gg := Lib.hid (show x1.heap[w13.heap.size]? = _ from (hb1.block w13.heap.size (by simp)).trans (heap_new w13.drew _ rfl))
             clear hn1 hf1 hd1 hb1)
          | (go_at_call 33
             refine (toRow_c r _).mono ?_
             rintro e x2 ⟨rfl, hb2⟩
             have gg2 := Lib.hid ((hb2.block _ (heap_lt gg.out)).trans gg.out)
             have hk2 : Below w13.heap.size w13 x2 := hk1.trans (hb2.mono hk1.size)
             have hr2 := hr1.below' hb2
             have hlo := Nat.le_refl w13.heap.size
             clear hb2 hr1 gg)
          | (go_at_call 33
             refine (toRow_c r _).mono ?_
             rintro e x2 ⟨rfl, hb2⟩
             have hk2 : Below w13.heap.size w13 x2 := hk1.trans (hb2.mono hk1.size)
             have hr2 := hr1.below' hb2
             clear hb2 hr1)
          | (go_at_call 33
             refine (toRow_c r _).mono ?_
             rintro e x2 ⟨rfl, hb2⟩
             have hk2 : Below w13.heap.size w13 x2 := (below_more hk1 _).trans (hb2.mono (below_more hk1 _).size)
             have hr2 := (hr1.alloc _).below' hb2
             have gg2 := Lib.hid (show x2.heap[x1.heap.size]? = _ from (hb2.block x1.heap.size (by simp)).trans (heap_new x1 _ rfl))
             have hlo := hk1.size
             clear hb2 hr1)
          | (go_at_call 59
             refine (ask _ _ b r m _ fx1 hsb wrb wrr wm hr2).mono ?_
             rw [HC.out, HL.out]
             rintro e x4 ⟨v4, f4, rfl, hr4, hn4, ⟨hf4, hd4⟩, hb4⟩
             have gg4 := Lib.hid ((hb4.block _ (heap_lt gg2.out)).trans gg2.out)
             obtain ⟨y0, y1, z0, z1, zz⟩ := two_at gg4.out
             have hap := hf4.mono (Nat.succ_le_of_lt (heap_lt gg2.out))
             obtain ⟨A4, c4, rfl⟩ := hr4.form'
             have hk4 : Below w13.heap.size w13 x4 := hk2.trans (hb4.mono hk2.size)
             clear hb4 hr2 hf4 gg2)
          | (go_at_call 59
             refine (ask _ _ b r m _ fx1 hsb wrb wrr wm hr2).mono ?_
             rw [HC.out, HL.out]
             rintro e x4 ⟨v4, f4, rfl, hr4, hn4, ⟨hf4, hd4⟩, hb4⟩
             obtain ⟨A4, c4, rfl⟩ := hr4.form'
             have hk4 : Below w13.heap.size w13 x4 := hk2.trans (hb4.mono hk2.size)
             have hf4' := hf4.mono hk2.size
             clear hb4 hr2 hf4)
          | (go_at_call 59
             refine (ask _ _ b r m _ fx1 hsb wrb wrr wm (hr2.alloc _)).mono ?_
             rw [HC.out, HL.out]
             rintro e x4 ⟨v4, f4, rfl, hr4, hn4, ⟨hf4, hd4⟩, hb4⟩
             have gg4 := Lib.hid (show x4.heap[x2.heap.size]? = _ from (hb4.block x2.heap.size (by simp)).trans (heap_new x2 _ rfl))
             obtain ⟨y0, y1, z0, z1, zz⟩ := two_at gg4.out
             have hap := hf4.mono (show x2.heap.size + 1 ≤ _ by simp)
             obtain ⟨A4, c4, rfl⟩ := hr4.form'
             have hk4 : Below w13.heap.size w13 x4 := (below_more hk2 _).trans (hb4.mono (below_more hk2 _).size)
             have hlo := hk2.size
             clear hb4 hr2 hf4))
      all_goals (go_wp2_with fail; go_meet)
      all_goals (first | exact ⟨_, _, _, _, rfl, Lib.hid (gots_new hr4 hn4 hf4' hd4 hk4)⟩ | exact ⟨_, _, _, _, rfl, Lib.hid (gots_set gg4.out hlo hap hr4 hn4 hd4 hk4)⟩)
    case rest =>
      obtain ⟨g14, A14, c14, fx14, rfl, HG14⟩ := hcut
      have ⟨w14, hw14⟩ : ∃ x, x = wc := ⟨_, rfl⟩
      subst hw14
      clear b0_ b1_ b2_ b3_ bz_
      have sz14 := HG14.out.bel.size
      replace ROb := Lib.hid (ROb.out.below' HG14.out.bel)
      replace RX2 := Lib.hid (RX2.out.below' HG14.out.bel)
      replace RX5 := Lib.hid (RX5.out.below' HG14.out.bel)
      replace Gr := Lib.hid ((HG14.out.bel.block _ (heap_lt Gr.out)).trans Gr.out)
      replace GS := Lib.hid ((HG14.out.bel.block _ (heap_lt GS.out)).trans GS.out)
      replace GG := Lib.hid ((HG14.out.bel.block _ (heap_lt GG.out)).trans GG.out)
      replace HW := Lib.hid (HW.out.trans (HG14.out.bel.mono HW.out.size))
      have lo14 := HG14.out.lo; have HAPRX14 := Lib.hid HG14.out.ap
      have GH := Lib.hid HG14.out.blk; have sgGH := heap_lt HG14.out.blk
      have RX14 := Lib.hid HG14.out.rd; have NX14 := Lib.hid HG14.out.nf; have HF14 := Lib.hid HG14.out.fr; have HD14 := Lib.hid HG14.out.nd; have HLT14 := Lib.hid HG14.out.rd.lt; clear HG14
      obtain ⟨o7_0, o7_1, _, _, o7_z⟩ := two_at GS.out
      obtain ⟨o8_0, o8_1, _, _, o8_z⟩ := two_at GH.out
      go_wp2_with fail
      clear o7_0 o7_1 o7_z o8_0 o8_1 o8_z
      refine (eqPartsResult_c C L (.slice A14 L.length c14) (.slice A2 L.length c2) _ fx14 fx2 RX14.out RX2.out).mono ?_
      rintro e w15 ⟨rfl, hb15⟩
      have sz15 := hb15.size
      replace NX14 := Lib.hid (NX14.out.but (But.of_below hb15 []) RX14.out.lt (by simp))
      replace ROb := Lib.hid (ROb.out.below' hb15)
      replace RX2 := Lib.hid (RX2.out.below' hb15)
      replace RX5 := Lib.hid (RX5.out.below' hb15)
      replace RX14 := Lib.hid (RX14.out.below' hb15)
      replace Gr := Lib.hid ((hb15.block _ (heap_lt Gr.out)).trans Gr.out)
      replace GS := Lib.hid ((hb15.block _ (heap_lt GS.out)).trans GS.out)
      replace GG := Lib.hid ((hb15.block _ (heap_lt GG.out)).trans GG.out)
      replace GH := Lib.hid ((hb15.block _ (heap_lt GH.out)).trans GH.out)
      replace HW := Lib.hid (HW.out.trans (hb15.mono HW.out.size))
      clear hb15
      obtain ⟨o9_0, o9_1, _, _, o9_z⟩ := two_at GG.out
      go_wp2_with fail
      clear o9_0 o9_1 o9_z
      refine (heldPartsResult_c C (.slice A5 L.length c5) L 1 _ fx5 (by omega) hLl (by omega) RX5.out).mono ?_
      rintro e w16 ⟨rfl, hb16⟩
      have sz16 := hb16.size
      replace NX14 := Lib.hid (NX14.out.but (But.of_below hb16 []) RX14.out.lt (by simp))
      replace ROb := Lib.hid (ROb.out.below' hb16)
      replace RX2 := Lib.hid (RX2.out.below' hb16)
      replace RX5 := Lib.hid (RX5.out.below' hb16)
      replace RX14 := Lib.hid (RX14.out.below' hb16)
      replace Gr := Lib.hid ((hb16.block _ (heap_lt Gr.out)).trans Gr.out)
      replace GS := Lib.hid ((hb16.block _ (heap_lt GS.out)).trans GS.out)
      replace GG := Lib.hid ((hb16.block _ (heap_lt GG.out)).trans GG.out)
      replace GH := Lib.hid ((hb16.block _ (heap_lt GH.out)).trans GH.out)
      replace HW := Lib.hid (HW.out.trans (hb16.mono HW.out.size))
      clear hb16
      go_wp2
      go_ret
      exact ⟨rfl, HW.out⟩
end Go.Proofs.Ytoabohllphoioaa
