/- The laws on SameBooks, LedgerFault, SameLedgers answer true: the walks, by a maker (exlaw.py). -/
import Derived.Test.YtfohlopbfanaeaaLedg5
import Derived.Test.YtfohlopbfanaeaaBookK
namespace Go.Proofs.Ytfohlopbfanaeaa
open Go.RowKit
theorem lsz_nn (l : Lg) : 0 ≤ lsz l := by have := bsz_nn l.bk; unfold lsz; omega

set_option maxRecDepth 100000 in
set_option maxHeartbeats 4000000 in
theorem lawLedgerFault_c (ask : AskLedgerFault) (b : Lg) (wnb : (Lit.int .i64 b.bk.now).wf = true) (vrb vhb vsb : Value) (wrb : ∀ r ∈ b.bk.rs, WfR r) (whb : ∀ h ∈ b.bk.hs, WfH h) (wsb : ∀ x ∈ b.sn, WfS x) (w : World) (fab fbb fcb : List Nat) (hr : LgAt w b vrb vhb vsb fab fbb fcb) :
    Calls Try.prog 9 #[lv b.bk.now vrb vhb vsb] w fun e w' => e = .returned (.bool true) ∧ Below w.heap.size w w' := by
  by_cases hbig : (1048576 : Int) < lsz b
  · go_enter Try.func9, Try.ntmps9
    go_wp2_with fail
    refine (szLedger_c b vrb vhb vsb fab fbb fcb 1048576 _ (hr.alloc _) (by omega) (by omega)).mono ?_
    rw [if_pos (by omega)]
    rintro e w1 ⟨rfl, hb1⟩
    have HB := Lib.hid ((below_new _).trans (hb1.mono (by simp))); clear hb1
    go_wp2
    go_ret
    exact ⟨rfl, HB.out⟩
  · have hs : lsz b ≤ 1048576 := by omega
    generalize hC : ledgF b = C
    have HC := Lib.hid hC; clear hC
    have hl0 : decide ((1048576 : Int) - lsz b < 0) = false := by simp; omega
    go_enter Try.func9, Try.ntmps9
    go_wp2_with fail
    refine (szLedger_c b vrb vhb vsb fab fbb fcb 1048576 _ (hr.alloc _) (by omega) (by omega)).mono ?_
    rw [if_neg (by omega)]
    rintro e w1 ⟨rfl, hb1⟩
    have hg1 := newest hb1 (by simp)
    obtain ⟨l0, l1, l2, l3, _, _, _, _, hzl⟩ := four_at hg1
    have HB1 := Lib.hid ((below_new _).trans (hb1.mono (by simp))); have HG1 := Lib.hid hg1
    have hr1 := hr.below' HB1.out
    clear hb1 hg1
    go_wp2_with fail
    refine (toLedger_c b vrb vhb vsb fab fbb fcb _ hs hr1).mono ?_
    rintro e w2 ⟨vr2, vh2, vs2, fa2, fb2, fc2, rfl, hk2, _, _, _, _, _, _, _, _, _, hb2⟩
    have HG2 := Lib.hid ((hb2.block _ (heap_lt HG1.out)).trans HG1.out)
    have HB2 := Lib.hid (HB1.out.trans (hb2.mono HB1.out.size))
    clear hb2 hr1
    go_wp2_with fail
    refine (specLedgerFault_k b vr2 vh2 vs2 fa2 fb2 fc2 _ hk2).mono ?_
    rw [HC.out]
    rintro e w3 ⟨rfl, hb3⟩
    have hg3 := (hb3.block _ (heap_lt HG2.out)).trans HG2.out
    have hb3' := HB2.out.trans (hb3.mono HB2.out.size)
    clear hb3 hk2 HG1 HG2 HB1 HB2 l0 l1 l2 l3 hzl
    have hg4 := hg3
    have hb4 := hb3'
    obtain ⟨l0, l1, l2, l3, _, _, _, _, hzl⟩ := four_at hg4
    have HG4 := Lib.hid hg4; have HB4 := Lib.hid hb4
    skip
    clear hg3 hg4 hb4 hb3' 
    go_wp2_with fail
    generalize w3 = w4 at *
    refine (toLedger_c b vrb vhb vsb fab fbb fcb _ hs (hr.below' HB4.out)).mono ?_
    rintro e w5 ⟨vr5, vh5, vs5, fa5, fb5, fc5, rfl, hk5, _, _, _, _, _, _, _, _, _, hb5⟩
    obtain ⟨A5, c5, B5, d5, D5, e5, rfl, rfl, rfl⟩ := hk5.form
    have hg5 := (hb5.block _ (heap_lt HG4.out)).trans HG4.out
    have hb5' := HB4.out.trans (hb5.mono HB4.out.size)
    have hg6 := heap_old (o' := .cells #[.int .i64 b.bk.now, (.slice A5 b.bk.rs.length c5), (.slice B5 b.bk.hs.length d5), (.slice D5 b.sn.length e5)] 55) hg5
    have hgx := heap_new w5 (.cells #[.int .i64 b.bk.now, (.slice A5 b.bk.rs.length c5), (.slice B5 b.bk.hs.length d5), (.slice D5 b.sn.length e5)] 55) rfl
    have hb6 := below_more hb5' (.cells #[.int .i64 b.bk.now, (.slice A5 b.bk.rs.length c5), (.slice B5 b.bk.hs.length d5), (.slice D5 b.sn.length e5)] 55)
    have hk6 := hk5.alloc (.cells #[.int .i64 b.bk.now, (.slice A5 b.bk.rs.length c5), (.slice B5 b.bk.hs.length d5), (.slice D5 b.sn.length e5)] 55)
    have HG6 := Lib.hid hg6; have HGX := Lib.hid hgx; have HB6 := Lib.hid hb6; have HK6 := Lib.hid hk6
    clear hb5 hg5 hb5' hg6 hgx hb6 hk6 hk5 l0 l1 l2 l3 hzl
    go_wp2_with fail
    generalize w5.alloc (.cells #[.int .i64 b.bk.now, (.slice A5 b.bk.rs.length c5), (.slice B5 b.bk.hs.length d5), (.slice D5 b.sn.length e5)] 55) = w6 at *
    refine (ask b (.slice A5 b.bk.rs.length c5) (.slice B5 b.bk.hs.length d5) (.slice D5 b.sn.length e5) fa5 fb5 fc5 _ hs wnb wrb whb wsb HK6.out).mono ?_
    rw [HC.out]
    rintro e w7 ⟨rfl, hb7⟩
    have hg7 := (hb7.block _ (heap_lt HG6.out)).trans HG6.out
    have hgx7 := (hb7.block _ (heap_lt HGX.out)).trans HGX.out
    have hb7' := HB6.out.trans (hb7.mono HB6.out.size)
    have hk7 := HK6.out.below' hb7
    obtain ⟨l0, l1, l2, l3, _, _, _, _, hzl⟩ := four_at hg7
    obtain ⟨x0, x1, x2, x3, _, _, _, _, hzx⟩ := four_at hgx7
    have HB9 := Lib.hid hb7'; have HK9 := Lib.hid hk7
    clear hb7 hg7 hgx7 hb7' hk7
    go_wp2_with fail
    generalize w7 = w9 at *
    have HRO := Lib.hid (hr.below' HB9.out)
    generalize w5.heap.size = gx at *
    go_region_held3 (fun w' => w'.cell? ⟨w.heap.size, 0, none⟩ = some (.int .i64 b.bk.now) ∧ w'.cell? ⟨w.heap.size, 1, none⟩ = some (vrb) ∧ w'.cell? ⟨w.heap.size, 2, none⟩ = some (vhb) ∧ w'.cell? ⟨w.heap.size, 3, none⟩ = some (vsb) ∧ w'.cell? ⟨gx, 0, none⟩ = some (.int .i64 b.bk.now) ∧ w'.cell? ⟨gx, 1, none⟩ = some ((.slice A5 b.bk.rs.length c5)) ∧ w'.cell? ⟨gx, 2, none⟩ = some ((.slice B5 b.bk.hs.length d5)) ∧ w'.cell? ⟨gx, 3, none⟩ = some ((.slice D5 b.sn.length e5)))
      (first
        | go_keep
        | (refine ⟨(Below.cell (w := w9) (p := ⟨w.heap.size, _, none⟩) ?_ hzl).trans l0, (Below.cell (w := w9) (p := ⟨w.heap.size, _, none⟩) ?_ hzl).trans l1, (Below.cell (w := w9) (p := ⟨w.heap.size, _, none⟩) ?_ hzl).trans l2, (Below.cell (w := w9) (p := ⟨w.heap.size, _, none⟩) ?_ hzl).trans l3, (Below.cell (w := w9) (p := ⟨gx, _, none⟩) ?_ hzx).trans x0, (Below.cell (w := w9) (p := ⟨gx, _, none⟩) ?_ hzx).trans x1, (Below.cell (w := w9) (p := ⟨gx, _, none⟩) ?_ hzx).trans x2, (Below.cell (w := w9) (p := ⟨gx, _, none⟩) ?_ hzx).trans x3⟩ <;> (first | with_reducible exact hq2 | with_reducible exact hq1)))
      (first
        | (go_at_call 35
           refine (toLedger_c b vrb vhb vsb fab fbb fcb _ hs (HRO.out.below' (Below.refl _ _).drew)).mono ?_
           rintro e y1 ⟨vrq, vhq, vsq, faq, fbq, fcq, rfl, hkq, _, _, _, _, _, _, _, _, _, hbq⟩
           have hq1 : Below w9.heap.size w9 y1 := (Below.refl _ _).drew.trans hbq
           clear hbq)
        | (go_at_call 37
           refine (eqLedger_c b (.slice A5 b.bk.rs.length c5) (.slice B5 b.bk.hs.length d5) (.slice D5 b.sn.length e5) vrq vhq vsq fa5 fb5 fc5 faq fbq fcq _ (HK9.out.below' hq1) hkq).mono ?_
           rintro e y2 ⟨rfl, hbq⟩
           have hq2 : Below w9.heap.size w9 y2 := hq1.trans (hbq.mono hq1.size)
           clear hbq))
    have HE := Lib.hid (HB9.out.trans (hq2.mono HB9.out.size))
    clear hq1 hq2
    go_wp2
    go_ret
    exact ⟨rfl, HE.out⟩

set_option maxRecDepth 100000 in
set_option maxHeartbeats 4000000 in
theorem lawSameBooks_c (ask : AskSameBooks) (a : Bk) (wna : (Lit.int .i64 a.now).wf = true) (vra vha : Value) (wra : ∀ r ∈ a.rs, WfR r) (wha : ∀ h ∈ a.hs, WfH h) (b : Bk) (wnb : (Lit.int .i64 b.now).wf = true) (vrb vhb : Value) (wrb : ∀ r ∈ b.rs, WfR r) (whb : ∀ h ∈ b.hs, WfH h) (w : World) (faa fba fab fbb : List Nat) (hra : BkAt w a vra vha faa fba) (hrb : BkAt w b vrb vhb fab fbb) :
    Calls Try.prog 6 #[bv a.now vra vha, bv b.now vrb vhb] w fun e w' => e = .returned (.bool true) ∧ Below w.heap.size w w' := by
  have HA := Lib.hid hra; have HB := Lib.hid hrb
  clear hra hrb
  have nna : 0 ≤ bsz a := bsz_nn a
  have nnb : 0 ≤ bsz b := bsz_nn b
  have HBW : Hid (Below w.heap.size w ((w.alloc (.cells #[.int .i64 a.now, vra, vha] 25)).alloc (.cells #[.int .i64 b.now, vrb, vhb] 25))) := below_more (below_new _) _
  have G1 : Hid (((w.alloc (.cells #[.int .i64 a.now, vra, vha] 25)).alloc (.cells #[.int .i64 b.now, vrb, vhb] 25)).heap[w.heap.size]? = some (.cells #[.int .i64 a.now, vra, vha] 25 (0, 0))) := heap_old (heap_new w _ rfl)
  have G2 : Hid (((w.alloc (.cells #[.int .i64 a.now, vra, vha] 25)).alloc (.cells #[.int .i64 b.now, vrb, vhb] 25)).heap[w.heap.size + 1]? = some (.cells #[.int .i64 b.now, vrb, vhb] 25 (0, 0))) := heap_new _ _ (by simp)
  generalize hC : sameB a b = C
  have HC := Lib.hid hC; clear hC
  by_cases hbig : (1048576 : Int) < bsz a
  · go_enter Try.func6, Try.ntmps6
    go_wp2_with fail
    generalize ((w.alloc (.cells #[.int .i64 a.now, vra, vha] 25)).alloc (.cells #[.int .i64 b.now, vrb, vhb] 25)) = W at *
    refine (szBook_c a vra vha faa fba 1048576 _ (HA.out.below' HBW.out) (by omega) (by omega)).mono ?_
    rw [if_pos (by omega)]
    rintro e w1 ⟨rfl, hb1⟩
    have HB1 := Lib.hid (HBW.out.trans (hb1.mono HBW.out.size)); clear hb1
    go_wp2
    go_ret
    exact ⟨rfl, HB1.out⟩
  have hsa : bsz a ≤ 1048576 := by omega
  have hl0 : decide ((1048576 : Int) - bsz a < 0) = false := by simp; omega
  by_cases hbig2 : (1048576 : Int) - bsz a < bsz b
  · have HG2 := Lib.hid hbig2
    go_enter Try.func6, Try.ntmps6
    go_wp2_with fail
    generalize ((w.alloc (.cells #[.int .i64 a.now, vra, vha] 25)).alloc (.cells #[.int .i64 b.now, vrb, vhb] 25)) = W at *
    refine (szBook_c a vra vha faa fba 1048576 _ (HA.out.below' HBW.out) (by omega) (by omega)).mono ?_
    rw [if_neg (by omega)]
    rintro e w1 ⟨rfl, hb1⟩
    have HB1 := Lib.hid (HBW.out.trans (hb1.mono HBW.out.size))
    obtain ⟨m0, m1, m2, _, _, _, hzm⟩ := three_at ((hb1.block _ (heap_lt G2.out)).trans G2.out)
    clear hb1 hbig2
    go_wp2_with fail
    refine (szBook_c b vrb vhb fab fbb (1048576 - bsz a) _ (HB.out.below' HB1.out) (by omega) (by omega)).mono ?_
    rw [if_pos (by have := HG2.out; omega)]
    rintro e w2 ⟨rfl, hb2⟩
    have HB2 := Lib.hid (HB1.out.trans (hb2.mono HB1.out.size)); clear hb2
    go_wp2
    go_ret
    exact ⟨rfl, HB2.out⟩
  have HG2 := Lib.hid hbig2
  have hsb : bsz b ≤ 1048576 := by omega
  have hl1 : decide ((1048576 : Int) - bsz a - bsz b < 0) = false := by simp; omega
  clear hbig hbig2
  go_enter Try.func6, Try.ntmps6
  go_wp2_with fail
  generalize ((w.alloc (.cells #[.int .i64 a.now, vra, vha] 25)).alloc (.cells #[.int .i64 b.now, vrb, vhb] 25)) = W at *
  refine (szBook_c a vra vha faa fba 1048576 _ (HA.out.below' HBW.out) (by omega) (by omega)).mono ?_
  rw [if_neg (by omega)]
  rintro e w1 ⟨rfl, hb1⟩
  have HB1 := Lib.hid (HBW.out.trans (hb1.mono HBW.out.size))
  have G11 := Lib.hid ((hb1.block _ (heap_lt G1.out)).trans G1.out)
  have G21 := Lib.hid ((hb1.block _ (heap_lt G2.out)).trans G2.out)
  obtain ⟨m0, m1, m2, _, _, _, hzm⟩ := three_at G21.out
  clear hb1
  go_wp2_with fail
  refine (szBook_c b vrb vhb fab fbb (1048576 - bsz a) _ (HB.out.below' HB1.out) (by omega) (by omega)).mono ?_
  rw [if_neg (by have := HG2.out; omega)]
  rintro e w2 ⟨rfl, hb2⟩
  have HB2 := Lib.hid (HB1.out.trans (hb2.mono HB1.out.size))
  have G12 := Lib.hid ((hb2.block _ (heap_lt G11.out)).trans G11.out)
  have G22 := Lib.hid ((hb2.block _ (heap_lt G21.out)).trans G21.out)
  clear hb2 m0 m1 m2 hzm
  obtain ⟨l0, l1, l2, _, _, _, hzl⟩ := three_at G12.out
  obtain ⟨m0, m1, m2, _, _, _, hzm⟩ := three_at G22.out
  have HA2 := Lib.hid (HA.out.below' HB2.out); have HBB2 := Lib.hid (HB.out.below' HB2.out)
  go_wp2_with fail
  go_region_held3 (fun w' => w'.cell? ⟨w.heap.size, 0, none⟩ = some (.int .i64 a.now) ∧ w'.cell? ⟨w.heap.size, 1, none⟩ = some (vra) ∧ w'.cell? ⟨w.heap.size, 2, none⟩ = some (vha) ∧ w'.cell? ⟨w.heap.size + 1, 0, none⟩ = some (.int .i64 b.now) ∧ w'.cell? ⟨w.heap.size + 1, 1, none⟩ = some (vrb) ∧ w'.cell? ⟨w.heap.size + 1, 2, none⟩ = some (vhb))
    (first
      | go_keep
      | (refine ⟨(Below.cell (w := w2) (p := ⟨w.heap.size, _, none⟩) ?_ hzl).trans l0, (Below.cell (w := w2) (p := ⟨w.heap.size, _, none⟩) ?_ hzl).trans l1, (Below.cell (w := w2) (p := ⟨w.heap.size, _, none⟩) ?_ hzl).trans l2, (Below.cell (w := w2) (p := ⟨w.heap.size + 1, _, none⟩) ?_ hzm).trans m0, (Below.cell (w := w2) (p := ⟨w.heap.size + 1, _, none⟩) ?_ hzm).trans m1, (Below.cell (w := w2) (p := ⟨w.heap.size + 1, _, none⟩) ?_ hzm).trans m2⟩ <;> (first | with_reducible exact hq3 | with_reducible exact hq2 | with_reducible exact hq1)))
    (first
      | (go_at_call 16
         ((with_reducible refine (toBook_c a vra vha faa fba _ hsa (HA2.out.below' (Below.refl _ _).drew)).mono ?_)
          rintro e y1 ⟨vrA, vhA, faA, fbA, rfl, hkA, _, _, _, _, _, hbq⟩
          have hq1 : Below w2.heap.size w2 y1 := (Below.refl _ _).drew.trans hbq
          clear hbq))
      | (go_at_call 16
         ((with_reducible refine (toBook_c b vrb vhb fab fbb _ hsb (HBB2.out.below' (Below.refl _ _).drew)).mono ?_)
          rintro e y1 ⟨vrB, vhB, faB, fbB, rfl, hkB, _, _, _, _, _, hbq⟩
          have hq1 : Below w2.heap.size w2 y1 := (Below.refl _ _).drew.trans hbq
          clear hbq))
      | (go_at_call 16
         ((with_reducible refine (toBook_c a vra vha faa fba _ hsa (HA2.out.below' hq1)).mono ?_)
          rintro e y2 ⟨vrA, vhA, faA, fbA, rfl, hkA, _, _, _, _, _, hbq⟩
          have hkB := hkB.below' hbq
          have hq2 : Below w2.heap.size w2 y2 := hq1.trans (hbq.mono hq1.size)
          clear hbq))
      | (go_at_call 16
         ((with_reducible refine (toBook_c b vrb vhb fab fbb _ hsb (HBB2.out.below' hq1)).mono ?_)
          rintro e y2 ⟨vrB, vhB, faB, fbB, rfl, hkB, _, _, _, _, _, hbq⟩
          have hkA := hkA.below' hbq
          have hq2 : Below w2.heap.size w2 y2 := hq1.trans (hbq.mono hq1.size)
          clear hbq))
      | (go_at_call 24
         refine (specSameBooks_k a b vrA vhA vrB vhB faA fbA faB fbB _ hkA hkB).mono ?_
         rw [HC.out]
         rintro e y3 ⟨rfl, hbq⟩
         have hq3 : Below w2.heap.size w2 y3 := hq2.trans (hbq.mono hq2.size)
         clear hbq))
  all_goals
    have HB3 := Lib.hid (HB2.out.trans (hq3.mono HB2.out.size))
    have G13 := Lib.hid ((hq3.block _ (heap_lt G12.out)).trans G12.out)
    have G23 := Lib.hid ((hq3.block _ (heap_lt G22.out)).trans G22.out)
    clear hq1 hq2 hq3 l0 l1 l2 m0 m1 m2 hzl hzm
    obtain ⟨l0, l1, l2, _, _, _, hzl⟩ := three_at G13.out
    go_wp2_with fail
    refine (toBook_c a vra vha faa fba _ hsa (HA.out.below' HB3.out)).mono ?_
    rintro e w5 ⟨vr5, vh5, fa5, fb5, rfl, hk5, _, _, _, _, _, hb5⟩
    obtain ⟨A5, c5, B5, d5, rfl, rfl⟩ := hk5.form
    have G15 := Lib.hid (heap_old (o' := .cells #[.int .i64 a.now, (.slice A5 a.rs.length c5), (.slice B5 a.hs.length d5)] 31) ((hb5.block _ (heap_lt G13.out)).trans G13.out))
    have G25 := Lib.hid (heap_old (o' := .cells #[.int .i64 a.now, (.slice A5 a.rs.length c5), (.slice B5 a.hs.length d5)] 31) ((hb5.block _ (heap_lt G23.out)).trans G23.out))
    have GX5 := Lib.hid (heap_new w5 (.cells #[.int .i64 a.now, (.slice A5 a.rs.length c5), (.slice B5 a.hs.length d5)] 31) rfl)
    have HB5 := Lib.hid (below_more (HB3.out.trans (hb5.mono HB3.out.size)) (.cells #[.int .i64 a.now, (.slice A5 a.rs.length c5), (.slice B5 a.hs.length d5)] 31))
    have HK5 := Lib.hid (hk5.alloc (.cells #[.int .i64 a.now, (.slice A5 a.rs.length c5), (.slice B5 a.hs.length d5)] 31))
    obtain ⟨m0, m1, m2, _, _, _, hzm⟩ := three_at G25.out
    clear hb5 hk5 l0 l1 l2 hzl
    go_wp2_with fail
    generalize w5.alloc (.cells #[.int .i64 a.now, (.slice A5 a.rs.length c5), (.slice B5 a.hs.length d5)] 31) = w6 at *
    refine (toBook_c b vrb vhb fab fbb _ hsb (HB.out.below' HB5.out)).mono ?_
    rintro e w7 ⟨vr6, vh6, fa6, fb6, rfl, hk6, _, _, _, _, _, hb6⟩
    obtain ⟨A6, c6, B6, d6, rfl, rfl⟩ := hk6.form
    have G17 := Lib.hid (heap_old (o' := .cells #[.int .i64 b.now, (.slice A6 b.rs.length c6), (.slice B6 b.hs.length d6)] 31) ((hb6.block _ (heap_lt G15.out)).trans G15.out))
    have G27 := Lib.hid (heap_old (o' := .cells #[.int .i64 b.now, (.slice A6 b.rs.length c6), (.slice B6 b.hs.length d6)] 31) ((hb6.block _ (heap_lt G25.out)).trans G25.out))
    have GX7 := Lib.hid (heap_old (o' := .cells #[.int .i64 b.now, (.slice A6 b.rs.length c6), (.slice B6 b.hs.length d6)] 31) ((hb6.block _ (heap_lt GX5.out)).trans GX5.out))
    have GY7 := Lib.hid (heap_new w7 (.cells #[.int .i64 b.now, (.slice A6 b.rs.length c6), (.slice B6 b.hs.length d6)] 31) rfl)
    have HB7 := Lib.hid (below_more (HB5.out.trans (hb6.mono HB5.out.size)) (.cells #[.int .i64 b.now, (.slice A6 b.rs.length c6), (.slice B6 b.hs.length d6)] 31))
    have HK7 := Lib.hid ((HK5.out.below' hb6).alloc (.cells #[.int .i64 b.now, (.slice A6 b.rs.length c6), (.slice B6 b.hs.length d6)] 31))
    have HJ7 := Lib.hid (hk6.alloc (.cells #[.int .i64 b.now, (.slice A6 b.rs.length c6), (.slice B6 b.hs.length d6)] 31))
    clear hb6 hk6 m0 m1 m2 hzm
    obtain ⟨x0, x1, x2, _, _, _, hzx⟩ := three_at GX7.out
    obtain ⟨z0, z1, z2, _, _, _, hzz⟩ := three_at GY7.out
    go_wp2_with fail
    generalize w7.alloc (.cells #[.int .i64 b.now, (.slice A6 b.rs.length c6), (.slice B6 b.hs.length d6)] 31) = w8 at *
    refine (ask a b (.slice A5 a.rs.length c5) (.slice B5 a.hs.length d5) (.slice A6 b.rs.length c6) (.slice B6 b.hs.length d6) fa5 fb5 fa6 fb6 _ hsa hsb wra wrb HK7.out HJ7.out).mono ?_
    rw [HC.out]
    rintro e w9 ⟨rfl, hb9⟩
    have HB9 := Lib.hid (HB7.out.trans (hb9.mono HB7.out.size))
    have G19 := Lib.hid ((hb9.block _ (heap_lt G17.out)).trans G17.out)
    have G29 := Lib.hid ((hb9.block _ (heap_lt G27.out)).trans G27.out)
    have GX9 := Lib.hid ((hb9.block _ (heap_lt GX7.out)).trans GX7.out)
    have GY9 := Lib.hid ((hb9.block _ (heap_lt GY7.out)).trans GY7.out)
    have HK9 := Lib.hid (HK7.out.below' hb9); have HJ9 := Lib.hid (HJ7.out.below' hb9)
    clear hb9 x0 x1 x2 z0 z1 z2 hzx hzz
    generalize w5.heap.size = gx at *
    generalize w7.heap.size = gy at *
    obtain ⟨l0, l1, l2, _, _, _, hzl⟩ := three_at G19.out
    obtain ⟨x0, x1, x2, _, _, _, hzx⟩ := three_at GX9.out
    have HRO := Lib.hid (HA.out.below' HB9.out)
    have t9 : (C != C) = false := by simp
    go_wp2_with fail
    go_region_held3 (fun w' => w'.cell? ⟨w.heap.size, 0, none⟩ = some (.int .i64 a.now) ∧ w'.cell? ⟨w.heap.size, 1, none⟩ = some (vra) ∧ w'.cell? ⟨w.heap.size, 2, none⟩ = some (vha) ∧ w'.cell? ⟨gx, 0, none⟩ = some (.int .i64 a.now) ∧ w'.cell? ⟨gx, 1, none⟩ = some ((.slice A5 a.rs.length c5)) ∧ w'.cell? ⟨gx, 2, none⟩ = some ((.slice B5 a.hs.length d5)))
      (first
        | go_keep
        | (refine ⟨(Below.cell (w := w9) (p := ⟨w.heap.size, _, none⟩) ?_ hzl).trans l0, (Below.cell (w := w9) (p := ⟨w.heap.size, _, none⟩) ?_ hzl).trans l1, (Below.cell (w := w9) (p := ⟨w.heap.size, _, none⟩) ?_ hzl).trans l2, (Below.cell (w := w9) (p := ⟨gx, _, none⟩) ?_ hzx).trans x0, (Below.cell (w := w9) (p := ⟨gx, _, none⟩) ?_ hzx).trans x1, (Below.cell (w := w9) (p := ⟨gx, _, none⟩) ?_ hzx).trans x2⟩ <;> (first | with_reducible exact hq2 | with_reducible exact hq1)))
      (first
        | (go_at_call 16
           refine (toBook_c a vra vha faa fba _ hsa (HRO.out.below' (Below.refl _ _).drew)).mono ?_
           rintro e y1 ⟨vrq, vhq, faq, fbq, rfl, hkq, _, _, _, _, _, hbq⟩
           have hq1 : Below w9.heap.size w9 y1 := (Below.refl _ _).drew.trans hbq
           clear hbq)
        | (go_at_call 18
           refine (eqBook_c a (.slice A5 a.rs.length c5) (.slice B5 a.hs.length d5) vrq vhq fa5 fb5 faq fbq _ (HK9.out.below' hq1) hkq).mono ?_
           rintro e y2 ⟨rfl, hbq⟩
           have hq2 : Below w9.heap.size w9 y2 := hq1.trans (hbq.mono hq1.size)
           clear hbq))
    generalize y2 = u2 at *
    have HB10 := Lib.hid (HB9.out.trans (hq2.mono HB9.out.size))
    have G210 := Lib.hid ((hq2.block _ (heap_lt G29.out)).trans G29.out)
    have GY10 := Lib.hid ((hq2.block _ (heap_lt GY9.out)).trans GY9.out)
    have HJ10 := Lib.hid (HJ9.out.below' hq2)
    clear hq1 hq2 hkq l0 l1 l2 x0 x1 x2 hzl hzx t9
    obtain ⟨m0, m1, m2, _, _, _, hzm⟩ := three_at G210.out
    obtain ⟨z0, z1, z2, _, _, _, hzz⟩ := three_at GY10.out
    have HRP := Lib.hid (HB.out.below' HB10.out)
    go_wp2_with fail
    go_region_held3 (fun w' => w'.cell? ⟨w.heap.size + 1, 0, none⟩ = some (.int .i64 b.now) ∧ w'.cell? ⟨w.heap.size + 1, 1, none⟩ = some (vrb) ∧ w'.cell? ⟨w.heap.size + 1, 2, none⟩ = some (vhb) ∧ w'.cell? ⟨gy, 0, none⟩ = some (.int .i64 b.now) ∧ w'.cell? ⟨gy, 1, none⟩ = some ((.slice A6 b.rs.length c6)) ∧ w'.cell? ⟨gy, 2, none⟩ = some ((.slice B6 b.hs.length d6)))
      (first
        | go_keep
        | (refine ⟨(Below.cell (w := u2) (p := ⟨w.heap.size + 1, _, none⟩) ?_ hzm).trans m0, (Below.cell (w := u2) (p := ⟨w.heap.size + 1, _, none⟩) ?_ hzm).trans m1, (Below.cell (w := u2) (p := ⟨w.heap.size + 1, _, none⟩) ?_ hzm).trans m2, (Below.cell (w := u2) (p := ⟨gy, _, none⟩) ?_ hzz).trans z0, (Below.cell (w := u2) (p := ⟨gy, _, none⟩) ?_ hzz).trans z1, (Below.cell (w := u2) (p := ⟨gy, _, none⟩) ?_ hzz).trans z2⟩ <;> (first | with_reducible exact hq2 | with_reducible exact hq1)))
      (first
        | (go_at_call 16
           refine (toBook_c b vrb vhb fab fbb _ hsb (HRP.out.below' (Below.refl _ _).drew)).mono ?_
           rintro e y1 ⟨vrq, vhq, faq, fbq, rfl, hkq, _, _, _, _, _, hbq⟩
           have hq1 : Below u2.heap.size u2 y1 := (Below.refl _ _).drew.trans hbq
           clear hbq)
        | (go_at_call 18
           refine (eqBook_c b (.slice A6 b.rs.length c6) (.slice B6 b.hs.length d6) vrq vhq fa6 fb6 faq fbq _ (HJ10.out.below' hq1) hkq).mono ?_
           rintro e u3 ⟨rfl, hbq⟩
           have hq2 : Below u2.heap.size u2 u3 := hq1.trans (hbq.mono hq1.size)
           clear hbq))
    have HE := Lib.hid (HB10.out.trans (hq2.mono HB10.out.size))
    clear hq1 hq2
    go_wp2
    go_ret
    exact ⟨rfl, HE.out⟩

set_option maxRecDepth 100000 in
set_option maxHeartbeats 4000000 in
theorem lawSameLedgers_c (ask : AskSameLedgers) (a : Lg) (wna : (Lit.int .i64 a.bk.now).wf = true) (vra vha vsa : Value) (wra : ∀ r ∈ a.bk.rs, WfR r) (wha : ∀ h ∈ a.bk.hs, WfH h) (wsa : ∀ x ∈ a.sn, WfS x) (b : Lg) (wnb : (Lit.int .i64 b.bk.now).wf = true) (vrb vhb vsb : Value) (wrb : ∀ r ∈ b.bk.rs, WfR r) (whb : ∀ h ∈ b.bk.hs, WfH h) (wsb : ∀ x ∈ b.sn, WfS x) (w : World) (faa fba fca fab fbb fcb : List Nat) (hra : LgAt w a vra vha vsa faa fba fca) (hrb : LgAt w b vrb vhb vsb fab fbb fcb) :
    Calls Try.prog 12 #[lv a.bk.now vra vha vsa, lv b.bk.now vrb vhb vsb] w fun e w' => e = .returned (.bool true) ∧ Below w.heap.size w w' := by
  have HA := Lib.hid hra; have HB := Lib.hid hrb
  clear hra hrb
  have nna : 0 ≤ lsz a := lsz_nn a
  have nnb : 0 ≤ lsz b := lsz_nn b
  have HBW : Hid (Below w.heap.size w ((w.alloc (.cells #[.int .i64 a.bk.now, vra, vha, vsa] 51)).alloc (.cells #[.int .i64 b.bk.now, vrb, vhb, vsb] 51))) := below_more (below_new _) _
  have G1 : Hid (((w.alloc (.cells #[.int .i64 a.bk.now, vra, vha, vsa] 51)).alloc (.cells #[.int .i64 b.bk.now, vrb, vhb, vsb] 51)).heap[w.heap.size]? = some (.cells #[.int .i64 a.bk.now, vra, vha, vsa] 51 (0, 0))) := heap_old (heap_new w _ rfl)
  have G2 : Hid (((w.alloc (.cells #[.int .i64 a.bk.now, vra, vha, vsa] 51)).alloc (.cells #[.int .i64 b.bk.now, vrb, vhb, vsb] 51)).heap[w.heap.size + 1]? = some (.cells #[.int .i64 b.bk.now, vrb, vhb, vsb] 51 (0, 0))) := heap_new _ _ (by simp)
  generalize hC : sameL a b = C
  have HC := Lib.hid hC; clear hC
  by_cases hbig : (1048576 : Int) < lsz a
  · go_enter Try.func12, Try.ntmps12
    go_wp2_with fail
    generalize ((w.alloc (.cells #[.int .i64 a.bk.now, vra, vha, vsa] 51)).alloc (.cells #[.int .i64 b.bk.now, vrb, vhb, vsb] 51)) = W at *
    refine (szLedger_c a vra vha vsa faa fba fca 1048576 _ (HA.out.below' HBW.out) (by omega) (by omega)).mono ?_
    rw [if_pos (by omega)]
    rintro e w1 ⟨rfl, hb1⟩
    have HB1 := Lib.hid (HBW.out.trans (hb1.mono HBW.out.size)); clear hb1
    go_wp2
    go_ret
    exact ⟨rfl, HB1.out⟩
  have hsa : lsz a ≤ 1048576 := by omega
  have hl0 : decide ((1048576 : Int) - lsz a < 0) = false := by simp; omega
  by_cases hbig2 : (1048576 : Int) - lsz a < lsz b
  · have HG2 := Lib.hid hbig2
    go_enter Try.func12, Try.ntmps12
    go_wp2_with fail
    generalize ((w.alloc (.cells #[.int .i64 a.bk.now, vra, vha, vsa] 51)).alloc (.cells #[.int .i64 b.bk.now, vrb, vhb, vsb] 51)) = W at *
    refine (szLedger_c a vra vha vsa faa fba fca 1048576 _ (HA.out.below' HBW.out) (by omega) (by omega)).mono ?_
    rw [if_neg (by omega)]
    rintro e w1 ⟨rfl, hb1⟩
    have HB1 := Lib.hid (HBW.out.trans (hb1.mono HBW.out.size))
    obtain ⟨m0, m1, m2, m3, _, _, _, _, hzm⟩ := four_at ((hb1.block _ (heap_lt G2.out)).trans G2.out)
    clear hb1 hbig2
    go_wp2_with fail
    refine (szLedger_c b vrb vhb vsb fab fbb fcb (1048576 - lsz a) _ (HB.out.below' HB1.out) (by omega) (by omega)).mono ?_
    rw [if_pos (by have := HG2.out; omega)]
    rintro e w2 ⟨rfl, hb2⟩
    have HB2 := Lib.hid (HB1.out.trans (hb2.mono HB1.out.size)); clear hb2
    go_wp2
    go_ret
    exact ⟨rfl, HB2.out⟩
  have HG2 := Lib.hid hbig2
  have hsb : lsz b ≤ 1048576 := by omega
  have hl1 : decide ((1048576 : Int) - lsz a - lsz b < 0) = false := by simp; omega
  clear hbig hbig2
  go_enter Try.func12, Try.ntmps12
  go_wp2_with fail
  generalize ((w.alloc (.cells #[.int .i64 a.bk.now, vra, vha, vsa] 51)).alloc (.cells #[.int .i64 b.bk.now, vrb, vhb, vsb] 51)) = W at *
  refine (szLedger_c a vra vha vsa faa fba fca 1048576 _ (HA.out.below' HBW.out) (by omega) (by omega)).mono ?_
  rw [if_neg (by omega)]
  rintro e w1 ⟨rfl, hb1⟩
  have HB1 := Lib.hid (HBW.out.trans (hb1.mono HBW.out.size))
  have G11 := Lib.hid ((hb1.block _ (heap_lt G1.out)).trans G1.out)
  have G21 := Lib.hid ((hb1.block _ (heap_lt G2.out)).trans G2.out)
  obtain ⟨m0, m1, m2, m3, _, _, _, _, hzm⟩ := four_at G21.out
  clear hb1
  go_wp2_with fail
  refine (szLedger_c b vrb vhb vsb fab fbb fcb (1048576 - lsz a) _ (HB.out.below' HB1.out) (by omega) (by omega)).mono ?_
  rw [if_neg (by have := HG2.out; omega)]
  rintro e w2 ⟨rfl, hb2⟩
  have HB2 := Lib.hid (HB1.out.trans (hb2.mono HB1.out.size))
  have G12 := Lib.hid ((hb2.block _ (heap_lt G11.out)).trans G11.out)
  have G22 := Lib.hid ((hb2.block _ (heap_lt G21.out)).trans G21.out)
  clear hb2 m0 m1 m2 m3 hzm
  obtain ⟨l0, l1, l2, l3, _, _, _, _, hzl⟩ := four_at G12.out
  obtain ⟨m0, m1, m2, m3, _, _, _, _, hzm⟩ := four_at G22.out
  have HA2 := Lib.hid (HA.out.below' HB2.out); have HBB2 := Lib.hid (HB.out.below' HB2.out)
  go_wp2_with fail
  go_region_held3 (fun w' => w'.cell? ⟨w.heap.size, 0, none⟩ = some (.int .i64 a.bk.now) ∧ w'.cell? ⟨w.heap.size, 1, none⟩ = some (vra) ∧ w'.cell? ⟨w.heap.size, 2, none⟩ = some (vha) ∧ w'.cell? ⟨w.heap.size, 3, none⟩ = some (vsa) ∧ w'.cell? ⟨w.heap.size + 1, 0, none⟩ = some (.int .i64 b.bk.now) ∧ w'.cell? ⟨w.heap.size + 1, 1, none⟩ = some (vrb) ∧ w'.cell? ⟨w.heap.size + 1, 2, none⟩ = some (vhb) ∧ w'.cell? ⟨w.heap.size + 1, 3, none⟩ = some (vsb))
    (first
      | go_keep
      | (refine ⟨(Below.cell (w := w2) (p := ⟨w.heap.size, _, none⟩) ?_ hzl).trans l0, (Below.cell (w := w2) (p := ⟨w.heap.size, _, none⟩) ?_ hzl).trans l1, (Below.cell (w := w2) (p := ⟨w.heap.size, _, none⟩) ?_ hzl).trans l2, (Below.cell (w := w2) (p := ⟨w.heap.size, _, none⟩) ?_ hzl).trans l3, (Below.cell (w := w2) (p := ⟨w.heap.size + 1, _, none⟩) ?_ hzm).trans m0, (Below.cell (w := w2) (p := ⟨w.heap.size + 1, _, none⟩) ?_ hzm).trans m1, (Below.cell (w := w2) (p := ⟨w.heap.size + 1, _, none⟩) ?_ hzm).trans m2, (Below.cell (w := w2) (p := ⟨w.heap.size + 1, _, none⟩) ?_ hzm).trans m3⟩ <;> (first | with_reducible exact hq3 | with_reducible exact hq2 | with_reducible exact hq1)))
    (first
      | (go_at_call 35
         ((with_reducible refine (toLedger_c a vra vha vsa faa fba fca _ hsa (HA2.out.below' (Below.refl _ _).drew)).mono ?_)
          rintro e y1 ⟨vrA, vhA, vsA, faA, fbA, fcA, rfl, hkA, _, _, _, _, _, _, _, _, _, hbq⟩
          have hq1 : Below w2.heap.size w2 y1 := (Below.refl _ _).drew.trans hbq
          clear hbq))
      | (go_at_call 35
         ((with_reducible refine (toLedger_c b vrb vhb vsb fab fbb fcb _ hsb (HBB2.out.below' (Below.refl _ _).drew)).mono ?_)
          rintro e y1 ⟨vrB, vhB, vsB, faB, fbB, fcB, rfl, hkB, _, _, _, _, _, _, _, _, _, hbq⟩
          have hq1 : Below w2.heap.size w2 y1 := (Below.refl _ _).drew.trans hbq
          clear hbq))
      | (go_at_call 35
         ((with_reducible refine (toLedger_c a vra vha vsa faa fba fca _ hsa (HA2.out.below' hq1)).mono ?_)
          rintro e y2 ⟨vrA, vhA, vsA, faA, fbA, fcA, rfl, hkA, _, _, _, _, _, _, _, _, _, hbq⟩
          have hkB := hkB.below' hbq
          have hq2 : Below w2.heap.size w2 y2 := hq1.trans (hbq.mono hq1.size)
          clear hbq))
      | (go_at_call 35
         ((with_reducible refine (toLedger_c b vrb vhb vsb fab fbb fcb _ hsb (HBB2.out.below' hq1)).mono ?_)
          rintro e y2 ⟨vrB, vhB, vsB, faB, fbB, fcB, rfl, hkB, _, _, _, _, _, _, _, _, _, hbq⟩
          have hkA := hkA.below' hbq
          have hq2 : Below w2.heap.size w2 y2 := hq1.trans (hbq.mono hq1.size)
          clear hbq))
      | (go_at_call 47
         refine (specSameLedgers_k a b vrA vhA vsA vrB vhB vsB faA fbA fcA faB fbB fcB _ hkA hkB).mono ?_
         rw [HC.out]
         rintro e y3 ⟨rfl, hbq⟩
         have hq3 : Below w2.heap.size w2 y3 := hq2.trans (hbq.mono hq2.size)
         clear hbq))
  all_goals
    have HB3 := Lib.hid (HB2.out.trans (hq3.mono HB2.out.size))
    have G13 := Lib.hid ((hq3.block _ (heap_lt G12.out)).trans G12.out)
    have G23 := Lib.hid ((hq3.block _ (heap_lt G22.out)).trans G22.out)
    clear hq1 hq2 hq3 l0 l1 l2 l3 m0 m1 m2 m3 hzl hzm
    obtain ⟨l0, l1, l2, l3, _, _, _, _, hzl⟩ := four_at G13.out
    go_wp2_with fail
    refine (toLedger_c a vra vha vsa faa fba fca _ hsa (HA.out.below' HB3.out)).mono ?_
    rintro e w5 ⟨vr5, vh5, vs5, fa5, fb5, fc5, rfl, hk5, _, _, _, _, _, _, _, _, _, hb5⟩
    obtain ⟨A5, c5, B5, d5, D5, e5, rfl, rfl, rfl⟩ := hk5.form
    have G15 := Lib.hid (heap_old (o' := .cells #[.int .i64 a.bk.now, (.slice A5 a.bk.rs.length c5), (.slice B5 a.bk.hs.length d5), (.slice D5 a.sn.length e5)] 55) ((hb5.block _ (heap_lt G13.out)).trans G13.out))
    have G25 := Lib.hid (heap_old (o' := .cells #[.int .i64 a.bk.now, (.slice A5 a.bk.rs.length c5), (.slice B5 a.bk.hs.length d5), (.slice D5 a.sn.length e5)] 55) ((hb5.block _ (heap_lt G23.out)).trans G23.out))
    have GX5 := Lib.hid (heap_new w5 (.cells #[.int .i64 a.bk.now, (.slice A5 a.bk.rs.length c5), (.slice B5 a.bk.hs.length d5), (.slice D5 a.sn.length e5)] 55) rfl)
    have HB5 := Lib.hid (below_more (HB3.out.trans (hb5.mono HB3.out.size)) (.cells #[.int .i64 a.bk.now, (.slice A5 a.bk.rs.length c5), (.slice B5 a.bk.hs.length d5), (.slice D5 a.sn.length e5)] 55))
    have HK5 := Lib.hid (hk5.alloc (.cells #[.int .i64 a.bk.now, (.slice A5 a.bk.rs.length c5), (.slice B5 a.bk.hs.length d5), (.slice D5 a.sn.length e5)] 55))
    obtain ⟨m0, m1, m2, m3, _, _, _, _, hzm⟩ := four_at G25.out
    clear hb5 hk5 l0 l1 l2 l3 hzl
    go_wp2_with fail
    generalize w5.alloc (.cells #[.int .i64 a.bk.now, (.slice A5 a.bk.rs.length c5), (.slice B5 a.bk.hs.length d5), (.slice D5 a.sn.length e5)] 55) = w6 at *
    refine (toLedger_c b vrb vhb vsb fab fbb fcb _ hsb (HB.out.below' HB5.out)).mono ?_
    rintro e w7 ⟨vr6, vh6, vs6, fa6, fb6, fc6, rfl, hk6, _, _, _, _, _, _, _, _, _, hb6⟩
    obtain ⟨A6, c6, B6, d6, D6, e6, rfl, rfl, rfl⟩ := hk6.form
    have G17 := Lib.hid (heap_old (o' := .cells #[.int .i64 b.bk.now, (.slice A6 b.bk.rs.length c6), (.slice B6 b.bk.hs.length d6), (.slice D6 b.sn.length e6)] 55) ((hb6.block _ (heap_lt G15.out)).trans G15.out))
    have G27 := Lib.hid (heap_old (o' := .cells #[.int .i64 b.bk.now, (.slice A6 b.bk.rs.length c6), (.slice B6 b.bk.hs.length d6), (.slice D6 b.sn.length e6)] 55) ((hb6.block _ (heap_lt G25.out)).trans G25.out))
    have GX7 := Lib.hid (heap_old (o' := .cells #[.int .i64 b.bk.now, (.slice A6 b.bk.rs.length c6), (.slice B6 b.bk.hs.length d6), (.slice D6 b.sn.length e6)] 55) ((hb6.block _ (heap_lt GX5.out)).trans GX5.out))
    have GY7 := Lib.hid (heap_new w7 (.cells #[.int .i64 b.bk.now, (.slice A6 b.bk.rs.length c6), (.slice B6 b.bk.hs.length d6), (.slice D6 b.sn.length e6)] 55) rfl)
    have HB7 := Lib.hid (below_more (HB5.out.trans (hb6.mono HB5.out.size)) (.cells #[.int .i64 b.bk.now, (.slice A6 b.bk.rs.length c6), (.slice B6 b.bk.hs.length d6), (.slice D6 b.sn.length e6)] 55))
    have HK7 := Lib.hid ((HK5.out.below' hb6).alloc (.cells #[.int .i64 b.bk.now, (.slice A6 b.bk.rs.length c6), (.slice B6 b.bk.hs.length d6), (.slice D6 b.sn.length e6)] 55))
    have HJ7 := Lib.hid (hk6.alloc (.cells #[.int .i64 b.bk.now, (.slice A6 b.bk.rs.length c6), (.slice B6 b.bk.hs.length d6), (.slice D6 b.sn.length e6)] 55))
    clear hb6 hk6 m0 m1 m2 m3 hzm
    obtain ⟨x0, x1, x2, x3, _, _, _, _, hzx⟩ := four_at GX7.out
    obtain ⟨z0, z1, z2, z3, _, _, _, _, hzz⟩ := four_at GY7.out
    go_wp2_with fail
    generalize w7.alloc (.cells #[.int .i64 b.bk.now, (.slice A6 b.bk.rs.length c6), (.slice B6 b.bk.hs.length d6), (.slice D6 b.sn.length e6)] 55) = w8 at *
    refine (ask a b (.slice A5 a.bk.rs.length c5) (.slice B5 a.bk.hs.length d5) (.slice D5 a.sn.length e5) (.slice A6 b.bk.rs.length c6) (.slice B6 b.bk.hs.length d6) (.slice D6 b.sn.length e6) fa5 fb5 fc5 fa6 fb6 fc6 _ hsa hsb wra wrb HK7.out HJ7.out).mono ?_
    rw [HC.out]
    rintro e w9 ⟨rfl, hb9⟩
    have HB9 := Lib.hid (HB7.out.trans (hb9.mono HB7.out.size))
    have G19 := Lib.hid ((hb9.block _ (heap_lt G17.out)).trans G17.out)
    have G29 := Lib.hid ((hb9.block _ (heap_lt G27.out)).trans G27.out)
    have GX9 := Lib.hid ((hb9.block _ (heap_lt GX7.out)).trans GX7.out)
    have GY9 := Lib.hid ((hb9.block _ (heap_lt GY7.out)).trans GY7.out)
    have HK9 := Lib.hid (HK7.out.below' hb9); have HJ9 := Lib.hid (HJ7.out.below' hb9)
    clear hb9 x0 x1 x2 x3 z0 z1 z2 z3 hzx hzz
    generalize w5.heap.size = gx at *
    generalize w7.heap.size = gy at *
    obtain ⟨l0, l1, l2, l3, _, _, _, _, hzl⟩ := four_at G19.out
    obtain ⟨x0, x1, x2, x3, _, _, _, _, hzx⟩ := four_at GX9.out
    have HRO := Lib.hid (HA.out.below' HB9.out)
    have t9 : (C != C) = false := by simp
    go_wp2_with fail
    go_region_held3 (fun w' => w'.cell? ⟨w.heap.size, 0, none⟩ = some (.int .i64 a.bk.now) ∧ w'.cell? ⟨w.heap.size, 1, none⟩ = some (vra) ∧ w'.cell? ⟨w.heap.size, 2, none⟩ = some (vha) ∧ w'.cell? ⟨w.heap.size, 3, none⟩ = some (vsa) ∧ w'.cell? ⟨gx, 0, none⟩ = some (.int .i64 a.bk.now) ∧ w'.cell? ⟨gx, 1, none⟩ = some ((.slice A5 a.bk.rs.length c5)) ∧ w'.cell? ⟨gx, 2, none⟩ = some ((.slice B5 a.bk.hs.length d5)) ∧ w'.cell? ⟨gx, 3, none⟩ = some ((.slice D5 a.sn.length e5)))
      (first
        | go_keep
        | (refine ⟨(Below.cell (w := w9) (p := ⟨w.heap.size, _, none⟩) ?_ hzl).trans l0, (Below.cell (w := w9) (p := ⟨w.heap.size, _, none⟩) ?_ hzl).trans l1, (Below.cell (w := w9) (p := ⟨w.heap.size, _, none⟩) ?_ hzl).trans l2, (Below.cell (w := w9) (p := ⟨w.heap.size, _, none⟩) ?_ hzl).trans l3, (Below.cell (w := w9) (p := ⟨gx, _, none⟩) ?_ hzx).trans x0, (Below.cell (w := w9) (p := ⟨gx, _, none⟩) ?_ hzx).trans x1, (Below.cell (w := w9) (p := ⟨gx, _, none⟩) ?_ hzx).trans x2, (Below.cell (w := w9) (p := ⟨gx, _, none⟩) ?_ hzx).trans x3⟩ <;> (first | with_reducible exact hq2 | with_reducible exact hq1)))
      (first
        | (go_at_call 35
           refine (toLedger_c a vra vha vsa faa fba fca _ hsa (HRO.out.below' (Below.refl _ _).drew)).mono ?_
           rintro e y1 ⟨vrq, vhq, vsq, faq, fbq, fcq, rfl, hkq, _, _, _, _, _, _, _, _, _, hbq⟩
           have hq1 : Below w9.heap.size w9 y1 := (Below.refl _ _).drew.trans hbq
           clear hbq)
        | (go_at_call 37
           refine (eqLedger_c a (.slice A5 a.bk.rs.length c5) (.slice B5 a.bk.hs.length d5) (.slice D5 a.sn.length e5) vrq vhq vsq fa5 fb5 fc5 faq fbq fcq _ (HK9.out.below' hq1) hkq).mono ?_
           rintro e y2 ⟨rfl, hbq⟩
           have hq2 : Below w9.heap.size w9 y2 := hq1.trans (hbq.mono hq1.size)
           clear hbq))
    generalize y2 = u2 at *
    have HB10 := Lib.hid (HB9.out.trans (hq2.mono HB9.out.size))
    have G210 := Lib.hid ((hq2.block _ (heap_lt G29.out)).trans G29.out)
    have GY10 := Lib.hid ((hq2.block _ (heap_lt GY9.out)).trans GY9.out)
    have HJ10 := Lib.hid (HJ9.out.below' hq2)
    clear hq1 hq2 hkq l0 l1 l2 l3 x0 x1 x2 x3 hzl hzx t9
    obtain ⟨m0, m1, m2, m3, _, _, _, _, hzm⟩ := four_at G210.out
    obtain ⟨z0, z1, z2, z3, _, _, _, _, hzz⟩ := four_at GY10.out
    have HRP := Lib.hid (HB.out.below' HB10.out)
    go_wp2_with fail
    go_region_held3 (fun w' => w'.cell? ⟨w.heap.size + 1, 0, none⟩ = some (.int .i64 b.bk.now) ∧ w'.cell? ⟨w.heap.size + 1, 1, none⟩ = some (vrb) ∧ w'.cell? ⟨w.heap.size + 1, 2, none⟩ = some (vhb) ∧ w'.cell? ⟨w.heap.size + 1, 3, none⟩ = some (vsb) ∧ w'.cell? ⟨gy, 0, none⟩ = some (.int .i64 b.bk.now) ∧ w'.cell? ⟨gy, 1, none⟩ = some ((.slice A6 b.bk.rs.length c6)) ∧ w'.cell? ⟨gy, 2, none⟩ = some ((.slice B6 b.bk.hs.length d6)) ∧ w'.cell? ⟨gy, 3, none⟩ = some ((.slice D6 b.sn.length e6)))
      (first
        | go_keep
        | (refine ⟨(Below.cell (w := u2) (p := ⟨w.heap.size + 1, _, none⟩) ?_ hzm).trans m0, (Below.cell (w := u2) (p := ⟨w.heap.size + 1, _, none⟩) ?_ hzm).trans m1, (Below.cell (w := u2) (p := ⟨w.heap.size + 1, _, none⟩) ?_ hzm).trans m2, (Below.cell (w := u2) (p := ⟨w.heap.size + 1, _, none⟩) ?_ hzm).trans m3, (Below.cell (w := u2) (p := ⟨gy, _, none⟩) ?_ hzz).trans z0, (Below.cell (w := u2) (p := ⟨gy, _, none⟩) ?_ hzz).trans z1, (Below.cell (w := u2) (p := ⟨gy, _, none⟩) ?_ hzz).trans z2, (Below.cell (w := u2) (p := ⟨gy, _, none⟩) ?_ hzz).trans z3⟩ <;> (first | with_reducible exact hq2 | with_reducible exact hq1)))
      (first
        | (go_at_call 35
           refine (toLedger_c b vrb vhb vsb fab fbb fcb _ hsb (HRP.out.below' (Below.refl _ _).drew)).mono ?_
           rintro e y1 ⟨vrq, vhq, vsq, faq, fbq, fcq, rfl, hkq, _, _, _, _, _, _, _, _, _, hbq⟩
           have hq1 : Below u2.heap.size u2 y1 := (Below.refl _ _).drew.trans hbq
           clear hbq)
        | (go_at_call 37
           refine (eqLedger_c b (.slice A6 b.bk.rs.length c6) (.slice B6 b.bk.hs.length d6) (.slice D6 b.sn.length e6) vrq vhq vsq fa6 fb6 fc6 faq fbq fcq _ (HJ10.out.below' hq1) hkq).mono ?_
           rintro e u3 ⟨rfl, hbq⟩
           have hq2 : Below u2.heap.size u2 u3 := hq1.trans (hbq.mono hq1.size)
           clear hbq))
    have HE := Lib.hid (HB10.out.trans (hq2.mono HB10.out.size))
    clear hq1 hq2
    go_wp2
    go_ret
    exact ⟨rfl, HE.out⟩

end Go.Proofs.Ytfohlopbfanaeaa
