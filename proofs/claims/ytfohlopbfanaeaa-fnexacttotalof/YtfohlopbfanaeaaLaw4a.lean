/- The laws on BookFault, FreeOf, HeldOf, TotalOf answer true: the walks, by a maker (onelaw.py). -/
import Derived.Test.YtfohlopbfanaeaaImpl4c
import Derived.Test.YtfohlopbfanaeaaBookK
namespace Go.Proofs.Ytfohlopbfanaeaa
open Go.RowKit

set_option maxRecDepth 100000 in
set_option maxHeartbeats 4000000 in
theorem lawBookFault_c (ask : AskBookFault) (b : Bk) (wn : (Lit.int .i64 b.now).wf = true) (vr vh : Value) (wr : ∀ r ∈ b.rs, WfR r) (wh : ∀ h ∈ b.hs, WfH h) (w : World) (fa fb : List Nat) (hr : BkAt w b vr vh fa fb) :
    Calls Try.prog 3 #[bv b.now vr vh] w fun e w' => e = .returned (.bool true) ∧ Below w.heap.size w w' := by
  by_cases hbig : (1048576 : Int) < bsz b
  · go_enter Try.func3, Try.ntmps3
    go_wp2_with fail
    refine (szBook_c b vr vh fa fb 1048576 _ (hr.alloc _) (by omega) (by omega)).mono ?_
    rw [if_pos (by omega)]
    rintro e w1 ⟨rfl, hb1⟩
    have HB := Lib.hid ((below_new _).trans (hb1.mono (by simp))); clear hb1
    go_wp2
    go_ret
    exact ⟨rfl, HB.out⟩
  · have hs : bsz b ≤ 1048576 := by omega
    generalize hC : bookF b = C
    have HC := Lib.hid hC; clear hC
    have hl0 : decide ((1048576 : Int) - bsz b < 0) = false := by simp; omega
    go_enter Try.func3, Try.ntmps3
    go_wp2_with fail
    refine (szBook_c b vr vh fa fb 1048576 _ (hr.alloc _) (by omega) (by omega)).mono ?_
    rw [if_neg (by omega)]
    rintro e w1 ⟨rfl, hb1⟩
    have hg1 := newest hb1 (by simp)
    obtain ⟨l0, l1, l2, _, _, _, hzl⟩ := three_at hg1
    have HB1 := Lib.hid ((below_new _).trans (hb1.mono (by simp))); have HG1 := Lib.hid hg1
    have hr1 := hr.below' HB1.out
    clear hb1 hg1
    go_wp2_with fail
    refine (toBook_c b vr vh fa fb _ hs hr1).mono ?_
    rintro e w2 ⟨vr2, vh2, fa2, fb2, rfl, hk2, _, _, _, _, _, hb2⟩
    have HG2 := Lib.hid ((hb2.block _ (heap_lt HG1.out)).trans HG1.out)
    have HB2 := Lib.hid (HB1.out.trans (hb2.mono HB1.out.size))
    clear hb2 hr1
    go_wp2_with fail
    refine (specBookFault_k b vr2 vh2 fa2 fb2 _ hk2).mono ?_
    rw [HC.out]
    rintro e w3 ⟨rfl, hb3⟩
    have hg3 := (hb3.block _ (heap_lt HG2.out)).trans HG2.out
    have hb3' := HB2.out.trans (hb3.mono HB2.out.size)
    clear hb3 hk2 HG1 HG2 HB1 HB2 l0 l1 l2 hzl
    have hg4 := hg3
    have hb4 := hb3'
    obtain ⟨l0, l1, l2, _, _, _, hzl⟩ := three_at hg4
    have HG4 := Lib.hid hg4; have HB4 := Lib.hid hb4
    skip
    clear hg3 hg4 hb4 hb3' 
    go_wp2_with fail
    generalize w3 = w4 at *
    refine (toBook_c b vr vh fa fb _ hs (hr.below' HB4.out)).mono ?_
    rintro e w5 ⟨vr5, vh5, fa5, fb5, rfl, hk5, _, _, _, _, _, hb5⟩
    obtain ⟨A5, c5, B5, d5, rfl, rfl⟩ := hk5.form
    have hg5 := (hb5.block _ (heap_lt HG4.out)).trans HG4.out
    have hb5' := HB4.out.trans (hb5.mono HB4.out.size)
    have hg6 := heap_old (o' := .cells #[.int .i64 b.now, (.slice A5 b.rs.length c5), (.slice B5 b.hs.length d5)] 31) hg5
    have hgx := heap_new w5 (.cells #[.int .i64 b.now, (.slice A5 b.rs.length c5), (.slice B5 b.hs.length d5)] 31) rfl
    have hb6 := below_more hb5' (.cells #[.int .i64 b.now, (.slice A5 b.rs.length c5), (.slice B5 b.hs.length d5)] 31)
    have hk6 := hk5.alloc (.cells #[.int .i64 b.now, (.slice A5 b.rs.length c5), (.slice B5 b.hs.length d5)] 31)
    skip
    have HG6 := Lib.hid hg6; have HGX := Lib.hid hgx; have HB6 := Lib.hid hb6; have HK6 := Lib.hid hk6
    clear hb5 hg5 hb5' hg6 hgx hb6 hk6 hk5 l0 l1 l2 hzl
    go_wp2_with fail
    generalize w5.alloc (.cells #[.int .i64 b.now, (.slice A5 b.rs.length c5), (.slice B5 b.hs.length d5)] 31) = w6 at *
    refine (ask b (.slice A5 b.rs.length c5) (.slice B5 b.hs.length d5) fa5 fb5 _ hs wn wr wh HK6.out).mono ?_
    rw [HC.out]
    rintro e w7 ⟨rfl, hb7⟩
    have hg7 := (hb7.block _ (heap_lt HG6.out)).trans HG6.out
    have hgx7 := (hb7.block _ (heap_lt HGX.out)).trans HGX.out
    have hb7' := HB6.out.trans (hb7.mono HB6.out.size)
    have hk7 := HK6.out.below' hb7
    obtain ⟨l0, l1, l2, _, _, _, hzl⟩ := three_at hg7
    obtain ⟨x0, x1, x2, _, _, _, hzx⟩ := three_at hgx7
    have HB9 := Lib.hid hb7'; have HK9 := Lib.hid hk7
    clear hb7 hg7 hgx7 hb7' hk7
    go_wp2_with fail
    generalize w7 = w9 at *
    have hx5 : Hid (w5.heap.size = w5.heap.size) := rfl
    have HRO := Lib.hid (hr.below' HB9.out)
    generalize w5.heap.size = gx at *
    go_region_held3 (fun w' => w'.cell? ⟨w.heap.size, 0, none⟩ = some (.int .i64 b.now) ∧ w'.cell? ⟨w.heap.size, 1, none⟩ = some vr ∧ w'.cell? ⟨w.heap.size, 2, none⟩ = some vh ∧ w'.cell? ⟨gx, 0, none⟩ = some (.int .i64 b.now) ∧ w'.cell? ⟨gx, 1, none⟩ = some (.slice A5 b.rs.length c5) ∧ w'.cell? ⟨gx, 2, none⟩ = some (.slice B5 b.hs.length d5))
      (first
        | go_keep
        | (refine ⟨(Below.cell (w := w9) (p := ⟨w.heap.size, _, none⟩) ?_ hzl).trans l0, (Below.cell (w := w9) (p := ⟨w.heap.size, _, none⟩) ?_ hzl).trans l1, (Below.cell (w := w9) (p := ⟨w.heap.size, _, none⟩) ?_ hzl).trans l2, (Below.cell (w := w9) (p := ⟨gx, _, none⟩) ?_ hzx).trans x0, (Below.cell (w := w9) (p := ⟨gx, _, none⟩) ?_ hzx).trans x1, (Below.cell (w := w9) (p := ⟨gx, _, none⟩) ?_ hzx).trans x2⟩ <;> (first | with_reducible exact hq2 | with_reducible exact hq1)))
      (first
        | (go_at_call 16
           refine (toBook_c b vr vh fa fb _ hs (HRO.out.below' (Below.refl _ _).drew)).mono ?_
           rintro e y1 ⟨vrq, vhq, faq, fbq, rfl, hkq, _, _, _, _, _, hbq⟩
           have hq1 : Below w9.heap.size w9 y1 := (Below.refl _ _).drew.trans hbq
           clear hbq)
        | (go_at_call 18
           refine (eqBook_c b (.slice A5 b.rs.length c5) (.slice B5 b.hs.length d5) vrq vhq fa5 fb5 faq fbq _ (HK9.out.below' hq1) hkq).mono ?_
           rintro e y2 ⟨rfl, hbq⟩
           have hq2 : Below w9.heap.size w9 y2 := hq1.trans (hbq.mono hq1.size)
           clear hbq))
    have HE := Lib.hid (HB9.out.trans (hq2.mono HB9.out.size))
    clear hq1 hq2
    go_wp2
    go_ret
    exact ⟨rfl, HE.out⟩

set_option maxRecDepth 100000 in
set_option maxHeartbeats 4000000 in
theorem lawFreeOf_c (ask : AskFreeOf) (b : Bk) (wn : (Lit.int .i64 b.now).wf = true) (vr vh : Value) (wr : ∀ r ∈ b.rs, WfR r) (wh : ∀ h ∈ b.hs, WfH h) (l : Int) (wl : (Lit.int .i64 l).wf = true) (s : Int) (ws : (Lit.int .i64 s).wf = true) (w : World) (fa fb : List Nat) (hr : BkAt w b vr vh fa fb) :
    Calls Try.prog 4 #[bv b.now vr vh, .int .i64 l, .int .i64 s] w fun e w' => e = .returned (.bool true) ∧ Below w.heap.size w w' := by
  by_cases hbig : (1048576 : Int) < bsz b
  · go_enter Try.func4, Try.ntmps4
    go_wp2_with fail
    refine (szBook_c b vr vh fa fb 1048576 _ (hr.alloc _) (by omega) (by omega)).mono ?_
    rw [if_pos (by omega)]
    rintro e w1 ⟨rfl, hb1⟩
    have HB := Lib.hid ((below_new _).trans (hb1.mono (by simp))); clear hb1
    go_wp2
    go_ret
    exact ⟨rfl, HB.out⟩
  · have hs : bsz b ≤ 1048576 := by omega
    generalize hC : freeP b l s = C
    have HC := Lib.hid hC; clear hC
    have hl0 : decide ((1048576 : Int) - bsz b < 0) = false := by simp; omega
    go_enter Try.func4, Try.ntmps4
    go_wp2_with fail
    refine (szBook_c b vr vh fa fb 1048576 _ (hr.alloc _) (by omega) (by omega)).mono ?_
    rw [if_neg (by omega)]
    rintro e w1 ⟨rfl, hb1⟩
    have hg1 := newest hb1 (by simp)
    obtain ⟨l0, l1, l2, _, _, _, hzl⟩ := three_at hg1
    have HB1 := Lib.hid ((below_new _).trans (hb1.mono (by simp))); have HG1 := Lib.hid hg1
    have hr1 := hr.below' HB1.out
    clear hb1 hg1
    go_wp2_with fail
    refine (toBook_c b vr vh fa fb _ hs hr1).mono ?_
    rintro e w2 ⟨vr2, vh2, fa2, fb2, rfl, hk2, _, _, _, _, _, hb2⟩
    have HG2 := Lib.hid ((hb2.block _ (heap_lt HG1.out)).trans HG1.out)
    have HB2 := Lib.hid (HB1.out.trans (hb2.mono HB1.out.size))
    clear hb2 hr1
    go_wp2_with fail
    refine (specFreeOf_k b vr2 vh2 fa2 fb2 l s _ hk2).mono ?_
    rw [HC.out]
    rintro e w3 ⟨rfl, hb3⟩
    have hg3 := (hb3.block _ (heap_lt HG2.out)).trans HG2.out
    have hb3' := HB2.out.trans (hb3.mono HB2.out.size)
    clear hb3 hk2 HG1 HG2 HB1 HB2 l0 l1 l2 hzl
    have hg4 := heap_old (o' := .cells #[.int .i64 C.1, .int .i64 C.2] 36) hg3
    have hgc := heap_new w3 (.cells #[.int .i64 C.1, .int .i64 C.2] 36) rfl
    have hb4 := below_more hb3' (.cells #[.int .i64 C.1, .int .i64 C.2] 36)
    have HCZ := Lib.hid hb3'.size
    obtain ⟨l0, l1, l2, _, _, _, hzl⟩ := three_at hg4
    have HG4 := Lib.hid hg4; have HB4 := Lib.hid hb4
    have HGC := Lib.hid hgc
    clear hg3 hg4 hb4 hb3' hgc
    go_wp2_with fail
    generalize w3.alloc (.cells #[.int .i64 C.1, .int .i64 C.2] 36) = w4 at *
    refine (toBook_c b vr vh fa fb _ hs (hr.below' HB4.out)).mono ?_
    rintro e w5 ⟨vr5, vh5, fa5, fb5, rfl, hk5, _, _, _, _, _, hb5⟩
    obtain ⟨A5, c5, B5, d5, rfl, rfl⟩ := hk5.form
    have hg5 := (hb5.block _ (heap_lt HG4.out)).trans HG4.out
    have hb5' := HB4.out.trans (hb5.mono HB4.out.size)
    have hg6 := heap_old (o' := .cells #[.int .i64 b.now, (.slice A5 b.rs.length c5), (.slice B5 b.hs.length d5)] 31) hg5
    have hgx := heap_new w5 (.cells #[.int .i64 b.now, (.slice A5 b.rs.length c5), (.slice B5 b.hs.length d5)] 31) rfl
    have hb6 := below_more hb5' (.cells #[.int .i64 b.now, (.slice A5 b.rs.length c5), (.slice B5 b.hs.length d5)] 31)
    have hk6 := hk5.alloc (.cells #[.int .i64 b.now, (.slice A5 b.rs.length c5), (.slice B5 b.hs.length d5)] 31)
    have hgc6 := heap_old (o' := .cells #[.int .i64 b.now, (.slice A5 b.rs.length c5), (.slice B5 b.hs.length d5)] 31) ((hb5.block _ (heap_lt HGC.out)).trans HGC.out)
    have HGC6 := Lib.hid hgc6; clear hgc6
    have HG6 := Lib.hid hg6; have HGX := Lib.hid hgx; have HB6 := Lib.hid hb6; have HK6 := Lib.hid hk6
    clear hb5 hg5 hb5' hg6 hgx hb6 hk6 hk5 l0 l1 l2 hzl
    go_wp2_with fail
    generalize w5.alloc (.cells #[.int .i64 b.now, (.slice A5 b.rs.length c5), (.slice B5 b.hs.length d5)] 31) = w6 at *
    refine (ask b (.slice A5 b.rs.length c5) (.slice B5 b.hs.length d5) fa5 fb5 l s _ hs wn wr wh wl ws HK6.out).mono ?_
    rw [HC.out]
    rintro e w7 ⟨rfl, hb7⟩
    have hg7 := (hb7.block _ (heap_lt HG6.out)).trans HG6.out
    have hgx7 := (hb7.block _ (heap_lt HGX.out)).trans HGX.out
    have hb7' := HB6.out.trans (hb7.mono HB6.out.size)
    have hk7 := HK6.out.below' hb7
    have hgc7 := (hb7.block _ (heap_lt HGC6.out)).trans HGC6.out
    have HG8 := Lib.hid (heap_old (o' := .cells #[.int .i64 C.1, .int .i64 C.2] 36) hg7); have HGX8 := Lib.hid (heap_old (o' := .cells #[.int .i64 C.1, .int .i64 C.2] 36) hgx7); have HB8 := Lib.hid (below_more hb7' (.cells #[.int .i64 C.1, .int .i64 C.2] 36)); have HK8 := Lib.hid (hk7.alloc (.cells #[.int .i64 C.1, .int .i64 C.2] 36))
    obtain ⟨c0, c1, _, _, hzc⟩ := pair_at hgc7
    clear hb7 hg7 hgx7 hb7' hk7 hgc7
    go_wp2_with fail
    generalize w7.alloc (.cells #[.int .i64 C.1, .int .i64 C.2] 36) = w8 at *
    refine (eqIR_c C _).mono ?_
    rintro e w9 ⟨rfl, hb9⟩
    obtain ⟨l0, l1, l2, _, _, _, hzl⟩ := three_at ((hb9.block _ (heap_lt HG8.out)).trans HG8.out)
    obtain ⟨x0, x1, x2, _, _, _, hzx⟩ := three_at ((hb9.block _ (heap_lt HGX8.out)).trans HGX8.out)
    have HB9 := Lib.hid (HB8.out.trans (hb9.mono HB8.out.size)); have HK9 := Lib.hid (HK8.out.below' hb9)
    clear hb9 c0 c1 hzc
    go_wp2_with fail
    have hx5 : Hid (w5.heap.size = w5.heap.size) := rfl
    have HRO := Lib.hid (hr.below' HB9.out)
    generalize w5.heap.size = gx at *
    go_region_held3 (fun w' => w'.cell? ⟨w.heap.size, 0, none⟩ = some (.int .i64 b.now) ∧ w'.cell? ⟨w.heap.size, 1, none⟩ = some vr ∧ w'.cell? ⟨w.heap.size, 2, none⟩ = some vh ∧ w'.cell? ⟨gx, 0, none⟩ = some (.int .i64 b.now) ∧ w'.cell? ⟨gx, 1, none⟩ = some (.slice A5 b.rs.length c5) ∧ w'.cell? ⟨gx, 2, none⟩ = some (.slice B5 b.hs.length d5))
      (first
        | go_keep
        | (refine ⟨(Below.cell (w := w9) (p := ⟨w.heap.size, _, none⟩) ?_ hzl).trans l0, (Below.cell (w := w9) (p := ⟨w.heap.size, _, none⟩) ?_ hzl).trans l1, (Below.cell (w := w9) (p := ⟨w.heap.size, _, none⟩) ?_ hzl).trans l2, (Below.cell (w := w9) (p := ⟨gx, _, none⟩) ?_ hzx).trans x0, (Below.cell (w := w9) (p := ⟨gx, _, none⟩) ?_ hzx).trans x1, (Below.cell (w := w9) (p := ⟨gx, _, none⟩) ?_ hzx).trans x2⟩ <;> (first | with_reducible exact hq2 | with_reducible exact hq1)))
      (first
        | (go_at_call 16
           refine (toBook_c b vr vh fa fb _ hs (HRO.out.below' (Below.refl _ _).drew)).mono ?_
           rintro e y1 ⟨vrq, vhq, faq, fbq, rfl, hkq, _, _, _, _, _, hbq⟩
           have hq1 : Below w9.heap.size w9 y1 := (Below.refl _ _).drew.trans hbq
           clear hbq)
        | (go_at_call 18
           refine (eqBook_c b (.slice A5 b.rs.length c5) (.slice B5 b.hs.length d5) vrq vhq fa5 fb5 faq fbq _ (HK9.out.below' hq1) hkq).mono ?_
           rintro e y2 ⟨rfl, hbq⟩
           have hq2 : Below w9.heap.size w9 y2 := hq1.trans (hbq.mono hq1.size)
           clear hbq))
    have HE := Lib.hid (HB9.out.trans (hq2.mono HB9.out.size))
    clear hq1 hq2
    go_wp2
    go_ret
    exact ⟨rfl, HE.out⟩

set_option maxRecDepth 100000 in
set_option maxHeartbeats 4000000 in
theorem lawHeldOf_c (ask : AskHeldOf) (b : Bk) (wn : (Lit.int .i64 b.now).wf = true) (vr vh : Value) (wr : ∀ r ∈ b.rs, WfR r) (wh : ∀ h ∈ b.hs, WfH h) (l : Int) (wl : (Lit.int .i64 l).wf = true) (s : Int) (ws : (Lit.int .i64 s).wf = true) (w : World) (fa fb : List Nat) (hr : BkAt w b vr vh fa fb) :
    Calls Try.prog 5 #[bv b.now vr vh, .int .i64 l, .int .i64 s] w fun e w' => e = .returned (.bool true) ∧ Below w.heap.size w w' := by
  by_cases hbig : (1048576 : Int) < bsz b
  · go_enter Try.func5, Try.ntmps5
    go_wp2_with fail
    refine (szBook_c b vr vh fa fb 1048576 _ (hr.alloc _) (by omega) (by omega)).mono ?_
    rw [if_pos (by omega)]
    rintro e w1 ⟨rfl, hb1⟩
    have HB := Lib.hid ((below_new _).trans (hb1.mono (by simp))); clear hb1
    go_wp2
    go_ret
    exact ⟨rfl, HB.out⟩
  · have hs : bsz b ≤ 1048576 := by omega
    generalize hC : heldP b l s = C
    have HC := Lib.hid hC; clear hC
    have hl0 : decide ((1048576 : Int) - bsz b < 0) = false := by simp; omega
    go_enter Try.func5, Try.ntmps5
    go_wp2_with fail
    refine (szBook_c b vr vh fa fb 1048576 _ (hr.alloc _) (by omega) (by omega)).mono ?_
    rw [if_neg (by omega)]
    rintro e w1 ⟨rfl, hb1⟩
    have hg1 := newest hb1 (by simp)
    obtain ⟨l0, l1, l2, _, _, _, hzl⟩ := three_at hg1
    have HB1 := Lib.hid ((below_new _).trans (hb1.mono (by simp))); have HG1 := Lib.hid hg1
    have hr1 := hr.below' HB1.out
    clear hb1 hg1
    go_wp2_with fail
    refine (toBook_c b vr vh fa fb _ hs hr1).mono ?_
    rintro e w2 ⟨vr2, vh2, fa2, fb2, rfl, hk2, _, _, _, _, _, hb2⟩
    have HG2 := Lib.hid ((hb2.block _ (heap_lt HG1.out)).trans HG1.out)
    have HB2 := Lib.hid (HB1.out.trans (hb2.mono HB1.out.size))
    clear hb2 hr1
    go_wp2_with fail
    refine (specHeldOf_k b vr2 vh2 fa2 fb2 l s _ hk2).mono ?_
    rw [HC.out]
    rintro e w3 ⟨rfl, hb3⟩
    have hg3 := (hb3.block _ (heap_lt HG2.out)).trans HG2.out
    have hb3' := HB2.out.trans (hb3.mono HB2.out.size)
    clear hb3 hk2 HG1 HG2 HB1 HB2 l0 l1 l2 hzl
    have hg4 := heap_old (o' := .cells #[.int .i64 C.1, .int .i64 C.2] 36) hg3
    have hgc := heap_new w3 (.cells #[.int .i64 C.1, .int .i64 C.2] 36) rfl
    have hb4 := below_more hb3' (.cells #[.int .i64 C.1, .int .i64 C.2] 36)
    have HCZ := Lib.hid hb3'.size
    obtain ⟨l0, l1, l2, _, _, _, hzl⟩ := three_at hg4
    have HG4 := Lib.hid hg4; have HB4 := Lib.hid hb4
    have HGC := Lib.hid hgc
    clear hg3 hg4 hb4 hb3' hgc
    go_wp2_with fail
    generalize w3.alloc (.cells #[.int .i64 C.1, .int .i64 C.2] 36) = w4 at *
    refine (toBook_c b vr vh fa fb _ hs (hr.below' HB4.out)).mono ?_
    rintro e w5 ⟨vr5, vh5, fa5, fb5, rfl, hk5, _, _, _, _, _, hb5⟩
    obtain ⟨A5, c5, B5, d5, rfl, rfl⟩ := hk5.form
    have hg5 := (hb5.block _ (heap_lt HG4.out)).trans HG4.out
    have hb5' := HB4.out.trans (hb5.mono HB4.out.size)
    have hg6 := heap_old (o' := .cells #[.int .i64 b.now, (.slice A5 b.rs.length c5), (.slice B5 b.hs.length d5)] 31) hg5
    have hgx := heap_new w5 (.cells #[.int .i64 b.now, (.slice A5 b.rs.length c5), (.slice B5 b.hs.length d5)] 31) rfl
    have hb6 := below_more hb5' (.cells #[.int .i64 b.now, (.slice A5 b.rs.length c5), (.slice B5 b.hs.length d5)] 31)
    have hk6 := hk5.alloc (.cells #[.int .i64 b.now, (.slice A5 b.rs.length c5), (.slice B5 b.hs.length d5)] 31)
    have hgc6 := heap_old (o' := .cells #[.int .i64 b.now, (.slice A5 b.rs.length c5), (.slice B5 b.hs.length d5)] 31) ((hb5.block _ (heap_lt HGC.out)).trans HGC.out)
    have HGC6 := Lib.hid hgc6; clear hgc6
    have HG6 := Lib.hid hg6; have HGX := Lib.hid hgx; have HB6 := Lib.hid hb6; have HK6 := Lib.hid hk6
    clear hb5 hg5 hb5' hg6 hgx hb6 hk6 hk5 l0 l1 l2 hzl
    go_wp2_with fail
    generalize w5.alloc (.cells #[.int .i64 b.now, (.slice A5 b.rs.length c5), (.slice B5 b.hs.length d5)] 31) = w6 at *
    refine (ask b (.slice A5 b.rs.length c5) (.slice B5 b.hs.length d5) fa5 fb5 l s _ hs wn wr wh wl ws HK6.out).mono ?_
    rw [HC.out]
    rintro e w7 ⟨rfl, hb7⟩
    have hg7 := (hb7.block _ (heap_lt HG6.out)).trans HG6.out
    have hgx7 := (hb7.block _ (heap_lt HGX.out)).trans HGX.out
    have hb7' := HB6.out.trans (hb7.mono HB6.out.size)
    have hk7 := HK6.out.below' hb7
    have hgc7 := (hb7.block _ (heap_lt HGC6.out)).trans HGC6.out
    have HG8 := Lib.hid (heap_old (o' := .cells #[.int .i64 C.1, .int .i64 C.2] 36) hg7); have HGX8 := Lib.hid (heap_old (o' := .cells #[.int .i64 C.1, .int .i64 C.2] 36) hgx7); have HB8 := Lib.hid (below_more hb7' (.cells #[.int .i64 C.1, .int .i64 C.2] 36)); have HK8 := Lib.hid (hk7.alloc (.cells #[.int .i64 C.1, .int .i64 C.2] 36))
    obtain ⟨c0, c1, _, _, hzc⟩ := pair_at hgc7
    clear hb7 hg7 hgx7 hb7' hk7 hgc7
    go_wp2_with fail
    generalize w7.alloc (.cells #[.int .i64 C.1, .int .i64 C.2] 36) = w8 at *
    refine (eqIR_c C _).mono ?_
    rintro e w9 ⟨rfl, hb9⟩
    obtain ⟨l0, l1, l2, _, _, _, hzl⟩ := three_at ((hb9.block _ (heap_lt HG8.out)).trans HG8.out)
    obtain ⟨x0, x1, x2, _, _, _, hzx⟩ := three_at ((hb9.block _ (heap_lt HGX8.out)).trans HGX8.out)
    have HB9 := Lib.hid (HB8.out.trans (hb9.mono HB8.out.size)); have HK9 := Lib.hid (HK8.out.below' hb9)
    clear hb9 c0 c1 hzc
    go_wp2_with fail
    have hx5 : Hid (w5.heap.size = w5.heap.size) := rfl
    have HRO := Lib.hid (hr.below' HB9.out)
    generalize w5.heap.size = gx at *
    go_region_held3 (fun w' => w'.cell? ⟨w.heap.size, 0, none⟩ = some (.int .i64 b.now) ∧ w'.cell? ⟨w.heap.size, 1, none⟩ = some vr ∧ w'.cell? ⟨w.heap.size, 2, none⟩ = some vh ∧ w'.cell? ⟨gx, 0, none⟩ = some (.int .i64 b.now) ∧ w'.cell? ⟨gx, 1, none⟩ = some (.slice A5 b.rs.length c5) ∧ w'.cell? ⟨gx, 2, none⟩ = some (.slice B5 b.hs.length d5))
      (first
        | go_keep
        | (refine ⟨(Below.cell (w := w9) (p := ⟨w.heap.size, _, none⟩) ?_ hzl).trans l0, (Below.cell (w := w9) (p := ⟨w.heap.size, _, none⟩) ?_ hzl).trans l1, (Below.cell (w := w9) (p := ⟨w.heap.size, _, none⟩) ?_ hzl).trans l2, (Below.cell (w := w9) (p := ⟨gx, _, none⟩) ?_ hzx).trans x0, (Below.cell (w := w9) (p := ⟨gx, _, none⟩) ?_ hzx).trans x1, (Below.cell (w := w9) (p := ⟨gx, _, none⟩) ?_ hzx).trans x2⟩ <;> (first | with_reducible exact hq2 | with_reducible exact hq1)))
      (first
        | (go_at_call 16
           refine (toBook_c b vr vh fa fb _ hs (HRO.out.below' (Below.refl _ _).drew)).mono ?_
           rintro e y1 ⟨vrq, vhq, faq, fbq, rfl, hkq, _, _, _, _, _, hbq⟩
           have hq1 : Below w9.heap.size w9 y1 := (Below.refl _ _).drew.trans hbq
           clear hbq)
        | (go_at_call 18
           refine (eqBook_c b (.slice A5 b.rs.length c5) (.slice B5 b.hs.length d5) vrq vhq fa5 fb5 faq fbq _ (HK9.out.below' hq1) hkq).mono ?_
           rintro e y2 ⟨rfl, hbq⟩
           have hq2 : Below w9.heap.size w9 y2 := hq1.trans (hbq.mono hq1.size)
           clear hbq))
    have HE := Lib.hid (HB9.out.trans (hq2.mono HB9.out.size))
    clear hq1 hq2
    go_wp2
    go_ret
    exact ⟨rfl, HE.out⟩

set_option maxRecDepth 100000 in
set_option maxHeartbeats 4000000 in
theorem lawTotalOf_c (ask : AskTotalOf) (b : Bk) (wn : (Lit.int .i64 b.now).wf = true) (vr vh : Value) (wr : ∀ r ∈ b.rs, WfR r) (wh : ∀ h ∈ b.hs, WfH h) (s : Int) (ws : (Lit.int .i64 s).wf = true) (w : World) (fa fb : List Nat) (hr : BkAt w b vr vh fa fb) :
    Calls Try.prog 7 #[bv b.now vr vh, .int .i64 s] w fun e w' => e = .returned (.bool true) ∧ Below w.heap.size w w' := by
  by_cases hbig : (1048576 : Int) < bsz b
  · go_enter Try.func7, Try.ntmps7
    go_wp2_with fail
    refine (szBook_c b vr vh fa fb 1048576 _ (hr.alloc _) (by omega) (by omega)).mono ?_
    rw [if_pos (by omega)]
    rintro e w1 ⟨rfl, hb1⟩
    have HB := Lib.hid ((below_new _).trans (hb1.mono (by simp))); clear hb1
    go_wp2
    go_ret
    exact ⟨rfl, HB.out⟩
  · have hs : bsz b ≤ 1048576 := by omega
    generalize hC : totalP b s = C
    have HC := Lib.hid hC; clear hC
    have hl0 : decide ((1048576 : Int) - bsz b < 0) = false := by simp; omega
    go_enter Try.func7, Try.ntmps7
    go_wp2_with fail
    refine (szBook_c b vr vh fa fb 1048576 _ (hr.alloc _) (by omega) (by omega)).mono ?_
    rw [if_neg (by omega)]
    rintro e w1 ⟨rfl, hb1⟩
    have hg1 := newest hb1 (by simp)
    obtain ⟨l0, l1, l2, _, _, _, hzl⟩ := three_at hg1
    have HB1 := Lib.hid ((below_new _).trans (hb1.mono (by simp))); have HG1 := Lib.hid hg1
    have hr1 := hr.below' HB1.out
    clear hb1 hg1
    go_wp2_with fail
    refine (toBook_c b vr vh fa fb _ hs hr1).mono ?_
    rintro e w2 ⟨vr2, vh2, fa2, fb2, rfl, hk2, _, _, _, _, _, hb2⟩
    have HG2 := Lib.hid ((hb2.block _ (heap_lt HG1.out)).trans HG1.out)
    have HB2 := Lib.hid (HB1.out.trans (hb2.mono HB1.out.size))
    clear hb2 hr1
    go_wp2_with fail
    refine (specTotalOf_k b vr2 vh2 fa2 fb2 s _ hk2).mono ?_
    rw [HC.out]
    rintro e w3 ⟨rfl, hb3⟩
    have hg3 := (hb3.block _ (heap_lt HG2.out)).trans HG2.out
    have hb3' := HB2.out.trans (hb3.mono HB2.out.size)
    clear hb3 hk2 HG1 HG2 HB1 HB2 l0 l1 l2 hzl
    have hg4 := heap_old (o' := .cells #[.int .i64 C.1, .int .i64 C.2] 36) hg3
    have hgc := heap_new w3 (.cells #[.int .i64 C.1, .int .i64 C.2] 36) rfl
    have hb4 := below_more hb3' (.cells #[.int .i64 C.1, .int .i64 C.2] 36)
    have HCZ := Lib.hid hb3'.size
    obtain ⟨l0, l1, l2, _, _, _, hzl⟩ := three_at hg4
    have HG4 := Lib.hid hg4; have HB4 := Lib.hid hb4
    have HGC := Lib.hid hgc
    clear hg3 hg4 hb4 hb3' hgc
    go_wp2_with fail
    generalize w3.alloc (.cells #[.int .i64 C.1, .int .i64 C.2] 36) = w4 at *
    refine (toBook_c b vr vh fa fb _ hs (hr.below' HB4.out)).mono ?_
    rintro e w5 ⟨vr5, vh5, fa5, fb5, rfl, hk5, _, _, _, _, _, hb5⟩
    obtain ⟨A5, c5, B5, d5, rfl, rfl⟩ := hk5.form
    have hg5 := (hb5.block _ (heap_lt HG4.out)).trans HG4.out
    have hb5' := HB4.out.trans (hb5.mono HB4.out.size)
    have hg6 := heap_old (o' := .cells #[.int .i64 b.now, (.slice A5 b.rs.length c5), (.slice B5 b.hs.length d5)] 31) hg5
    have hgx := heap_new w5 (.cells #[.int .i64 b.now, (.slice A5 b.rs.length c5), (.slice B5 b.hs.length d5)] 31) rfl
    have hb6 := below_more hb5' (.cells #[.int .i64 b.now, (.slice A5 b.rs.length c5), (.slice B5 b.hs.length d5)] 31)
    have hk6 := hk5.alloc (.cells #[.int .i64 b.now, (.slice A5 b.rs.length c5), (.slice B5 b.hs.length d5)] 31)
    have hgc6 := heap_old (o' := .cells #[.int .i64 b.now, (.slice A5 b.rs.length c5), (.slice B5 b.hs.length d5)] 31) ((hb5.block _ (heap_lt HGC.out)).trans HGC.out)
    have HGC6 := Lib.hid hgc6; clear hgc6
    have HG6 := Lib.hid hg6; have HGX := Lib.hid hgx; have HB6 := Lib.hid hb6; have HK6 := Lib.hid hk6
    clear hb5 hg5 hb5' hg6 hgx hb6 hk6 hk5 l0 l1 l2 hzl
    go_wp2_with fail
    generalize w5.alloc (.cells #[.int .i64 b.now, (.slice A5 b.rs.length c5), (.slice B5 b.hs.length d5)] 31) = w6 at *
    refine (ask b (.slice A5 b.rs.length c5) (.slice B5 b.hs.length d5) fa5 fb5 s _ hs wn wr wh ws HK6.out).mono ?_
    rw [HC.out]
    rintro e w7 ⟨rfl, hb7⟩
    have hg7 := (hb7.block _ (heap_lt HG6.out)).trans HG6.out
    have hgx7 := (hb7.block _ (heap_lt HGX.out)).trans HGX.out
    have hb7' := HB6.out.trans (hb7.mono HB6.out.size)
    have hk7 := HK6.out.below' hb7
    have hgc7 := (hb7.block _ (heap_lt HGC6.out)).trans HGC6.out
    have HG8 := Lib.hid (heap_old (o' := .cells #[.int .i64 C.1, .int .i64 C.2] 36) hg7); have HGX8 := Lib.hid (heap_old (o' := .cells #[.int .i64 C.1, .int .i64 C.2] 36) hgx7); have HB8 := Lib.hid (below_more hb7' (.cells #[.int .i64 C.1, .int .i64 C.2] 36)); have HK8 := Lib.hid (hk7.alloc (.cells #[.int .i64 C.1, .int .i64 C.2] 36))
    obtain ⟨c0, c1, _, _, hzc⟩ := pair_at hgc7
    clear hb7 hg7 hgx7 hb7' hk7 hgc7
    go_wp2_with fail
    generalize w7.alloc (.cells #[.int .i64 C.1, .int .i64 C.2] 36) = w8 at *
    refine (eqIR_c C _).mono ?_
    rintro e w9 ⟨rfl, hb9⟩
    obtain ⟨l0, l1, l2, _, _, _, hzl⟩ := three_at ((hb9.block _ (heap_lt HG8.out)).trans HG8.out)
    obtain ⟨x0, x1, x2, _, _, _, hzx⟩ := three_at ((hb9.block _ (heap_lt HGX8.out)).trans HGX8.out)
    have HB9 := Lib.hid (HB8.out.trans (hb9.mono HB8.out.size)); have HK9 := Lib.hid (HK8.out.below' hb9)
    clear hb9 c0 c1 hzc
    go_wp2_with fail
    have hx5 : Hid (w5.heap.size = w5.heap.size) := rfl
    have HRO := Lib.hid (hr.below' HB9.out)
    generalize w5.heap.size = gx at *
    go_region_held3 (fun w' => w'.cell? ⟨w.heap.size, 0, none⟩ = some (.int .i64 b.now) ∧ w'.cell? ⟨w.heap.size, 1, none⟩ = some vr ∧ w'.cell? ⟨w.heap.size, 2, none⟩ = some vh ∧ w'.cell? ⟨gx, 0, none⟩ = some (.int .i64 b.now) ∧ w'.cell? ⟨gx, 1, none⟩ = some (.slice A5 b.rs.length c5) ∧ w'.cell? ⟨gx, 2, none⟩ = some (.slice B5 b.hs.length d5))
      (first
        | go_keep
        | (refine ⟨(Below.cell (w := w9) (p := ⟨w.heap.size, _, none⟩) ?_ hzl).trans l0, (Below.cell (w := w9) (p := ⟨w.heap.size, _, none⟩) ?_ hzl).trans l1, (Below.cell (w := w9) (p := ⟨w.heap.size, _, none⟩) ?_ hzl).trans l2, (Below.cell (w := w9) (p := ⟨gx, _, none⟩) ?_ hzx).trans x0, (Below.cell (w := w9) (p := ⟨gx, _, none⟩) ?_ hzx).trans x1, (Below.cell (w := w9) (p := ⟨gx, _, none⟩) ?_ hzx).trans x2⟩ <;> (first | with_reducible exact hq2 | with_reducible exact hq1)))
      (first
        | (go_at_call 16
           refine (toBook_c b vr vh fa fb _ hs (HRO.out.below' (Below.refl _ _).drew)).mono ?_
           rintro e y1 ⟨vrq, vhq, faq, fbq, rfl, hkq, _, _, _, _, _, hbq⟩
           have hq1 : Below w9.heap.size w9 y1 := (Below.refl _ _).drew.trans hbq
           clear hbq)
        | (go_at_call 18
           refine (eqBook_c b (.slice A5 b.rs.length c5) (.slice B5 b.hs.length d5) vrq vhq fa5 fb5 faq fbq _ (HK9.out.below' hq1) hkq).mono ?_
           rintro e y2 ⟨rfl, hbq⟩
           have hq2 : Below w9.heap.size w9 y2 := hq1.trans (hbq.mono hq1.size)
           clear hbq))
    have HE := Lib.hid (HB9.out.trans (hq2.mono HB9.out.size))
    clear hq1 hq2
    go_wp2
    go_ret
    exact ⟨rfl, HE.out⟩

end Go.Proofs.Ytfohlopbfanaeaa
