/- The laws on PlacesFault, SamePlaces answer true: the walks, by a maker (exlaw.py). -/
import Derived.Test.YtoabohllphoioaaSame6
import Derived.Test.YtoabohllphoioaaG12
import Derived.Test.YtoabohllphoioaaArgs4
namespace Go.Proofs.Ytoabohllphoioaa
open Go.RowKit
def AskPlacesFault : Prop := ∀ (p : Pl) (vf : Value) (fp : List Nat) (w : World), plsz p ≤ 1048576 → (Lit.int .i64 p.mark).wf = true → WfF p.fs → PlAt w p vf fp →
  Calls Try.prog 25 #[plv p.mark vf] w fun e w' => e = .returned (.int .i64 (placesF p)) ∧ Below w.heap.size w w'
theorem implPlacesFault_a : AskPlacesFault := by
  intro p vf fp w hs _ hw h
  obtain ⟨A, c, rfl⟩ := h.form
  exact implPlacesFault_c p.mark A c p.fs w fp hs hw h.f
theorem specPlacesFault_k (p : Pl) (vf : Value) (fp : List Nat) (w : World) (h : PlAt w p vf fp) (hs : plsz p ≤ 1048576) :
    Calls Try.prog 23 #[plv p.mark vf] w fun e w' => e = .returned (.int .i64 (placesF p)) ∧ Below w.heap.size w w' := by
  obtain ⟨A, c, rfl⟩ := h.form
  exact specPlacesFault_c p.mark A c p.fs w fp (by unfold plsz at hs; omega) h.f
set_option maxRecDepth 100000 in
set_option maxHeartbeats 4000000 in
theorem lawPlacesFault_c (ask : AskPlacesFault) (b : Pl) (wnb : (Lit.int .i64 b.mark).wf = true) (vfb : Value) (wrb : WfF b.fs) (w : World) (fpb : List Nat) (hr : PlAt w b vfb fpb) :
    Calls Try.prog 4 #[plv b.mark vfb] w fun e w' => e = .returned (.bool true) ∧ Below w.heap.size w w' := by
  by_cases hbig : (1048576 : Int) < plsz b
  · go_enter Try.func4, Try.ntmps4
    go_wp2_with fail
    refine (szPlaces_c b vfb fpb 1048576 _ (hr.alloc _) (by omega) (by omega)).mono ?_
    rw [if_pos (by omega)]
    rintro e w1 ⟨rfl, hb1⟩
    have HB := Lib.hid ((below_new _).trans (hb1.mono (by simp))); clear hb1
    go_wp2
    go_ret
    exact ⟨rfl, HB.out⟩
  · have hs : plsz b ≤ 1048576 := by omega
    generalize hC : placesF b = C
    have HC := Lib.hid hC; clear hC
    have hl0 : decide ((1048576 : Int) - plsz b < 0) = false := by simp; omega
    go_enter Try.func4, Try.ntmps4
    go_wp2_with fail
    refine (szPlaces_c b vfb fpb 1048576 _ (hr.alloc _) (by omega) (by omega)).mono ?_
    rw [if_neg (by omega)]
    rintro e w1 ⟨rfl, hb1⟩
    have hg1 := newest hb1 (by simp)
    obtain ⟨l0, l1, _, _, hzl⟩ := two_at hg1
    have HB1 := Lib.hid ((below_new _).trans (hb1.mono (by simp))); have HG1 := Lib.hid hg1
    have hr1 := hr.below' HB1.out
    clear hb1 hg1
    go_wp2_with fail
    refine (toPlaces_c b vfb fpb _ hs hr1).mono ?_
    rintro e w2 ⟨vf2, fp2, rfl, hk2, _, _, hb2⟩
    have HG2 := Lib.hid ((hb2.block _ (heap_lt HG1.out)).trans HG1.out)
    have HB2 := Lib.hid (HB1.out.trans (hb2.mono HB1.out.size))
    clear hb2 hr1
    go_wp2_with fail
    refine (specPlacesFault_k b vf2 fp2 _ hk2 hs).mono ?_
    rw [HC.out]
    rintro e w3 ⟨rfl, hb3⟩
    have hg3 := (hb3.block _ (heap_lt HG2.out)).trans HG2.out
    have hb3' := HB2.out.trans (hb3.mono HB2.out.size)
    clear hb3 hk2 HG1 HG2 HB1 HB2 l0 l1 hzl
    have hg4 := hg3
    have hb4 := hb3'
    obtain ⟨l0, l1, _, _, hzl⟩ := two_at hg4
    have HG4 := Lib.hid hg4; have HB4 := Lib.hid hb4
    skip
    clear hg3 hg4 hb4 hb3' 
    go_wp2_with fail
    generalize w3 = w4 at *
    refine (toPlaces_c b vfb fpb _ hs (hr.below' HB4.out)).mono ?_
    rintro e w5 ⟨vf5, fp5, rfl, hk5, _, _, hb5⟩
    obtain ⟨A5, c5, rfl⟩ := hk5.form
    have hg5 := (hb5.block _ (heap_lt HG4.out)).trans HG4.out
    have hb5' := HB4.out.trans (hb5.mono HB4.out.size)
    have hg6 := heap_old (o' := .cells #[(.slice A5 b.fs.length c5), .int .i64 b.mark] 26) hg5
    have hgx := heap_new w5 (.cells #[(.slice A5 b.fs.length c5), .int .i64 b.mark] 26) rfl
    have hb6 := below_more hb5' (.cells #[(.slice A5 b.fs.length c5), .int .i64 b.mark] 26)
    have hk6 := hk5.alloc (.cells #[(.slice A5 b.fs.length c5), .int .i64 b.mark] 26)
    have HG6 := Lib.hid hg6; have HGX := Lib.hid hgx; have HB6 := Lib.hid hb6; have HK6 := Lib.hid hk6
    clear hb5 hg5 hb5' hg6 hgx hb6 hk6 hk5 l0 l1 hzl
    go_wp2_with fail
    generalize w5.alloc (.cells #[(.slice A5 b.fs.length c5), .int .i64 b.mark] 26) = w6 at *
    refine (ask b (.slice A5 b.fs.length c5) fp5 _ hs wnb wrb HK6.out).mono ?_
    rw [HC.out]
    rintro e w7 ⟨rfl, hb7⟩
    have hg7 := (hb7.block _ (heap_lt HG6.out)).trans HG6.out
    have hgx7 := (hb7.block _ (heap_lt HGX.out)).trans HGX.out
    have hb7' := HB6.out.trans (hb7.mono HB6.out.size)
    have hk7 := HK6.out.below' hb7
    obtain ⟨l0, l1, _, _, hzl⟩ := two_at hg7
    obtain ⟨x0, x1, _, _, hzx⟩ := two_at hgx7
    have HB9 := Lib.hid hb7'; have HK9 := Lib.hid hk7
    clear hb7 hg7 hgx7 hb7' hk7
    go_wp2_with fail
    generalize w7 = w9 at *
    have HRO := Lib.hid (hr.below' HB9.out)
    generalize w5.heap.size = gx at *
    go_region_held3 (fun w' => w'.cell? ⟨w.heap.size, 0, none⟩ = some (vfb) ∧ w'.cell? ⟨w.heap.size, 1, none⟩ = some (.int .i64 b.mark) ∧ w'.cell? ⟨gx, 0, none⟩ = some ((.slice A5 b.fs.length c5)) ∧ w'.cell? ⟨gx, 1, none⟩ = some (.int .i64 b.mark))
      (first
        | go_keep
        | (refine ⟨(Below.cell (w := w9) (p := ⟨w.heap.size, _, none⟩) ?_ hzl).trans l0, (Below.cell (w := w9) (p := ⟨w.heap.size, _, none⟩) ?_ hzl).trans l1, (Below.cell (w := w9) (p := ⟨gx, _, none⟩) ?_ hzx).trans x0, (Below.cell (w := w9) (p := ⟨gx, _, none⟩) ?_ hzx).trans x1⟩ <;> (first | with_reducible exact hq2 | with_reducible exact hq1)))
      (first
        | (go_at_call 24
           refine (toPlaces_c b vfb fpb _ hs (HRO.out.below' (Below.refl _ _).drew)).mono ?_
           rintro e y1 ⟨vfq, fpq, rfl, hkq, _, _, hbq⟩
           have hq1 : Below w9.heap.size w9 y1 := (Below.refl _ _).drew.trans hbq
           clear hbq)
        | (go_at_call 26
           refine (eqPlaces_c b (.slice A5 b.fs.length c5) vfq fp5 fpq _ (HK9.out.below' hq1) hkq).mono ?_
           rintro e y2 ⟨rfl, hbq⟩
           have hq2 : Below w9.heap.size w9 y2 := hq1.trans (hbq.mono hq1.size)
           clear hbq))
    have HE := Lib.hid (HB9.out.trans (hq2.mono HB9.out.size))
    clear hq1 hq2
    go_wp2
    go_ret
    exact ⟨rfl, HE.out⟩

end Go.Proofs.Ytoabohllphoioaa
