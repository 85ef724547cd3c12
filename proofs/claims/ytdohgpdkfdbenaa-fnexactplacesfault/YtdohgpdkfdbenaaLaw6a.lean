/- The laws on PlacesFault, SamePlaces answer true: the walks, by a maker (exlaw.py). -/
import Derived.Test.YtdohgpdkfdbenaaSame6
import Derived.Test.YtdohgpdkfdbenaaSpec6b
import Derived.Test.YtdohgpdkfdbenaaArgs4
namespace Go.Proofs.Ytdohgpdkfdbenaa
open Go.RowKit
def AskPlacesFault : Prop := ∀ (p : Pl) (vf : Value) (fp : List Nat) (w : World), plsz p ≤ 1048576 → (Lit.int .i64 p.mark).wf = true → WfF p.fs → PlAt w p vf fp →
  Calls Try.prog 20 #[plv p.mark vf] w fun e w' => e = .returned (.int .i64 (placesF p)) ∧ Below w.heap.size w w'
def AskSamePlaces : Prop := ∀ (p q : Pl) (vf vg : Value) (fp fq : List Nat) (w : World), plsz p ≤ 1048576 → plsz q ≤ 1048576 → WfF p.fs → WfF q.fs → PlAt w p vf fp → PlAt w q vg fq →
  Calls Try.prog 40 #[plv p.mark vf, plv q.mark vg] w fun e w' => e = .returned (.bool (decide (p = q))) ∧ Below w.heap.size w w'
theorem implPlacesFault_a : AskPlacesFault := by
  intro p vf fp w hs _ hw h
  obtain ⟨A, c, rfl⟩ := h.form
  exact implPlacesFault_c p.mark A c p.fs w fp hs hw h.f
theorem implSamePlaces_a : AskSamePlaces := fun p q vf vg fp fq w h1 h2 h3 h4 h5 h6 => implSamePlaces_c p q vf vg fp fq w h1 h2 h3 h4 h5 h6
theorem specPlacesFault_k (p : Pl) (vf : Value) (fp : List Nat) (w : World) (h : PlAt w p vf fp) (hs : plsz p ≤ 1048576) :
    Calls Try.prog 18 #[plv p.mark vf] w fun e w' => e = .returned (.int .i64 (placesF p)) ∧ Below w.heap.size w w' := by
  obtain ⟨A, c, rfl⟩ := h.form
  exact specPlacesFault_c p.mark A c p.fs w fp (by unfold plsz at hs; omega) h.f
theorem specSamePlaces_k (p q : Pl) (vf vg : Value) (fp fq : List Nat) (w : World) (ha : PlAt w p vf fp) (hb : PlAt w q vg fq) (_ : plsz p ≤ 1048576) (_ : plsz q ≤ 1048576) :
    Calls Try.prog 39 #[plv p.mark vf, plv q.mark vg] w fun e w' => e = .returned (.bool (decide (p = q))) ∧ Below w.heap.size w w' := specSamePlaces_c p q vf vg fp fq w ha hb

set_option maxRecDepth 100000 in
set_option maxHeartbeats 4000000 in
theorem lawPlacesFault_c (ask : AskPlacesFault) (b : Pl) (wnb : (Lit.int .i64 b.mark).wf = true) (vfb : Value) (wrb : WfF b.fs) (w : World) (fpb : List Nat) (hr : PlAt w b vfb fpb) :
    Calls Try.prog 4 #[plv b.mark vfb] w fun e w' => e = .returned (.bool true) ∧ Below w.heap.size w w' := by
  by_cases hbig : (1048576 : Int) < plsz b
  · go_enter Try.func4, Try.ntmps4
    go_wp2_with fail
    refine (szPlaces_c b vfb fpb 1048576 _ (hr.alloc _) (by omega) (by omega)).mono ?_
    rw [if_pos (by omega)]
    rintro e w1 ⟨rfl, hb1⟩
    have HB := Lib.hid ((below_new _).trans (hb1.mono (by simp))); clear hb1
    go_wp2
    go_ret
    exact ⟨rfl, HB.out⟩
  · have hs : plsz b ≤ 1048576 := by omega
    generalize hC : placesF b = C
    have HC := Lib.hid hC; clear hC
    have hl0 : decide ((1048576 : Int) - plsz b < 0) = false := by simp; omega
    go_enter Try.func4, Try.ntmps4
    go_wp2_with fail
    refine (szPlaces_c b vfb fpb 1048576 _ (hr.alloc _) (by omega) (by omega)).mono ?_
    rw [if_neg (by omega)]
    rintro e w1 ⟨rfl, hb1⟩
    have hg1 := newest hb1 (by simp)
    obtain ⟨l0, l1, _, _, hzl⟩ := two_at hg1
    have HB1 := Lib.hid ((below_new _).trans (hb1.mono (by simp))); have HG1 := Lib.hid hg1
    have hr1 := hr.below' HB1.out
    clear hb1 hg1
    go_wp2_with fail
    refine (toPlaces_c b vfb fpb _ hs hr1).mono ?_
    rintro e w2 ⟨vf2, fp2, rfl, hk2, _, _, hb2⟩
    have HG2 := Lib.hid ((hb2.block _ (heap_lt HG1.out)).trans HG1.out)
    have HB2 := Lib.hid (HB1.out.trans (hb2.mono HB1.out.size))
    clear hb2 hr1
    go_wp2_with fail
    refine (specPlacesFault_k b vf2 fp2 _ hk2 hs).mono ?_
    rw [HC.out]
    rintro e w3 ⟨rfl, hb3⟩
    have hg3 := (hb3.block _ (heap_lt HG2.out)).trans HG2.out
    have hb3' := HB2.out.trans (hb3.mono HB2.out.size)
    clear hb3 hk2 HG1 HG2 HB1 HB2 l0 l1 hzl
    have hg4 := hg3
    have hb4 := hb3'
    obtain ⟨l0, l1, _, _, hzl⟩ := two_at hg4
    have HG4 := Lib.hid hg4; have HB4 := Lib.hid hb4
    skip
    clear hg3 hg4 hb4 hb3' 
    go_wp2_with fail
    generalize w3 = w4 at *
    refine (toPlaces_c b vfb fpb _ hs (hr.below' HB4.out)).mono ?_
    rintro e w5 ⟨vf5, fp5, rfl, hk5, _, _, hb5⟩
    obtain ⟨A5, c5, rfl⟩ := hk5.form
    have hg5 := (hb5.block _ (heap_lt HG4.out)).trans HG4.out
    have hb5' := HB4.out.trans (hb5.mono HB4.out.size)
    have hg6 := heap_old (o' := .cells #[(.slice A5 b.fs.length c5), .int .i64 b.mark] 26) hg5
    have hgx := heap_new w5 (.cells #[(.slice A5 b.fs.length c5), .int .i64 b.mark] 26) rfl
    have hb6 := below_more hb5' (.cells #[(.slice A5 b.fs.length c5), .int .i64 b.mark] 26)
    have hk6 := hk5.alloc (.cells #[(.slice A5 b.fs.length c5), .int .i64 b.mark] 26)
    have HG6 := Lib.hid hg6; have HGX := Lib.hid hgx; have HB6 := Lib.hid hb6; have HK6 := Lib.hid hk6
    clear hb5 hg5 hb5' hg6 hgx hb6 hk6 hk5 l0 l1 hzl
    go_wp2_with fail
    generalize w5.alloc (.cells #[(.slice A5 b.fs.length c5), .int .i64 b.mark] 26) = w6 at *
    refine (ask b (.slice A5 b.fs.length c5) fp5 _ hs wnb wrb HK6.out).mono ?_
    rw [HC.out]
    rintro e w7 ⟨rfl, hb7⟩
    have hg7 := (hb7.block _ (heap_lt HG6.out)).trans HG6.out
    have hgx7 := (hb7.block _ (heap_lt HGX.out)).trans HGX.out
    have hb7' := HB6.out.trans (hb7.mono HB6.out.size)
    have hk7 := HK6.out.below' hb7
    obtain ⟨l0, l1, _, _, hzl⟩ := two_at hg7
    obtain ⟨x0, x1, _, _, hzx⟩ := two_at hgx7
    have HB9 := Lib.hid hb7'; have HK9 := Lib.hid hk7
    clear hb7 hg7 hgx7 hb7' hk7
    go_wp2_with fail
    generalize w7 = w9 at *
    have HRO := Lib.hid (hr.below' HB9.out)
    generalize w5.heap.size = gx at *
    go_region_held3 (fun w' => w'.cell? ⟨w.heap.size, 0, none⟩ = some (vfb) ∧ w'.cell? ⟨w.heap.size, 1, none⟩ = some (.int .i64 b.mark) ∧ w'.cell? ⟨gx, 0, none⟩ = some ((.slice A5 b.fs.length c5)) ∧ w'.cell? ⟨gx, 1, none⟩ = some (.int .i64 b.mark))
      (first
        | go_keep
        | (refine ⟨(Below.cell (w := w9) (p := ⟨w.heap.size, _, none⟩) ?_ hzl).trans l0, (Below.cell (w := w9) (p := ⟨w.heap.size, _, none⟩) ?_ hzl).trans l1, (Below.cell (w := w9) (p := ⟨gx, _, none⟩) ?_ hzx).trans x0, (Below.cell (w := w9) (p := ⟨gx, _, none⟩) ?_ hzx).trans x1⟩ <;> (first | with_reducible exact hq2 | with_reducible exact hq1)))
      (first
        | (go_at_call 19
           refine (toPlaces_c b vfb fpb _ hs (HRO.out.below' (Below.refl _ _).drew)).mono ?_
           rintro e y1 ⟨vfq, fpq, rfl, hkq, _, _, hbq⟩
           have hq1 : Below w9.heap.size w9 y1 := (Below.refl _ _).drew.trans hbq
           clear hbq)
        | (go_at_call 21
           refine (eqPlaces_c b (.slice A5 b.fs.length c5) vfq fp5 fpq _ (HK9.out.below' hq1) hkq).mono ?_
           rintro e y2 ⟨rfl, hbq⟩
           have hq2 : Below w9.heap.size w9 y2 := hq1.trans (hbq.mono hq1.size)
           clear hbq))
    have HE := Lib.hid (HB9.out.trans (hq2.mono HB9.out.size))
    clear hq1 hq2
    go_wp2
    go_ret
    exact ⟨rfl, HE.out⟩

set_option maxRecDepth 100000 in
set_option maxHeartbeats 4000000 in
theorem lawSamePlaces_c (ask : AskSamePlaces) (a : Pl) (wna : (Lit.int .i64 a.mark).wf = true) (vfa : Value) (wra : WfF a.fs) (b : Pl) (wnb : (Lit.int .i64 b.mark).wf = true) (vfb : Value) (wrb : WfF b.fs) (w : World) (fpa fpb : List Nat) (hra : PlAt w a vfa fpa) (hrb : PlAt w b vfb fpb) :
    Calls Try.prog 9 #[plv a.mark vfa, plv b.mark vfb] w fun e w' => e = .returned (.bool true) ∧ Below w.heap.size w w' := by
  have HA := Lib.hid hra; have HB := Lib.hid hrb
  clear hra hrb
  have nna : 0 ≤ plsz a := plsz_nn a
  have nnb : 0 ≤ plsz b := plsz_nn b
  have HBW : Hid (Below w.heap.size w ((w.alloc (.cells #[vfa, .int .i64 a.mark] 42)).alloc (.cells #[vfb, .int .i64 b.mark] 42))) := below_more (below_new _) _
  have G1 : Hid (((w.alloc (.cells #[vfa, .int .i64 a.mark] 42)).alloc (.cells #[vfb, .int .i64 b.mark] 42)).heap[w.heap.size]? = some (.cells #[vfa, .int .i64 a.mark] 42 (0, 0))) := heap_old (heap_new w _ rfl)
  have G2 : Hid (((w.alloc (.cells #[vfa, .int .i64 a.mark] 42)).alloc (.cells #[vfb, .int .i64 b.mark] 42)).heap[w.heap.size + 1]? = some (.cells #[vfb, .int .i64 b.mark] 42 (0, 0))) := heap_new _ _ (by simp)
  generalize hC : decide (a = b) = C
  have HC := Lib.hid hC; clear hC
  by_cases hbig : (1048576 : Int) < plsz a
  · go_enter Try.func9, Try.ntmps9
    go_wp2_with fail
    generalize ((w.alloc (.cells #[vfa, .int .i64 a.mark] 42)).alloc (.cells #[vfb, .int .i64 b.mark] 42)) = W at *
    refine (szPlaces_c a vfa fpa 1048576 _ (HA.out.below' HBW.out) (by omega) (by omega)).mono ?_
    rw [if_pos (by omega)]
    rintro e w1 ⟨rfl, hb1⟩
    have HB1 := Lib.hid (HBW.out.trans (hb1.mono HBW.out.size)); clear hb1
    go_wp2
    go_ret
    exact ⟨rfl, HB1.out⟩
  have hsa : plsz a ≤ 1048576 := by omega
  have hl0 : decide ((1048576 : Int) - plsz a < 0) = false := by simp; omega
  by_cases hbig2 : (1048576 : Int) - plsz a < plsz b
  · have HG2 := Lib.hid hbig2
    go_enter Try.func9, Try.ntmps9
    go_wp2_with fail
    generalize ((w.alloc (.cells #[vfa, .int .i64 a.mark] 42)).alloc (.cells #[vfb, .int .i64 b.mark] 42)) = W at *
    refine (szPlaces_c a vfa fpa 1048576 _ (HA.out.below' HBW.out) (by omega) (by omega)).mono ?_
    rw [if_neg (by omega)]
    rintro e w1 ⟨rfl, hb1⟩
    have HB1 := Lib.hid (HBW.out.trans (hb1.mono HBW.out.size))
    obtain ⟨m0, m1, _, _, hzm⟩ := two_at ((hb1.block _ (heap_lt G2.out)).trans G2.out)
    clear hb1 hbig2
    go_wp2_with fail
    refine (szPlaces_c b vfb fpb (1048576 - plsz a) _ (HB.out.below' HB1.out) (by omega) (by omega)).mono ?_
    rw [if_pos (by have := HG2.out; omega)]
    rintro e w2 ⟨rfl, hb2⟩
    have HB2 := Lib.hid (HB1.out.trans (hb2.mono HB1.out.size)); clear hb2
    go_wp2
    go_ret
    exact ⟨rfl, HB2.out⟩
  have HG2 := Lib.hid hbig2
  have hsb : plsz b ≤ 1048576 := by omega
  have hl1 : decide ((1048576 : Int) - plsz a - plsz b < 0) = false := by simp; omega
  clear hbig hbig2
  go_enter Try.func9, Try.ntmps9
  go_wp2_with fail
  generalize ((w.alloc (.cells #[vfa, .int .i64 a.mark] 42)).alloc (.cells #[vfb, .int .i64 b.mark] 42)) = W at *
  refine (szPlaces_c a vfa fpa 1048576 _ (HA.out.below' HBW.out) (by omega) (by omega)).mono ?_
  rw [if_neg (by omega)]
  rintro e w1 ⟨rfl, hb1⟩
  have HB1 := Lib.hid (HBW.out.trans (hb1.mono HBW.out.size))
  have G11 := Lib.hid ((hb1.block _ (heap_lt G1.out)).trans G1.out)
  have G21 := Lib.hid ((hb1.block _ (heap_lt G2.out)).trans G2.out)
  obtain ⟨m0, m1, _, _, hzm⟩ := two_at G21.out
  clear hb1
  go_wp2_with fail
  refine (szPlaces_c b vfb fpb (1048576 - plsz a) _ (HB.out.below' HB1.out) (by omega) (by omega)).mono ?_
  rw [if_neg (by have := HG2.out; omega)]
  rintro e w2 ⟨rfl, hb2⟩
  have HB2 := Lib.hid (HB1.out.trans (hb2.mono HB1.out.size))
  have G12 := Lib.hid ((hb2.block _ (heap_lt G11.out)).trans G11.out)
  have G22 := Lib.hid ((hb2.block _ (heap_lt G21.out)).trans G21.out)
  clear hb2 m0 m1 hzm
  obtain ⟨l0, l1, _, _, hzl⟩ := two_at G12.out
  obtain ⟨m0, m1, _, _, hzm⟩ := two_at G22.out
  have HA2 := Lib.hid (HA.out.below' HB2.out); have HBB2 := Lib.hid (HB.out.below' HB2.out)
  go_wp2_with fail
  go_region_held3 (fun w' => w'.cell? ⟨w.heap.size, 0, none⟩ = some (vfa) ∧ w'.cell? ⟨w.heap.size, 1, none⟩ = some (.int .i64 a.mark) ∧ w'.cell? ⟨w.heap.size + 1, 0, none⟩ = some (vfb) ∧ w'.cell? ⟨w.heap.size + 1, 1, none⟩ = some (.int .i64 b.mark))
    (first
      | go_keep
      | (refine ⟨(Below.cell (w := w2) (p := ⟨w.heap.size, _, none⟩) ?_ hzl).trans l0, (Below.cell (w := w2) (p := ⟨w.heap.size, _, none⟩) ?_ hzl).trans l1, (Below.cell (w := w2) (p := ⟨w.heap.size + 1, _, none⟩) ?_ hzm).trans m0, (Below.cell (w := w2) (p := ⟨w.heap.size + 1, _, none⟩) ?_ hzm).trans m1⟩ <;> (first | with_reducible exact hq3 | with_reducible exact hq2 | with_reducible exact hq1)))
    (first
      | (go_at_call 19
         ((with_reducible refine (toPlaces_c a vfa fpa _ hsa (HA2.out.below' (Below.refl _ _).drew)).mono ?_)
          rintro e y1 ⟨vfA, fpA, rfl, hkA, _, _, hbq⟩
          have hq1 : Below w2.heap.size w2 y1 := (Below.refl _ _).drew.trans hbq
          clear hbq))
      | (go_at_call 19
         ((with_reducible refine (toPlaces_c b vfb fpb _ hsb (HBB2.out.below' (Below.refl _ _).drew)).mono ?_)
          rintro e y1 ⟨vfB, fpB, rfl, hkB, _, _, hbq⟩
          have hq1 : Below w2.heap.size w2 y1 := (Below.refl _ _).drew.trans hbq
          clear hbq))
      | (go_at_call 19
         ((with_reducible refine (toPlaces_c a vfa fpa _ hsa (HA2.out.below' hq1)).mono ?_)
          rintro e y2 ⟨vfA, fpA, rfl, hkA, _, _, hbq⟩
          have hkB := hkB.below' hbq
          have hq2 : Below w2.heap.size w2 y2 := hq1.trans (hbq.mono hq1.size)
          clear hbq))
      | (go_at_call 19
         ((with_reducible refine (toPlaces_c b vfb fpb _ hsb (HBB2.out.below' hq1)).mono ?_)
          rintro e y2 ⟨vfB, fpB, rfl, hkB, _, _, hbq⟩
          have hkA := hkA.below' hbq
          have hq2 : Below w2.heap.size w2 y2 := hq1.trans (hbq.mono hq1.size)
          clear hbq))
      | (go_at_call 39
         refine (specSamePlaces_k a b vfA vfB fpA fpB _ hkA hkB hsa hsb).mono ?_
         rw [HC.out]
         rintro e y3 ⟨rfl, hbq⟩
         have hq3 : Below w2.heap.size w2 y3 := hq2.trans (hbq.mono hq2.size)
         clear hbq))
  all_goals
    have HB3 := Lib.hid (HB2.out.trans (hq3.mono HB2.out.size))
    have G13 := Lib.hid ((hq3.block _ (heap_lt G12.out)).trans G12.out)
    have G23 := Lib.hid ((hq3.block _ (heap_lt G22.out)).trans G22.out)
    clear hq1 hq2 hq3 l0 l1 m0 m1 hzl hzm
    obtain ⟨l0, l1, _, _, hzl⟩ := two_at G13.out
    go_wp2_with fail
    refine (toPlaces_c a vfa fpa _ hsa (HA.out.below' HB3.out)).mono ?_
    rintro e w5 ⟨vf5, fp5, rfl, hk5, _, _, hb5⟩
    obtain ⟨A5, c5, rfl⟩ := hk5.form
    have G15 := Lib.hid (heap_old (o' := .cells #[(.slice A5 a.fs.length c5), .int .i64 a.mark] 26) ((hb5.block _ (heap_lt G13.out)).trans G13.out))
    have G25 := Lib.hid (heap_old (o' := .cells #[(.slice A5 a.fs.length c5), .int .i64 a.mark] 26) ((hb5.block _ (heap_lt G23.out)).trans G23.out))
    have GX5 := Lib.hid (heap_new w5 (.cells #[(.slice A5 a.fs.length c5), .int .i64 a.mark] 26) rfl)
    have HB5 := Lib.hid (below_more (HB3.out.trans (hb5.mono HB3.out.size)) (.cells #[(.slice A5 a.fs.length c5), .int .i64 a.mark] 26))
    have HK5 := Lib.hid (hk5.alloc (.cells #[(.slice A5 a.fs.length c5), .int .i64 a.mark] 26))
    obtain ⟨m0, m1, _, _, hzm⟩ := two_at G25.out
    clear hb5 hk5 l0 l1 hzl
    go_wp2_with fail
    generalize w5.alloc (.cells #[(.slice A5 a.fs.length c5), .int .i64 a.mark] 26) = w6 at *
    refine (toPlaces_c b vfb fpb _ hsb (HB.out.below' HB5.out)).mono ?_
    rintro e w7 ⟨vf6, fp6, rfl, hk6, _, _, hb6⟩
    obtain ⟨A6, c6, rfl⟩ := hk6.form
    have G17 := Lib.hid (heap_old (o' := .cells #[(.slice A6 b.fs.length c6), .int .i64 b.mark] 26) ((hb6.block _ (heap_lt G15.out)).trans G15.out))
    have G27 := Lib.hid (heap_old (o' := .cells #[(.slice A6 b.fs.length c6), .int .i64 b.mark] 26) ((hb6.block _ (heap_lt G25.out)).trans G25.out))
    have GX7 := Lib.hid (heap_old (o' := .cells #[(.slice A6 b.fs.length c6), .int .i64 b.mark] 26) ((hb6.block _ (heap_lt GX5.out)).trans GX5.out))
    have GY7 := Lib.hid (heap_new w7 (.cells #[(.slice A6 b.fs.length c6), .int .i64 b.mark] 26) rfl)
    have HB7 := Lib.hid (below_more (HB5.out.trans (hb6.mono HB5.out.size)) (.cells #[(.slice A6 b.fs.length c6), .int .i64 b.mark] 26))
    have HK7 := Lib.hid ((HK5.out.below' hb6).alloc (.cells #[(.slice A6 b.fs.length c6), .int .i64 b.mark] 26))
    have HJ7 := Lib.hid (hk6.alloc (.cells #[(.slice A6 b.fs.length c6), .int .i64 b.mark] 26))
    clear hb6 hk6 m0 m1 hzm
    obtain ⟨x0, x1, _, _, hzx⟩ := two_at GX7.out
    obtain ⟨z0, z1, _, _, hzz⟩ := two_at GY7.out
    go_wp2_with fail
    generalize w7.alloc (.cells #[(.slice A6 b.fs.length c6), .int .i64 b.mark] 26) = w8 at *
    refine (ask a b (.slice A5 a.fs.length c5) (.slice A6 b.fs.length c6) fp5 fp6 _ hsa hsb wra wrb HK7.out HJ7.out).mono ?_
    rw [HC.out]
    rintro e w9 ⟨rfl, hb9⟩
    have HB9 := Lib.hid (HB7.out.trans (hb9.mono HB7.out.size))
    have G19 := Lib.hid ((hb9.block _ (heap_lt G17.out)).trans G17.out)
    have G29 := Lib.hid ((hb9.block _ (heap_lt G27.out)).trans G27.out)
    have GX9 := Lib.hid ((hb9.block _ (heap_lt GX7.out)).trans GX7.out)
    have GY9 := Lib.hid ((hb9.block _ (heap_lt GY7.out)).trans GY7.out)
    have HK9 := Lib.hid (HK7.out.below' hb9); have HJ9 := Lib.hid (HJ7.out.below' hb9)
    clear hb9 x0 x1 z0 z1 hzx hzz
    generalize w5.heap.size = gx at *
    generalize w7.heap.size = gy at *
    obtain ⟨l0, l1, _, _, hzl⟩ := two_at G19.out
    obtain ⟨x0, x1, _, _, hzx⟩ := two_at GX9.out
    have HRO := Lib.hid (HA.out.below' HB9.out)
    have t9 : (C != C) = false := by simp
    go_wp2_with fail
    go_region_held3 (fun w' => w'.cell? ⟨w.heap.size, 0, none⟩ = some (vfa) ∧ w'.cell? ⟨w.heap.size, 1, none⟩ = some (.int .i64 a.mark) ∧ w'.cell? ⟨gx, 0, none⟩ = some ((.slice A5 a.fs.length c5)) ∧ w'.cell? ⟨gx, 1, none⟩ = some (.int .i64 a.mark))
      (first
        | go_keep
        | (refine ⟨(Below.cell (w := w9) (p := ⟨w.heap.size, _, none⟩) ?_ hzl).trans l0, (Below.cell (w := w9) (p := ⟨w.heap.size, _, none⟩) ?_ hzl).trans l1, (Below.cell (w := w9) (p := ⟨gx, _, none⟩) ?_ hzx).trans x0, (Below.cell (w := w9) (p := ⟨gx, _, none⟩) ?_ hzx).trans x1⟩ <;> (first | with_reducible exact hq2 | with_reducible exact hq1)))
      (first
        | (go_at_call 19
           refine (toPlaces_c a vfa fpa _ hsa (HRO.out.below' (Below.refl _ _).drew)).mono ?_
           rintro e y1 ⟨vfq, fpq, rfl, hkq, _, _, hbq⟩
           have hq1 : Below w9.heap.size w9 y1 := (Below.refl _ _).drew.trans hbq
           clear hbq)
        | (go_at_call 21
           refine (eqPlaces_c a (.slice A5 a.fs.length c5) vfq fp5 fpq _ (HK9.out.below' hq1) hkq).mono ?_
           rintro e y2 ⟨rfl, hbq⟩
           have hq2 : Below w9.heap.size w9 y2 := hq1.trans (hbq.mono hq1.size)
           clear hbq))
    generalize y2 = u2 at *
    have HB10 := Lib.hid (HB9.out.trans (hq2.mono HB9.out.size))
    have G210 := Lib.hid ((hq2.block _ (heap_lt G29.out)).trans G29.out)
    have GY10 := Lib.hid ((hq2.block _ (heap_lt GY9.out)).trans GY9.out)
    have HJ10 := Lib.hid (HJ9.out.below' hq2)
    clear hq1 hq2 hkq l0 l1 x0 x1 hzl hzx t9
    obtain ⟨m0, m1, _, _, hzm⟩ := two_at G210.out
    obtain ⟨z0, z1, _, _, hzz⟩ := two_at GY10.out
    have HRP := Lib.hid (HB.out.below' HB10.out)
    go_wp2_with fail
    go_region_held3 (fun w' => w'.cell? ⟨w.heap.size + 1, 0, none⟩ = some (vfb) ∧ w'.cell? ⟨w.heap.size + 1, 1, none⟩ = some (.int .i64 b.mark) ∧ w'.cell? ⟨gy, 0, none⟩ = some ((.slice A6 b.fs.length c6)) ∧ w'.cell? ⟨gy, 1, none⟩ = some (.int .i64 b.mark))
      (first
        | go_keep
        | (refine ⟨(Below.cell (w := u2) (p := ⟨w.heap.size + 1, _, none⟩) ?_ hzm).trans m0, (Below.cell (w := u2) (p := ⟨w.heap.size + 1, _, none⟩) ?_ hzm).trans m1, (Below.cell (w := u2) (p := ⟨gy, _, none⟩) ?_ hzz).trans z0, (Below.cell (w := u2) (p := ⟨gy, _, none⟩) ?_ hzz).trans z1⟩ <;> (first | with_reducible exact hq2 | with_reducible exact hq1)))
      (first
        | (go_at_call 19
           refine (toPlaces_c b vfb fpb _ hsb (HRP.out.below' (Below.refl _ _).drew)).mono ?_
           rintro e y1 ⟨vfq, fpq, rfl, hkq, _, _, hbq⟩
           have hq1 : Below u2.heap.size u2 y1 := (Below.refl _ _).drew.trans hbq
           clear hbq)
        | (go_at_call 21
           refine (eqPlaces_c b (.slice A6 b.fs.length c6) vfq fp6 fpq _ (HJ10.out.below' hq1) hkq).mono ?_
           rintro e u3 ⟨rfl, hbq⟩
           have hq2 : Below u2.heap.size u2 u3 := hq1.trans (hbq.mono hq1.size)
           clear hbq))
    have HE := Lib.hid (HB10.out.trans (hq2.mono HB10.out.size))
    clear hq1 hq2
    go_wp2
    go_ret
    exact ⟨rfl, HE.out⟩

end Go.Proofs.Ytdohgpdkfdbenaa
