/- The law on SameDigest answers true: the walk. -/
import Derived.Test.YtldimfmhbdhbnaaImpl8c
import Derived.Test.YtldimfmhbdhbnaaPlacesH
import Derived.Test.YtldimfmhbdhbnaaG21
namespace Go.Proofs.Ytldimfmhbdhbnaa
open Go.RowKit

set_option maxRecDepth 100000 in
set_option maxHeartbeats 8000000 in
theorem lawSameDigest_c (ask : AskSameDigest) (b : Pl) (wnb : (Lit.int .i64 b.mark).wf = true) (vfb : Value) (wrb : WfF b.fs) (a : Option Addr) (cap : Nat) (l : List Pt) (wl : WfT l) (w : World) (fpb fl : List Nat) (hr : PlAt w b vfb fpb) (hl : RdP w (.slice a l.length cap) l fl) :
    Calls Try.prog 7 #[plv b.mark vfb, .slice a l.length cap] w fun e w' => e = .returned (.bool true) ∧ Below w.heap.size w w' := by
  have nnb : 0 ≤ plsz b := plsz_nn b
  have nnl : 0 ≤ psz l := psz_nn l
  have HR := Lib.hid hr; have HL := Lib.hid hl; have HWL := Lib.hid wl
  have HB0 := Lib.hid (below_new (w := w) (.cells #[vfb, .int .i64 b.mark] 62))
  have HN0 := Lib.hid (heap_new w (.cells #[vfb, .int .i64 b.mark] 62) rfl)
  clear hr hl wl
  by_cases hbig : (1048576 : Int) < plsz b
  · have HBIG := Lib.hid hbig; clear hbig
    go_enter Try.func7, Try.ntmps7
    obtain ⟨l0, l1, _, _, hzl⟩ := two_at HN0.out
    go_wp2_with fail
    refine (szPlaces_c b vfb fpb 1048576 _ (HR.out.below' HB0.out) (by omega) (by omega)).mono ?_
    rw [if_pos HBIG.out]
    rintro e w1 ⟨rfl, hb1⟩
    have HB := Lib.hid (HB0.out.trans (hb1.mono HB0.out.size)); clear hb1
    go_wp2
    go_ret
    exact ⟨rfl, HB.out⟩
  have hs : plsz b ≤ 1048576 := by omega
  have hl0 : decide ((1048576 : Int) - plsz b < 0) = false := by simp; omega
  have HBIG := Lib.hid hbig; clear hbig
  by_cases hbig2 : (1048576 : Int) - plsz b < psz l
  · have HBIG2 := Lib.hid hbig2; clear hbig2
    go_enter Try.func7, Try.ntmps7
    obtain ⟨l0, l1, _, _, hzl⟩ := two_at HN0.out
    go_wp2_with fail
    refine (szPlaces_c b vfb fpb 1048576 _ (HR.out.below' HB0.out) (by omega) (by omega)).mono ?_
    rw [if_neg (show ¬ (1048576 : Int) < plsz b by have := HBIG.out; omega)]
    rintro e w1 ⟨rfl, hb1⟩
    have HB1 := Lib.hid (HB0.out.trans (hb1.mono HB0.out.size)); clear hb1
    go_wp2_with fail
    refine (szPartS_c a cap l (1048576 - plsz b) _ fl (HL.out.below' HB1.out) (by omega) (by omega)).mono ?_
    rw [if_pos HBIG2.out]
    rintro e w2 ⟨rfl, hb2⟩
    have HB2 := Lib.hid (HB1.out.trans (hb2.mono HB1.out.size)); clear hb2
    go_wp2
    go_ret
    exact ⟨rfl, HB2.out⟩
  have hsl : psz l ≤ 1048576 := by omega
  have hl1 : decide ((1048576 : Int) - plsz b - psz l < 0) = false := by simp; omega
  have HBIG2 := Lib.hid hbig2; clear hbig2
  generalize hq : sdB b l = q
  have Hq := Lib.hid hq; clear hq
  go_enter Try.func7, Try.ntmps7
  obtain ⟨l0, l1, _, _, hzl⟩ := two_at HN0.out
  go_wp2_with fail
  clear l0 l1 hzl
  refine (szPlaces_c b vfb fpb 1048576 _ (HR.out.below' HB0.out) (by omega) (by omega)).mono ?_
  rw [if_neg (show ¬ (1048576 : Int) < plsz b by have := HBIG.out; omega)]
  rintro e w1 ⟨rfl, hb1⟩
  have HB1 := Lib.hid (HB0.out.trans (hb1.mono HB0.out.size)); have HN1 := Lib.hid ((hb1.block _ (heap_lt HN0.out)).trans HN0.out); clear hb1
  go_wp2_with fail
  refine (szPartS_c a cap l (1048576 - plsz b) _ fl (HL.out.below' HB1.out) (by omega) (by omega)).mono ?_
  rw [if_neg (show ¬ (1048576 : Int) - plsz b < psz l by have := HBIG2.out; omega)]
  rintro e w2 ⟨rfl, hb2⟩
  have HB2 := Lib.hid (HB1.out.trans (hb2.mono HB1.out.size)); have HN2 := Lib.hid ((hb2.block _ (heap_lt HN1.out)).trans HN1.out); clear hb2
  obtain ⟨l0, l1, _, _, hzl⟩ := two_at HN2.out
  go_wp2_with fail
  clear l0 l1 hzl
  refine (toPlaces_c b vfb fpb _ hs (HR.out.below' HB2.out)).mono ?_
  rintro e w3 ⟨vf3, fp3, rfl, hk3, _, _, hb3⟩
  have HB3 := Lib.hid (HB2.out.trans (hb3.mono HB2.out.size)); have HN3 := Lib.hid ((hb3.block _ (heap_lt HN2.out)).trans HN2.out); have K3 := Lib.hid hk3
  clear hb3 hk3
  go_wp2_with fail
  refine (toPartS_c a cap l _ fl hsl (HL.out.below' HB3.out)).mono ?_
  rintro e w4 ⟨A4, c4, f4, rfl, hr4, _, _, _, hb4⟩
  have HB4 := Lib.hid (HB3.out.trans (hb4.mono HB3.out.size)); have HN4 := Lib.hid ((hb4.block _ (heap_lt HN3.out)).trans HN3.out); have K4 := Lib.hid (K3.out.below' hb4); have R4 := Lib.hid hr4
  clear hb4 hr4
  go_wp2_with fail
  refine (specSameDigest_c b vf3 A4 c4 l _ fp3 f4 hs hsl K4.out R4.out).mono ?_
  rw [Hq.out]
  rintro e w5 ⟨rfl, hb5⟩
  have HB5 := Lib.hid (HB4.out.trans (hb5.mono HB4.out.size)); have HN5 := Lib.hid ((hb5.block _ (heap_lt HN4.out)).trans HN4.out)
  clear hb5 K3 K4 R4
  obtain ⟨l0, l1, _, _, hzl⟩ := two_at HN5.out
  go_wp2_with fail
  clear l0 l1 hzl
  refine (toPlaces_c b vfb fpb _ hs (HR.out.below' HB5.out)).mono ?_
  rintro e w6 ⟨vf6, fp6, rfl, hk6, _, _, hb6⟩
  obtain ⟨A6, c6, rfl⟩ := hk6.form
  have HB6 := Lib.hid (below_more (HB5.out.trans (hb6.mono HB5.out.size)) (.cells #[.slice A6 b.fs.length c6, .int .i64 b.mark] 29))
  have HN6 := Lib.hid (heap_old (o' := .cells #[.slice A6 b.fs.length c6, .int .i64 b.mark] 29) ((hb6.block _ (heap_lt HN5.out)).trans HN5.out))
  have HG6 := Lib.hid (heap_new w6 (.cells #[.slice A6 b.fs.length c6, .int .i64 b.mark] 29) rfl)
  have K6 := Lib.hid (hk6.alloc (.cells #[.slice A6 b.fs.length c6, .int .i64 b.mark] 29))
  clear hb6 hk6
  go_wp2_with fail
  generalize w6.heap.size = gx at *
  generalize w6.alloc (.cells #[.slice A6 b.fs.length c6, .int .i64 b.mark] 29) = W6 at *
  refine (toPartS_c a cap l _ fl hsl (HL.out.below' HB6.out)).mono ?_
  rintro e w7 ⟨A7, c7, f7, rfl, hr7, _, _, _, hb7⟩
  have HB7 := Lib.hid (HB6.out.trans (hb7.mono HB6.out.size)); have HN7 := Lib.hid ((hb7.block _ (heap_lt HN6.out)).trans HN6.out); have HG7 := Lib.hid ((hb7.block _ (heap_lt HG6.out)).trans HG6.out)
  have K7 := Lib.hid (K6.out.below' hb7); have R7 := Lib.hid hr7
  clear hb7 hr7
  obtain ⟨x0, x1, _, _, hzx⟩ := two_at HG7.out
  go_wp2_with fail
  clear x0 x1 hzx
  refine (ask b (.slice A6 b.fs.length c6) A7 c7 l _ fp6 f7 hs wnb wrb hsl HWL.out K7.out R7.out).mono ?_
  rw [Hq.out]
  rintro e w8 ⟨rfl, hb8⟩
  have HB8 := Lib.hid (HB7.out.trans (hb8.mono HB7.out.size)); have HN8 := Lib.hid ((hb8.block _ (heap_lt HN7.out)).trans HN7.out); have HG8 := Lib.hid ((hb8.block _ (heap_lt HG7.out)).trans HG7.out)
  have K8 := Lib.hid (K7.out.below' hb8); have R8 := Lib.hid (R7.out.below' hb8)
  clear hb8
  have t9 : (q != q) = false := by simp
  go_wp2_with fail
  obtain ⟨l0, l1, _, _, hzl⟩ := two_at HN8.out
  obtain ⟨x0, x1, _, _, hzx⟩ := two_at HG8.out
  have HRO := Lib.hid (HR.out.below' HB8.out)
  go_region_held3 (fun w' => w'.cell? ⟨w.heap.size, 0, none⟩ = some (vfb) ∧ w'.cell? ⟨w.heap.size, 1, none⟩ = some (.int .i64 b.mark) ∧ w'.cell? ⟨gx, 0, none⟩ = some ((.slice A6 b.fs.length c6)) ∧ w'.cell? ⟨gx, 1, none⟩ = some (.int .i64 b.mark))
    (first
      | go_keep
      | (refine ⟨(Below.cell (w := w8) (p := ⟨w.heap.size, _, none⟩) ?_ hzl).trans l0, (Below.cell (w := w8) (p := ⟨w.heap.size, _, none⟩) ?_ hzl).trans l1, (Below.cell (w := w8) (p := ⟨gx, _, none⟩) ?_ hzx).trans x0, (Below.cell (w := w8) (p := ⟨gx, _, none⟩) ?_ hzx).trans x1⟩ <;> (first | with_reducible exact hq2 | with_reducible exact hq1)))
    (first
      | (go_at_call 37
         refine (toPlaces_c b vfb fpb _ hs (HRO.out.below' (Below.refl _ _).drew)).mono ?_
         rintro e y1 ⟨vfq, fpq, rfl, hkq, _, _, hbq⟩
         have hq1 : Below w8.heap.size w8 y1 := (Below.refl _ _).drew.trans hbq
         clear hbq)
      | (go_at_call 40
         refine (eqPlaces_c b (.slice A6 b.fs.length c6) vfq fp6 fpq _ (K8.out.below' hq1) hkq).mono ?_
         rintro e y2 ⟨rfl, hbq⟩
         have hq2 : Below w8.heap.size w8 y2 := hq1.trans (hbq.mono hq1.size)
         clear hbq))
  have HB9 := Lib.hid (HB8.out.trans (hq2.mono HB8.out.size)); have R9 := Lib.hid (R8.out.below' hq2)
  clear hq1 hq2 l0 l1 x0 x1 hzl hzx
  go_wp2_with fail
  refine (toPartS_c a cap l _ fl hsl (HL.out.below' HB9.out)).mono ?_
  rintro e wA ⟨AA, cA, fA, rfl, hrA, _, _, _, hbA⟩
  have HBA := Lib.hid (HB9.out.trans (hbA.mono HB9.out.size)); have RA := Lib.hid hrA; have R9A := Lib.hid (R9.out.below' hbA)
  clear hbA hrA
  go_wp2_with fail
  refine (eqPartS_c _ _ _ _ l _ f7 fA R9A.out RA.out).mono ?_
  rintro e wB ⟨rfl, hbB⟩
  have HBB := Lib.hid (HBA.out.trans (hbB.mono HBA.out.size))
  clear hbB
  go_wp2
  go_ret
  exact ⟨rfl, HBB.out⟩
end Go.Proofs.Ytldimfmhbdhbnaa
