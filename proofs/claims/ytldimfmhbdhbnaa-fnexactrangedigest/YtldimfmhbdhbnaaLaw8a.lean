/- The laws on RowSum, AddDigest, DigestOf, RangeDigest, DifferAt answer true: the walks; the last three by a maker (pairlaw.py). -/
import Derived.Test.YtldimfmhbdhbnaaSpec8b
import Derived.Test.YtldimfmhbdhbnaaImpl8b
namespace Go.Proofs.Ytldimfmhbdhbnaa
open Go.RowKit

theorem lawAddDigest_c (ask : AskAddDigest) (a : Int) (wa : (Lit.int .i64 a).wf = true) (b : Int) (wb : (Lit.int .i64 b).wf = true) (w : World) :
    Calls Try.prog 9 #[.int .i64 a, .int .i64 b] w fun e w' => e = .returned (.bool true) ∧ Below w.heap.size w w' := by
  generalize hq : adP a b = q
  have Hq := Lib.hid hq; clear hq
  go_enter Try.func9, Try.ntmps9
  go_wp2_with fail
  refine (specAddDigest_c _ _ _).mono ?_
  rintro e w1 ⟨rfl, hb1⟩
  rw [Hq.out]
  go_wp2_with fail
  refine (ask _ _ _ wa wb).mono ?_
  rintro e w2 ⟨rfl, hb2⟩
  rw [Hq.out]
  have hz : w1.heap.size < w2.heap.size := by have := hb2.size; simp at this; omega
  have hc0 : w2.cell? ⟨w1.heap.size, 0, none⟩ = some (.int .i64 q.1) := (hb2.cell (p := ⟨w1.heap.size, 0, none⟩) (by simp)).trans (by simp)
  have hc1 : w2.cell? ⟨w1.heap.size, 1, none⟩ = some (.int .i64 q.2) := (hb2.cell (p := ⟨w1.heap.size, 1, none⟩) (by simp)).trans (by simp)
  go_wp2_with fail
  refine (eqIR_c q _).mono ?_
  rintro e w3 ⟨rfl, hb3⟩
  go_wp2
  go_ret
  refine ⟨rfl, ?_⟩
  have k1 := hb1.size
  have k2 := hb2.size
  simp at k2
  exact hb1.trans ((((Below.refl _ _).alloc k1 _).trans (hb2.mono (by simp; omega))).trans (((Below.refl _ _).alloc (by omega) _).trans (hb3.mono (by simp; omega))))

abbrev qbx (q : Int × Int) : Obj := .cells #[.int .i64 q.1, .int .i64 q.2] 46
abbrev lrb (r : R) : Obj := .cells #[.int .i64 r.1, .int .i64 r.2.1, .int .i64 r.2.2.1, .int .i64 r.2.2.2] 48
set_option maxRecDepth 100000 in
set_option maxHeartbeats 2000000 in
theorem lawRowSum_c (ask : AskRowSum) (r : R) (wr : WfR r) (w : World) :
    Calls Try.prog 4 #[rv r] w fun e w' => e = .returned (.bool true) ∧ Below w.heap.size w w' := by
  generalize hq : rsP r = q
  have Hq := Lib.hid hq; clear hq
  have HN0 := Lib.hid (heap_new w (lrb r) rfl); have H0 := Lib.hid (below_new (w := w) (lrb r)); have HWR := Lib.hid wr
  clear wr
  go_enter Try.func4, Try.ntmps4
  obtain ⟨k0, k1, k2, k3, _, _, _, _, hzk⟩ := four_at HN0.out
  go_wp2_with fail
  generalize w.alloc (lrb r) = W at *
  refine (toRow_c r _).mono ?_
  rintro e w1 ⟨rfl, hb1⟩
  have H1 := Lib.hid (H0.out.trans (hb1.mono H0.out.size)); have HN1 := Lib.hid ((hb1.block _ (heap_lt HN0.out)).trans HN0.out)
  clear hb1 k0 k1 k2 k3 hzk
  go_wp2_with fail
  refine (specRowSum_c r _).mono ?_
  rw [Hq.out]
  rintro e w2 ⟨rfl, hb2⟩
  have H2 := Lib.hid (below_more (H1.out.trans (hb2.mono H1.out.size)) (qbx q)); have HN2 := Lib.hid (heap_old (o' := qbx q) ((hb2.block _ (heap_lt HN1.out)).trans HN1.out))
  have GQ := Lib.hid (heap_new w2 (qbx q) rfl)
  clear hb2
  obtain ⟨k0, k1, k2, k3, _, _, _, _, hzk⟩ := four_at HN2.out
  go_wp2_with fail
  generalize w2.heap.size = gq at *
  generalize w2.alloc (qbx q) = W2 at *
  refine (toRow_c r _).mono ?_
  rintro e w3 ⟨rfl, hb3⟩
  have H3 := Lib.hid (H2.out.trans (hb3.mono H2.out.size)); have GQ3 := Lib.hid ((hb3.block _ (heap_lt GQ.out)).trans GQ.out)
  clear hb3 k0 k1 k2 k3 hzk
  go_wp2_with fail
  refine (ask r _ HWR.out).mono ?_
  rw [Hq.out]
  rintro e w4 ⟨rfl, hb4⟩
  have H4 := Lib.hid (below_more (H3.out.trans (hb4.mono H3.out.size)) (qbx q)); have GQ4 := Lib.hid (heap_old (o' := qbx q) ((hb4.block _ (heap_lt GQ3.out)).trans GQ3.out))
  clear hb4
  obtain ⟨x0, x1, _, _, xz⟩ := two_at GQ4.out
  go_wp2_with fail
  clear x0 x1 xz
  refine (eqIR_c q _).mono ?_
  rintro e w5 ⟨rfl, hb5⟩
  have H5 := Lib.hid (H4.out.trans (hb5.mono H4.out.size))
  clear hb5
  go_wp2
  go_ret
  exact ⟨rfl, H5.out⟩

set_option maxRecDepth 100000 in
set_option maxHeartbeats 4000000 in
theorem lawDigestOf_c (ask : AskDigestOf) (aA : Option Addr) (ac : Nat) (a : List R) (wa : ∀ r ∈ a, WfR r) (w : World) (af : List Nat) (ha : Rd w 4 (.slice aA a.length ac) (rcs a) af) :
    Calls Try.prog 5 #[.slice aA a.length ac] w fun e w' => e = .returned (.bool true) ∧ Below w.heap.size w w' := by
  have hma := ha.len_le
  have hxa : a.length ≤ 9223372036854775807 := by unfold maxLen at hma; omega
  have HRa := Lib.hid ha; have HWa := Lib.hid wa
  clear ha wa
  by_cases hba : (1048576 : Int) < (a.length : Int)
  · have HBa := Lib.hid hba; clear hba
    go_enter Try.func5, Try.ntmps5
    go_wp2_with fail
    refine (szRowS_c aA a.length ac (1048576) _ hxa (by omega) (by omega)).mono ?_
    rw [if_pos HBa.out]
    rintro e w1 ⟨rfl, rfl⟩
    go_wp2
    go_ret
    exact ⟨rfl, Below.refl _ _⟩
  have hsa : a.length ≤ 1048576 := by omega
  have hla : decide ((1048576 : Int) - (a.length : Int) < 0) = false := by simp; omega
  have HBa := Lib.hid hba; clear hba
  generalize hq : dgP a = q
  have Hq := Lib.hid hq; clear hq
  go_enter Try.func5, Try.ntmps5
  go_wp2_with fail
  refine (szRowS_c aA a.length ac (1048576) _ hxa (by omega) (by omega)).mono ?_
  rw [if_neg (show ¬ (1048576 : Int) < (a.length : Int) by have := HBa.out; omega)]
  rintro e w1 ⟨rfl, rfl⟩
  have H0 := Lib.hid (Below.refl w.heap.size w)
  go_wp2_with fail
  refine (toRowS_c aA ac a _ af hsa (HRa.out.below' H0.out)).mono ?_
  rintro e w1_ ⟨saA, sac, saf, rfl, hr1, _, _, hb1⟩
  have H1 := Lib.hid (H0.out.trans (hb1.mono H0.out.size))
  clear hb1
  have Rsa := Lib.hid hr1; clear hr1
  go_wp2_with fail
  refine (specDigestOf_c saA sac a _ saf Rsa.out).mono ?_
  rw [Hq.out]
  rintro e w2_ ⟨rfl, hb2⟩
  have H2 := Lib.hid (H1.out.trans (hb2.mono H1.out.size))
  clear hb2
  have GQ := Lib.hid (heap_new w2_ (.cells #[.int .i64 q.1, .int .i64 q.2] 46) rfl)
  have HX := Lib.hid (below_more H2.out (.cells #[.int .i64 q.1, .int .i64 q.2] 46))
  go_wp2_with fail
  generalize w2_.heap.size = gq at *
  generalize w2_.alloc (.cells #[.int .i64 q.1, .int .i64 q.2] 46) = wq at *
  refine (toRowS_c aA ac a _ af hsa (HRa.out.below' HX.out)).mono ?_
  rintro e w3_ ⟨xaA, xac, xaf, rfl, hr3, _, _, hb3⟩
  have H3 := Lib.hid (HX.out.trans (hb3.mono HX.out.size))
  replace GQ := Lib.hid ((hb3.block _ (heap_lt GQ.out)).trans GQ.out)
  clear hb3
  have Rxa := Lib.hid hr3; clear hr3
  go_wp2_with fail
  refine (ask xaA xac a _ xaf hsa HWa.out  Rxa.out).mono ?_
  rw [Hq.out]
  rintro e w4_ ⟨rfl, hb4⟩
  have H4 := Lib.hid (H3.out.trans (hb4.mono H3.out.size))
  replace GQ := Lib.hid ((hb4.block _ (heap_lt GQ.out)).trans GQ.out)
  replace Rxa := Lib.hid (Rxa.out.below' hb4)
  clear hb4
  replace GQ := Lib.hid (heap_old (o' := (.cells #[.int .i64 q.1, .int .i64 q.2] 46)) GQ.out)
  replace Rxa := Lib.hid (Rxa.out.alloc (.cells #[.int .i64 q.1, .int .i64 q.2] 46))
  have HY := Lib.hid (below_more H4.out (.cells #[.int .i64 q.1, .int .i64 q.2] 46))
  obtain ⟨x0, x1, _, _, xz⟩ := two_at GQ.out
  go_wp2_with fail
  clear x0 x1 xz
  refine (eqIR_c q _).mono ?_
  rintro e w5_ ⟨rfl, hb5⟩
  have H5 := Lib.hid (HY.out.trans (hb5.mono HY.out.size))
  replace Rxa := Lib.hid (Rxa.out.below' hb5)
  clear hb5
  go_wp2_with fail
  refine (toRowS_c aA ac a _ af hsa (HRa.out.below' H5.out)).mono ?_
  rintro e w6_ ⟨yaA, yac, yaf, rfl, hr6, _, _, hb6⟩
  have H6 := Lib.hid (H5.out.trans (hb6.mono H5.out.size))
  replace Rxa := Lib.hid (Rxa.out.below' hb6)
  clear hb6
  have Ry := Lib.hid hr6; clear hr6
  go_wp2_with fail
  refine (eqRowS_c _ _ _ _ a _ xaf yaf Rxa.out Ry.out).mono ?_
  rintro e w7_ ⟨rfl, hb7⟩
  clear Ry
  have H7 := Lib.hid (H6.out.trans (hb7.mono H6.out.size))
  replace Rxa := Lib.hid (Rxa.out.below' hb7)
  clear hb7
  go_wp2
  go_ret
  exact ⟨rfl, H7.out⟩

set_option maxRecDepth 100000 in
set_option maxHeartbeats 4000000 in
theorem lawRangeDigest_c (ask : AskRangeDigest) (aA : Option Addr) (ac : Nat) (a : List R) (wa : ∀ r ∈ a, WfR r) (f : Int) (wf : (Lit.int .i64 f).wf = true) (t : Int) (wt : (Lit.int .i64 t).wf = true) (w : World) (af : List Nat) (ha : Rd w 4 (.slice aA a.length ac) (rcs a) af) :
    Calls Try.prog 6 #[.slice aA a.length ac, .int .i64 f, .int .i64 t] w fun e w' => e = .returned (.bool true) ∧ Below w.heap.size w w' := by
  have hma := ha.len_le
  have hxa : a.length ≤ 9223372036854775807 := by unfold maxLen at hma; omega
  have HRa := Lib.hid ha; have HWa := Lib.hid wa
  clear ha wa
  by_cases hba : (1048576 : Int) < (a.length : Int)
  · have HBa := Lib.hid hba; clear hba
    go_enter Try.func6, Try.ntmps6
    go_wp2_with fail
    refine (szRowS_c aA a.length ac (1048576) _ hxa (by omega) (by omega)).mono ?_
    rw [if_pos HBa.out]
    rintro e w1 ⟨rfl, rfl⟩
    go_wp2
    go_ret
    exact ⟨rfl, Below.refl _ _⟩
  have hsa : a.length ≤ 1048576 := by omega
  have hla : decide ((1048576 : Int) - (a.length : Int) < 0) = false := by simp; omega
  have HBa := Lib.hid hba; clear hba
  generalize hq : rdP a f t = q
  have Hq := Lib.hid hq; clear hq
  go_enter Try.func6, Try.ntmps6
  go_wp2_with fail
  refine (szRowS_c aA a.length ac (1048576) _ hxa (by omega) (by omega)).mono ?_
  rw [if_neg (show ¬ (1048576 : Int) < (a.length : Int) by have := HBa.out; omega)]
  rintro e w1 ⟨rfl, rfl⟩
  have H0 := Lib.hid (Below.refl w.heap.size w)
  go_wp2_with fail
  refine (toRowS_c aA ac a _ af hsa (HRa.out.below' H0.out)).mono ?_
  rintro e w1_ ⟨saA, sac, saf, rfl, hr1, _, _, hb1⟩
  have H1 := Lib.hid (H0.out.trans (hb1.mono H0.out.size))
  clear hb1
  have Rsa := Lib.hid hr1; clear hr1
  go_wp2_with fail
  refine (specRangeDigest_c saA sac a f t _ saf Rsa.out).mono ?_
  rw [Hq.out]
  rintro e w2_ ⟨rfl, hb2⟩
  have H2 := Lib.hid (H1.out.trans (hb2.mono H1.out.size))
  clear hb2
  have GQ := Lib.hid (heap_new w2_ (.cells #[.int .i64 q.1, .int .i64 q.2] 46) rfl)
  have HX := Lib.hid (below_more H2.out (.cells #[.int .i64 q.1, .int .i64 q.2] 46))
  go_wp2_with fail
  generalize w2_.heap.size = gq at *
  generalize w2_.alloc (.cells #[.int .i64 q.1, .int .i64 q.2] 46) = wq at *
  refine (toRowS_c aA ac a _ af hsa (HRa.out.below' HX.out)).mono ?_
  rintro e w3_ ⟨xaA, xac, xaf, rfl, hr3, _, _, hb3⟩
  have H3 := Lib.hid (HX.out.trans (hb3.mono HX.out.size))
  replace GQ := Lib.hid ((hb3.block _ (heap_lt GQ.out)).trans GQ.out)
  clear hb3
  have Rxa := Lib.hid hr3; clear hr3
  go_wp2_with fail
  refine (ask xaA xac a f t _ xaf hsa HWa.out wf wt Rxa.out).mono ?_
  rw [Hq.out]
  rintro e w4_ ⟨rfl, hb4⟩
  have H4 := Lib.hid (H3.out.trans (hb4.mono H3.out.size))
  replace GQ := Lib.hid ((hb4.block _ (heap_lt GQ.out)).trans GQ.out)
  replace Rxa := Lib.hid (Rxa.out.below' hb4)
  clear hb4
  replace GQ := Lib.hid (heap_old (o' := (.cells #[.int .i64 q.1, .int .i64 q.2] 46)) GQ.out)
  replace Rxa := Lib.hid (Rxa.out.alloc (.cells #[.int .i64 q.1, .int .i64 q.2] 46))
  have HY := Lib.hid (below_more H4.out (.cells #[.int .i64 q.1, .int .i64 q.2] 46))
  obtain ⟨x0, x1, _, _, xz⟩ := two_at GQ.out
  go_wp2_with fail
  clear x0 x1 xz
  refine (eqIR_c q _).mono ?_
  rintro e w5_ ⟨rfl, hb5⟩
  have H5 := Lib.hid (HY.out.trans (hb5.mono HY.out.size))
  replace Rxa := Lib.hid (Rxa.out.below' hb5)
  clear hb5
  go_wp2_with fail
  refine (toRowS_c aA ac a _ af hsa (HRa.out.below' H5.out)).mono ?_
  rintro e w6_ ⟨yaA, yac, yaf, rfl, hr6, _, _, hb6⟩
  have H6 := Lib.hid (H5.out.trans (hb6.mono H5.out.size))
  replace Rxa := Lib.hid (Rxa.out.below' hb6)
  clear hb6
  have Ry := Lib.hid hr6; clear hr6
  go_wp2_with fail
  refine (eqRowS_c _ _ _ _ a _ xaf yaf Rxa.out Ry.out).mono ?_
  rintro e w7_ ⟨rfl, hb7⟩
  clear Ry
  have H7 := Lib.hid (H6.out.trans (hb7.mono H6.out.size))
  replace Rxa := Lib.hid (Rxa.out.below' hb7)
  clear hb7
  go_wp2
  go_ret
  exact ⟨rfl, H7.out⟩

set_option maxRecDepth 100000 in
set_option maxHeartbeats 4000000 in
theorem lawDifferAt_c (ask : AskDifferAt) (aA : Option Addr) (ac : Nat) (a : List R) (wa : ∀ r ∈ a, WfR r) (bA : Option Addr) (bc : Nat) (b : List R) (wb : ∀ r ∈ b, WfR r) (w : World) (af bf : List Nat) (ha : Rd w 4 (.slice aA a.length ac) (rcs a) af) (hb : Rd w 4 (.slice bA b.length bc) (rcs b) bf) :
    Calls Try.prog 8 #[.slice aA a.length ac, .slice bA b.length bc] w fun e w' => e = .returned (.bool true) ∧ Below w.heap.size w w' := by
  have hma := ha.len_le
  have hxa : a.length ≤ 9223372036854775807 := by unfold maxLen at hma; omega
  have HRa := Lib.hid ha; have HWa := Lib.hid wa
  clear ha wa
  have hmb := hb.len_le
  have hxb : b.length ≤ 9223372036854775807 := by unfold maxLen at hmb; omega
  have HRb := Lib.hid hb; have HWb := Lib.hid wb
  clear hb wb
  by_cases hba : (1048576 : Int) < (a.length : Int)
  · have HBa := Lib.hid hba; clear hba
    go_enter Try.func8, Try.ntmps8
    go_wp2_with fail
    refine (szRowS_c aA a.length ac (1048576) _ hxa (by omega) (by omega)).mono ?_
    rw [if_pos HBa.out]
    rintro e w1 ⟨rfl, rfl⟩
    go_wp2
    go_ret
    exact ⟨rfl, Below.refl _ _⟩
  have hsa : a.length ≤ 1048576 := by omega
  have hla : decide ((1048576 : Int) - (a.length : Int) < 0) = false := by simp; omega
  have HBa := Lib.hid hba; clear hba
  by_cases hbb : (1048576 - (a.length : Int) : Int) < (b.length : Int)
  · have HBb := Lib.hid hbb; clear hbb
    go_enter Try.func8, Try.ntmps8
    go_wp2_with fail
    refine (szRowS_c aA a.length ac (1048576) _ hxa (by omega) (by omega)).mono ?_
    rw [if_neg (show ¬ (1048576 : Int) < (a.length : Int) by have := HBa.out; omega)]
    rintro e w1 ⟨rfl, rfl⟩
    go_wp2_with fail
    refine (szRowS_c bA b.length bc (1048576 - (a.length : Int)) _ hxb (by omega) (by omega)).mono ?_
    rw [if_pos HBb.out]
    rintro e w1 ⟨rfl, rfl⟩
    go_wp2
    go_ret
    exact ⟨rfl, Below.refl _ _⟩
  have hsb : b.length ≤ 1048576 := by omega
  have hlb : decide ((1048576 - (a.length : Int) : Int) - (b.length : Int) < 0) = false := by simp; omega
  have HBb := Lib.hid hbb; clear hbb
  generalize hq : dfP a b = q
  have Hq := Lib.hid hq; clear hq
  go_enter Try.func8, Try.ntmps8
  go_wp2_with fail
  refine (szRowS_c aA a.length ac (1048576) _ hxa (by omega) (by omega)).mono ?_
  rw [if_neg (show ¬ (1048576 : Int) < (a.length : Int) by have := HBa.out; omega)]
  rintro e w1 ⟨rfl, rfl⟩
  go_wp2_with fail
  refine (szRowS_c bA b.length bc (1048576 - (a.length : Int)) _ hxb (by omega) (by omega)).mono ?_
  rw [if_neg (show ¬ (1048576 - (a.length : Int) : Int) < (b.length : Int) by have := HBb.out; omega)]
  rintro e w1 ⟨rfl, rfl⟩
  have H0 := Lib.hid (Below.refl w.heap.size w)
  go_wp2_with fail
  refine (toRowS_c aA ac a _ af hsa (HRa.out.below' H0.out)).mono ?_
  rintro e w1_ ⟨saA, sac, saf, rfl, hr1, _, _, hb1⟩
  have H1 := Lib.hid (H0.out.trans (hb1.mono H0.out.size))
  clear hb1
  have Rsa := Lib.hid hr1; clear hr1
  go_wp2_with fail
  refine (toRowS_c bA bc b _ bf hsb (HRb.out.below' H1.out)).mono ?_
  rintro e w2_ ⟨sbA, sbc, sbf, rfl, hr2, _, _, hb2⟩
  have H2 := Lib.hid (H1.out.trans (hb2.mono H1.out.size))
  replace Rsa := Lib.hid (Rsa.out.below' hb2)
  clear hb2
  have Rsb := Lib.hid hr2; clear hr2
  go_wp2_with fail
  refine (specDifferAt_c saA sbA sac sbc a b _ saf sbf Rsa.out Rsb.out).mono ?_
  rw [Hq.out]
  rintro e w3_ ⟨rfl, hb3⟩
  have H3 := Lib.hid (H2.out.trans (hb3.mono H2.out.size))
  clear hb3
  have GQ := Lib.hid (heap_new w3_ (.cells #[.int .i64 q.1, .int .i64 q.2] 46) rfl)
  have HX := Lib.hid (below_more H3.out (.cells #[.int .i64 q.1, .int .i64 q.2] 46))
  go_wp2_with fail
  generalize w3_.heap.size = gq at *
  generalize w3_.alloc (.cells #[.int .i64 q.1, .int .i64 q.2] 46) = wq at *
  refine (toRowS_c aA ac a _ af hsa (HRa.out.below' HX.out)).mono ?_
  rintro e w4_ ⟨xaA, xac, xaf, rfl, hr4, _, _, hb4⟩
  have H4 := Lib.hid (HX.out.trans (hb4.mono HX.out.size))
  replace GQ := Lib.hid ((hb4.block _ (heap_lt GQ.out)).trans GQ.out)
  clear hb4
  have Rxa := Lib.hid hr4; clear hr4
  go_wp2_with fail
  refine (toRowS_c bA bc b _ bf hsb (HRb.out.below' H4.out)).mono ?_
  rintro e w5_ ⟨xbA, xbc, xbf, rfl, hr5, _, _, hb5⟩
  have H5 := Lib.hid (H4.out.trans (hb5.mono H4.out.size))
  replace GQ := Lib.hid ((hb5.block _ (heap_lt GQ.out)).trans GQ.out)
  replace Rxa := Lib.hid (Rxa.out.below' hb5)
  clear hb5
  have Rxb := Lib.hid hr5; clear hr5
  go_wp2_with fail
  refine (ask xaA xbA xac xbc a b _ xaf xbf hsa hsb HWa.out HWb.out  Rxa.out Rxb.out).mono ?_
  rw [Hq.out]
  rintro e w6_ ⟨rfl, hb6⟩
  have H6 := Lib.hid (H5.out.trans (hb6.mono H5.out.size))
  replace GQ := Lib.hid ((hb6.block _ (heap_lt GQ.out)).trans GQ.out)
  replace Rxa := Lib.hid (Rxa.out.below' hb6)
  replace Rxb := Lib.hid (Rxb.out.below' hb6)
  clear hb6
  replace GQ := Lib.hid (heap_old (o' := (.cells #[.int .i64 q.1, .int .i64 q.2] 46)) GQ.out)
  replace Rxa := Lib.hid (Rxa.out.alloc (.cells #[.int .i64 q.1, .int .i64 q.2] 46))
  replace Rxb := Lib.hid (Rxb.out.alloc (.cells #[.int .i64 q.1, .int .i64 q.2] 46))
  have HY := Lib.hid (below_more H6.out (.cells #[.int .i64 q.1, .int .i64 q.2] 46))
  obtain ⟨x0, x1, _, _, xz⟩ := two_at GQ.out
  go_wp2_with fail
  clear x0 x1 xz
  refine (eqIR_c q _).mono ?_
  rintro e w7_ ⟨rfl, hb7⟩
  have H7 := Lib.hid (HY.out.trans (hb7.mono HY.out.size))
  replace Rxa := Lib.hid (Rxa.out.below' hb7)
  replace Rxb := Lib.hid (Rxb.out.below' hb7)
  clear hb7
  go_wp2_with fail
  refine (toRowS_c aA ac a _ af hsa (HRa.out.below' H7.out)).mono ?_
  rintro e w8_ ⟨yaA, yac, yaf, rfl, hr8, _, _, hb8⟩
  have H8 := Lib.hid (H7.out.trans (hb8.mono H7.out.size))
  replace Rxa := Lib.hid (Rxa.out.below' hb8)
  replace Rxb := Lib.hid (Rxb.out.below' hb8)
  clear hb8
  have Ry := Lib.hid hr8; clear hr8
  go_wp2_with fail
  refine (eqRowS_c _ _ _ _ a _ xaf yaf Rxa.out Ry.out).mono ?_
  rintro e w9_ ⟨rfl, hb9⟩
  clear Ry
  have H9 := Lib.hid (H8.out.trans (hb9.mono H8.out.size))
  replace Rxa := Lib.hid (Rxa.out.below' hb9)
  replace Rxb := Lib.hid (Rxb.out.below' hb9)
  clear hb9
  go_wp2_with fail
  refine (toRowS_c bA bc b _ bf hsb (HRb.out.below' H9.out)).mono ?_
  rintro e w10_ ⟨ybA, ybc, ybf, rfl, hr10, _, _, hb10⟩
  have H10 := Lib.hid (H9.out.trans (hb10.mono H9.out.size))
  replace Rxa := Lib.hid (Rxa.out.below' hb10)
  replace Rxb := Lib.hid (Rxb.out.below' hb10)
  clear hb10
  have Ry := Lib.hid hr10; clear hr10
  go_wp2_with fail
  refine (eqRowS_c _ _ _ _ b _ xbf ybf Rxb.out Ry.out).mono ?_
  rintro e w11_ ⟨rfl, hb11⟩
  clear Ry
  have H11 := Lib.hid (H10.out.trans (hb11.mono H10.out.size))
  replace Rxa := Lib.hid (Rxa.out.below' hb11)
  replace Rxb := Lib.hid (Rxb.out.below' hb11)
  clear hb11
  go_wp2
  go_ret
  exact ⟨rfl, H11.out⟩
end Go.Proofs.Ytldimfmhbdhbnaa
