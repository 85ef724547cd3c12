/- The laws on KeyOf, RowFault, RowsFault, FindRow, SameRows answer true: the walks. -/
import Derived.Test.YthmmjkpgepffeaaAsk2a
namespace Go.Proofs.Ythmmjkpgepffeaa
open Go.RowKit

theorem lawKeyOf_c (ask : AskKeyOf) (a : Int) (wa : (Lit.int .i64 a).wf = true) (b : Int) (wb : (Lit.int .i64 b).wf = true) (w : World) :
    Calls Try.prog 9 #[.int .i64 a, .int .i64 b] w fun e w' => e = .returned (.bool true) ∧ Below w.heap.size w w' := by
  generalize hq : keyP a b = q
  have Hq := Lib.hid hq; clear hq
  go_enter Try.func9, Try.ntmps9
  go_wp2_with fail
  refine (specKeyOf_c _ _ _).mono ?_
  rintro e w1 ⟨rfl, hb1⟩
  rw [Hq.out]
  go_wp2_with fail
  refine (ask _ _ _ wa wb).mono ?_
  rintro e w2 ⟨rfl, hb2⟩
  rw [Hq.out]
  have hz : w1.heap.size < w2.heap.size := by have := hb2.size; simp at this; omega
  have hc0 : w2.cell? ⟨w1.heap.size, 0, none⟩ = some (.int .i64 q.1) := (hb2.cell (p := ⟨w1.heap.size, 0, none⟩) (by simp)).trans (by simp)
  have hc1 : w2.cell? ⟨w1.heap.size, 1, none⟩ = some (.int .i64 q.2) := (hb2.cell (p := ⟨w1.heap.size, 1, none⟩) (by simp)).trans (by simp)
  go_wp2_with fail
  refine (eqIR_c q _).mono ?_
  rintro e w3 ⟨rfl, hb3⟩
  go_wp2
  go_ret
  refine ⟨rfl, ?_⟩
  have k1 := hb1.size
  have k2 := hb2.size
  simp at k2
  exact hb1.trans ((((Below.refl _ _).alloc k1 _).trans (hb2.mono (by simp; omega))).trans (((Below.refl _ _).alloc (by omega) _).trans (hb3.mono (by simp; omega))))

set_option maxRecDepth 100000 in
set_option maxHeartbeats 1000000 in
theorem lawRowFault_c (ask : AskRowFault) (r : R) (wr : WfR r) (w : World) :
    Calls Try.prog 5 #[rv r] w fun e w' => e = .returned (.bool true) ∧ Below w.heap.size w w' := by
  generalize hq : rowF r = q
  have Hq := Lib.hid hq; clear hq
  go_enter Try.func5, Try.ntmps5
  go_wp2_with fail
  refine (toRow_c r _).mono ?_
  rintro e w1 ⟨rfl, hb1⟩
  have h1 : Below w.heap.size w w1 := (below_new _).trans (hb1.mono (by simp))
  have hn1 := (hb1.block w.heap.size (by simp)).trans (heap_new w _ rfl)
  have c0 : w1.cell? ⟨w.heap.size, 0, none⟩ = some (.int .i64 r.1) := cell_of_heap hn1
  have c1 : w1.cell? ⟨w.heap.size, 1, none⟩ = some (.int .i64 r.2.1) := cell_of_heap hn1
  have c2 : w1.cell? ⟨w.heap.size, 2, none⟩ = some (.int .i64 r.2.2.1) := cell_of_heap hn1
  have c3 : w1.cell? ⟨w.heap.size, 3, none⟩ = some (.int .i64 r.2.2.2) := cell_of_heap hn1
  have HN1 := Lib.hid hn1; have H1 := Lib.hid h1; clear hn1 h1 hb1
  go_wp2_with fail
  refine (specRowFault_c r _).mono ?_
  rintro e w2 ⟨rfl, hb2⟩
  rw [Hq.out]
  have hn2 := (hb2.block w.heap.size (heap_lt HN1.out)).trans HN1.out
  have h2 := H1.out.trans (hb2.mono H1.out.size)
  clear c0 c1 c2 c3
  have c0 : w2.cell? ⟨w.heap.size, 0, none⟩ = some (.int .i64 r.1) := cell_of_heap hn2
  have c1 : w2.cell? ⟨w.heap.size, 1, none⟩ = some (.int .i64 r.2.1) := cell_of_heap hn2
  have c2 : w2.cell? ⟨w.heap.size, 2, none⟩ = some (.int .i64 r.2.2.1) := cell_of_heap hn2
  have c3 : w2.cell? ⟨w.heap.size, 3, none⟩ = some (.int .i64 r.2.2.2) := cell_of_heap hn2
  have H2 := Lib.hid h2; clear hn2 h2 hb2
  go_wp2_with fail
  refine (toRow_c r _).mono ?_
  rintro e w3 ⟨rfl, hb3⟩
  have H3 := Lib.hid (H2.out.trans (hb3.mono H2.out.size)); clear hb3 c0 c1 c2 c3
  go_wp2_with fail
  refine (ask r _ wr).mono ?_
  rintro e w4 ⟨rfl, hb4⟩
  rw [Hq.out]
  have H4 := Lib.hid (H3.out.trans (hb4.mono H3.out.size)); clear hb4
  go_wp2
  go_ret
  exact ⟨rfl, H4.out⟩

set_option maxRecDepth 100000 in
set_option maxHeartbeats 1000000 in
theorem lawRowsFault_c (ask : AskRowsFault) (a : Option Addr) (cap : Nat) (rs : List R) (wr : ∀ r ∈ rs, WfR r) (w : World) (fp : List Nat) (hr : Rd w 4 (.slice a rs.length cap) (rcs rs) fp) :
    Calls Try.prog 6 #[.slice a rs.length cap] w fun e w' => e = .returned (.bool true) ∧ Below w.heap.size w w' := by
  have hmax := hr.len_le
  have hmx : rs.length ≤ 9223372036854775807 := by unfold maxLen at hmax; omega
  by_cases hbig : (1048576 : Int) < (rs.length : Int)
  · go_enter Try.func6, Try.ntmps6
    go_wp2_with fail
    refine (szRowS_c a rs.length cap 1048576 _ hmx (by omega) (by omega)).mono ?_
    rw [if_pos hbig]
    rintro e w1 ⟨rfl, rfl⟩
    go_wp2
    go_ret
    exact ⟨rfl, Below.refl _ _⟩
  · have hs : rs.length ≤ 1048576 := by omega
    generalize hq : rowsF rs = q
    have Hq := Lib.hid hq; clear hq
    go_enter Try.func6, Try.ntmps6
    go_wp2_with fail
    refine (szRowS_c a rs.length cap 1048576 _ hmx (by omega) (by omega)).mono ?_
    rw [if_neg (show ¬ (1048576 : Int) < (rs.length : Int) by omega)]
    rintro e w1 ⟨rfl, rfl⟩
    have hl0 : decide ((1048576 : Int) - (rs.length : Int) < 0) = false := by simp; omega
    go_wp2_with fail
    refine (toRowS_c a cap rs _ fp hs hr).mono ?_
    rintro e w1 ⟨A1, c1, fp1, rfl, hr1, hn1, hf1, hb1⟩
    go_wp2_with fail
    refine (specRowsFault_c _ _ rs _ fp1 hr1).mono ?_
    rw [Hq.out]
    rintro e w2 ⟨rfl, hb2⟩
    have h2 : Below w.heap.size w w2 := hb1.trans (hb2.mono hb1.size)
    go_wp2_with fail
    refine (toRowS_c a cap rs _ fp hs (hr.below' h2)).mono ?_
    rintro e w3 ⟨A3, c3, fp3, rfl, hr3, hn3, hf3, hb3⟩
    have h3 := h2.trans (hb3.mono h2.size)
    go_wp2_with fail
    refine (ask _ _ rs _ fp3 hs wr hr3).mono ?_
    rw [Hq.out]
    rintro e w4 ⟨rfl, hb4⟩
    have h4 := h3.trans (hb4.mono h3.size)
    have hr4 := hr3.below' hb4
    go_wp2_with fail
    refine (toRowS_c a cap rs _ fp hs (hr.below' h4)).mono ?_
    rintro e w5 ⟨A5, c5, fp5, rfl, hr5, hn5, hf5, hb5⟩
    have h5 := h4.trans (hb5.mono h4.size)
    go_wp2_with fail
    refine (eqRowS_c _ _ _ _ rs _ fp3 fp5 (hr4.below' hb5) hr5).mono ?_
    rintro e w6 ⟨rfl, hb6⟩
    have h6 := h5.trans (hb6.mono h5.size)
    go_wp2
    go_ret
    exact ⟨rfl, h6⟩
end Go.Proofs.Ythmmjkpgepffeaa
