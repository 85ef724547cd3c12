/- The laws on FindRow and SameRows answer true: the walks. -/
import Derived.Test.YthmmjkpgepffeaaAsk2a
namespace Go.Proofs.Ythmmjkpgepffeaa
open Go.RowKit

set_option maxRecDepth 100000 in
set_option maxHeartbeats 2000000 in
theorem lawFindRow_c (ask : AskFindRow) (a : Option Addr) (cap : Nat) (rs : List R) (wr : ∀ r ∈ rs, WfR r) (l : Int) (wl : (Lit.int .i64 l).wf = true) (s : Int) (ws : (Lit.int .i64 s).wf = true) (w : World) (fp : List Nat) (hr : Rd w 4 (.slice a rs.length cap) (rcs rs) fp) :
    Calls Try.prog 7 #[.slice a rs.length cap, .int .i64 l, .int .i64 s] w fun e w' => e = .returned (.bool true) ∧ Below w.heap.size w w' := by
  have hmax := hr.len_le
  have hmx : rs.length ≤ 9223372036854775807 := by unfold maxLen at hmax; omega
  by_cases hbig : (1048576 : Int) < (rs.length : Int)
  · go_enter Try.func7, Try.ntmps7
    go_wp2_with fail
    refine (szRowS_c a rs.length cap 1048576 _ hmx (by omega) (by omega)).mono ?_
    rw [if_pos hbig]
    rintro e w1 ⟨rfl, rfl⟩
    go_wp2
    go_ret
    exact ⟨rfl, Below.refl _ _⟩
  · have hs : rs.length ≤ 1048576 := by omega
    generalize hC : findC rs l s = C
    generalize hV : findV rs l s = V
    have HC := Lib.hid hC; have HV := Lib.hid hV; clear hC hV
    go_enter Try.func7, Try.ntmps7
    go_wp2_with fail
    refine (szRowS_c a rs.length cap 1048576 _ hmx (by omega) (by omega)).mono ?_
    rw [if_neg (show ¬ (1048576 : Int) < (rs.length : Int) by omega)]
    rintro e w1 ⟨rfl, rfl⟩
    have hl0 : decide ((1048576 : Int) - (rs.length : Int) < 0) = false := by simp; omega
    go_wp2_with fail
    refine (toRowS_c a cap rs _ fp hs hr).mono ?_
    rintro e w1 ⟨A1, c1, fp1, rfl, hr1, hn1, hf1, hb1⟩
    go_wp2_with fail
    refine (specFindRow_c _ _ rs l s _ fp1 hr1).mono ?_
    rw [HC.out, HV.out]
    rintro e w2 ⟨rfl, hb2⟩
    have hb2' : Below w.heap.size w w2 := hb1.trans (hb2.mono hb1.size)
    have g5 := heap_new w2 (.cells #[.int .i64 C, .int .i64 V.1, .int .i64 V.2.1, .int .i64 V.2.2.1, .int .i64 V.2.2.2] 35) rfl
    have G5 := Lib.hid g5; clear g5
    have s2 := hb2'.size
    go_wp2_with fail
    refine (toRowS_c a cap rs _ fp hs ((hr.below' hb2').alloc _)).mono ?_
    rintro e w3 ⟨A3, c3, fp3, rfl, hr3, hn3, hf3, hb3⟩
    have hB3 := But.of_below hb3 []
    go_wp2_with fail
    refine (ask _ _ rs l s _ fp3 hs wr wl ws hr3).mono ?_
    rw [HC.out, HV.out]
    rintro e w4 ⟨rfl, hb4⟩
    have hB4 := hB3.trans (But.of_below hb4 [])
    have g5 := hB4.heap G5.out (by simp)
    have hz5 := heap_lt g5
    have hx0 : w4.cell? ⟨w2.heap.size, 0, none⟩ = some (.int .i64 C) := cell_of_heap g5
    have hx1 : w4.cell? ⟨w2.heap.size, 1, none⟩ = some (.int .i64 V.1) := cell_of_heap g5
    have hx2 : w4.cell? ⟨w2.heap.size, 2, none⟩ = some (.int .i64 V.2.1) := cell_of_heap g5
    have hx3 : w4.cell? ⟨w2.heap.size, 3, none⟩ = some (.int .i64 V.2.2.1) := cell_of_heap g5
    have hx4 : w4.cell? ⟨w2.heap.size, 4, none⟩ = some (.int .i64 V.2.2.2) := cell_of_heap g5
    clear g5
    have hr4 := (hr3.below' hb4).alloc (.cells #[.int .i64 C, .int .i64 V.1, .int .i64 V.2.1, .int .i64 V.2.2.1, .int .i64 V.2.2.2] 35)
    go_wp2_with fail
    refine (eqRowResult_c C V _).mono ?_
    rintro e w5 ⟨rfl, hb5⟩
    have hr5 := hr4.below' hb5
    have hB5 := (hB4.alloc (.cells #[.int .i64 C, .int .i64 V.1, .int .i64 V.2.1, .int .i64 V.2.2.1, .int .i64 V.2.2.2] 35)).trans (But.of_below hb5 [])
    have hw5 : Below w.heap.size w w5 := hb2'.trans (((Below.refl _ _).alloc s2 _).trans (hB5.below (by simp; omega) (From.nil _)))
    clear hx0 hx1 hx2 hx3 hx4
    go_wp2_with fail
    refine (toRowS_c a cap rs _ fp hs (hr.below' hw5)).mono ?_
    rintro e w6 ⟨A6, c6, fp6, rfl, hr6, hn6, hf6, hb6⟩
    have hw6 := hw5.trans (hb6.mono hw5.size)
    go_wp2_with fail
    refine (eqRowS_c _ _ _ _ rs _ fp3 fp6 (hr5.below' hb6) hr6).mono ?_
    rintro e w7 ⟨rfl, hb7⟩
    go_wp2
    go_ret
    exact ⟨rfl, hw6.trans (hb7.mono hw6.size)⟩

set_option maxRecDepth 100000 in
set_option maxHeartbeats 2000000 in
theorem lawSameRows_c (ask : AskSameRows) (a : Option Addr) (ca : Nat) (rs : List R) (wr : ∀ r ∈ rs, WfR r) (b : Option Addr) (cb : Nat) (ts : List R) (wt : ∀ r ∈ ts, WfR r) (w : World) (fp fq : List Nat) (hr : Rd w 4 (.slice a rs.length ca) (rcs rs) fp) (ht : Rd w 4 (.slice b ts.length cb) (rcs ts) fq) :
    Calls Try.prog 12 #[.slice a rs.length ca, .slice b ts.length cb] w fun e w' => e = .returned (.bool true) ∧ Below w.heap.size w w' := by
  have hmax := hr.len_le
  have hmax2 := ht.len_le
  have hmx : rs.length ≤ 9223372036854775807 := by unfold maxLen at hmax; omega
  have hmy : ts.length ≤ 9223372036854775807 := by unfold maxLen at hmax2; omega
  by_cases hbig : (1048576 : Int) < (rs.length : Int)
  · go_enter Try.func12, Try.ntmps12
    go_wp2_with fail
    refine (szRowS_c a rs.length ca 1048576 _ hmx (by omega) (by omega)).mono ?_
    rw [if_pos hbig]
    rintro e w1 ⟨rfl, rfl⟩
    go_wp2
    go_ret
    exact ⟨rfl, Below.refl _ _⟩
  · have hs : rs.length ≤ 1048576 := by omega
    have hl0 : decide ((1048576 : Int) - (rs.length : Int) < 0) = false := by simp; omega
    by_cases hbig2 : (1048576 : Int) - (rs.length : Int) < (ts.length : Int)
    · have HB2 := Lib.hid hbig2; clear hbig2
      go_enter Try.func12, Try.ntmps12
      go_wp2_with fail
      refine (szRowS_c a rs.length ca 1048576 _ hmx (by omega) (by omega)).mono ?_
      rw [if_neg (show ¬ (1048576 : Int) < (rs.length : Int) by omega)]
      rintro e w1 ⟨rfl, rfl⟩
      go_wp2_with fail
      refine (szRowS_c b ts.length cb (1048576 - (rs.length : Int)) _ hmy (by omega) (by omega)).mono ?_
      rw [if_pos HB2.out]
      rintro e w1 ⟨rfl, rfl⟩
      go_wp2
      go_ret
      exact ⟨rfl, Below.refl _ _⟩
    · have hst : ts.length ≤ 1048576 := by omega
      have hl1 : decide ((1048576 : Int) - (rs.length : Int) - (ts.length : Int) < 0) = false := by simp; omega
      have HB2 := Lib.hid hbig2; clear hbig2
      generalize hq : decide (rs = ts) = q
      have Hq := Lib.hid hq; clear hq
      go_enter Try.func12, Try.ntmps12
      go_wp2_with fail
      refine (szRowS_c a rs.length ca 1048576 _ hmx (by omega) (by omega)).mono ?_
      rw [if_neg (show ¬ (1048576 : Int) < (rs.length : Int) by omega)]
      rintro e w1 ⟨rfl, rfl⟩
      go_wp2_with fail
      refine (szRowS_c b ts.length cb (1048576 - (rs.length : Int)) _ hmy (by omega) (by omega)).mono ?_
      rw [if_neg (show ¬ (1048576 : Int) - (rs.length : Int) < (ts.length : Int) by have := HB2.out; omega)]
      rintro e w1 ⟨rfl, rfl⟩
      go_wp2_with fail
      refine (toRowS_c a ca rs _ fp hs hr).mono ?_
      rintro e w1 ⟨A1, c1, fp1, rfl, hr1, hn1, hf1, hb1⟩
      go_wp2_with fail
      refine (toRowS_c b cb ts _ fq hst (ht.below' hb1)).mono ?_
      rintro e w2 ⟨A2, c2, fp2, rfl, hr2, hn2, hf2, hb2⟩
      have h2 := hb1.trans (hb2.mono hb1.size)
      go_wp2_with fail
      refine (specSameRows_c _ _ _ _ rs ts _ fp1 fp2 (hr1.below' hb2) hr2).mono ?_
      rw [Hq.out]
      rintro e w3 ⟨rfl, hb3⟩
      have h3 := h2.trans (hb3.mono h2.size)
      go_wp2_with fail
      refine (toRowS_c a ca rs _ fp hs (hr.below' h3)).mono ?_
      rintro e w4 ⟨A4, c4, fp4, rfl, hr4, hn4, hf4, hb4⟩
      have h4 := h3.trans (hb4.mono h3.size)
      go_wp2_with fail
      refine (toRowS_c b cb ts _ fq hst (ht.below' h4)).mono ?_
      rintro e w5 ⟨A5, c5, fp5, rfl, hr5, hn5, hf5, hb5⟩
      have h5 := h4.trans (hb5.mono h4.size)
      have hr45 := hr4.below' hb5
      go_wp2_with fail
      refine (ask _ _ _ _ rs ts _ fp4 fp5 hs hst wr wt hr45 hr5).mono ?_
      rw [Hq.out]
      rintro e w6 ⟨rfl, hb6⟩
      have h6 := h5.trans (hb6.mono h5.size)
      have hr46 := hr45.below' hb6
      have hr56 := hr5.below' hb6
      go_wp2_with fail
      refine (toRowS_c a ca rs _ fp hs (hr.below' h6)).mono ?_
      rintro e w7 ⟨A7, c7, fp7, rfl, hr7, hn7, hf7, hb7⟩
      have h7 := h6.trans (hb7.mono h6.size)
      go_wp2_with fail
      refine (eqRowS_c _ _ _ _ rs _ fp4 fp7 (hr46.below' hb7) hr7).mono ?_
      rintro e w8 ⟨rfl, hb8⟩
      have h8 := h7.trans (hb8.mono h7.size)
      have hr58 := (hr56.below' hb7).below' hb8
      go_wp2_with fail
      refine (toRowS_c b cb ts _ fq hst (ht.below' h8)).mono ?_
      rintro e w9 ⟨A9, c9, fp9, rfl, hr9, hn9, hf9, hb9⟩
      have h9 := h8.trans (hb9.mono h8.size)
      go_wp2_with fail
      refine (eqRowS_c _ _ _ _ ts _ fp5 fp9 (hr58.below' hb9) hr9).mono ?_
      rintro e w10 ⟨rfl, hb10⟩
      go_wp2
      go_ret
      exact ⟨rfl, h9.trans (hb10.mono h9.size)⟩
end Go.Proofs.Ythmmjkpgepffeaa
