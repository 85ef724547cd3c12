/- The laws on SeenFault and FindSeen answer true: the walks, by a maker (onelaw.py). -/
import Derived.Test.YtfohlopbfanaeaaImpl5a
namespace Go.Proofs.Ytfohlopbfanaeaa
open Go.RowKit

set_option maxRecDepth 100000 in
set_option maxHeartbeats 4000000 in
theorem lawSeenFault_c (ask : AskSeenFault) (a : Option Addr) (cap : Nat) (z : List Sn) (wz : ∀ r ∈ z, WfS r) (w : World) (fp : List Nat) (hr : Rd w 2 (.slice a z.length cap) (ecs sc z) fp) :
    Calls Try.prog 8 #[.slice a z.length cap] w fun e w' => e = .returned (.bool true) ∧ Below w.heap.size w w' := by
  have hmx := hr.len_le
  by_cases hbig : (1048576 : Int) < (z.length : Int)
  · go_enter Try.func8, Try.ntmps8
    go_wp2_with fail
    refine (szSeenS_c a z.length cap 1048576 _ hmx (by omega) (by omega)).mono ?_
    rw [if_pos (by omega)]
    rintro e w1 ⟨rfl, rfl⟩
    go_wp2
    go_ret
    exact ⟨rfl, Below.refl _ _⟩
  · have hs : z.length ≤ 1048576 := by omega
    generalize hC : seenF z = C
    have HC := Lib.hid hC; clear hC
    have hl0 : decide ((1048576 : Int) - (z.length : Int) < 0) = false := by simp; omega
    go_enter Try.func8, Try.ntmps8
    go_wp2_with fail
    refine (szSeenS_c a z.length cap 1048576 _ hmx (by omega) (by omega)).mono ?_
    rw [if_neg (by omega)]
    rintro e w1 ⟨rfl, rfl⟩
    go_wp2_with fail
    refine (toSeenS_c a cap z _ fp hs hr).mono ?_
    rintro e w1 ⟨A1, c1, fp1, rfl, hr1, hn1, hf1, hb1⟩
    go_wp2_with fail
    refine (specSeenFault_c _ _ z _ fp1 hr1).mono ?_
    rw [HC.out]
    rintro e w2 ⟨rfl, hb2⟩
    have hb2' : Below w.heap.size w w2 := hb1.trans (hb2.mono hb1.size)
    have HB2 := Lib.hid hb2'
    clear hb1 hb2 hr1 hn1 hf1 hb2'
    go_wp2_with fail
    generalize w2 = w3 at *
    refine (toSeenS_c a cap z _ fp hs (hr.below' HB2.out)).mono ?_
    rintro e w4 ⟨A4, c4, fp4, rfl, hr4, hn4, hf4, hb4⟩
    skip
    have HB4 := Lib.hid (HB2.out.trans (hb4.mono HB2.out.size))
    clear hb4 hn4 hf4
    go_wp2_with fail
    refine (ask _ _ z _ fp4 hs wz hr4).mono ?_
    rw [HC.out]
    rintro e w5 ⟨rfl, hb5⟩
    skip
    have hr5 := hr4.below' hb5
    have hb5' := HB4.out.trans (hb5.mono HB4.out.size)
    clear hr4 hb5
    have HR7 := Lib.hid hr5; have HB7 := Lib.hid hb5'
    clear hr5 hb5'
    go_wp2_with fail
    refine (toSeenS_c a cap z _ fp hs (hr.below' HB7.out)).mono ?_
    rintro e w8 ⟨A8, c8, fp8, rfl, hr8, hn8, hf8, hb8⟩
    have HR8 := Lib.hid (HR7.out.below' hb8); have HB8 := Lib.hid (HB7.out.trans (hb8.mono HB7.out.size))
    clear hb8 hn8 hf8
    go_wp2_with fail
    refine (eqSeenS_c _ _ _ _ z _ fp4 fp8 HR8.out hr8).mono ?_
    rintro e w9 ⟨rfl, hb9⟩
    have HB9 := Lib.hid (HB8.out.trans (hb9.mono HB8.out.size))
    clear hb9
    go_wp2
    go_ret
    exact ⟨rfl, HB9.out⟩

set_option maxRecDepth 100000 in
set_option maxHeartbeats 4000000 in
theorem lawFindSeen_c (ask : AskFindSeen) (a : Option Addr) (cap : Nat) (z : List Sn) (wz : ∀ r ∈ z, WfS r) (q : Int) (wq : (Lit.int .i64 q).wf = true) (w : World) (fp : List Nat) (hr : Rd w 2 (.slice a z.length cap) (ecs sc z) fp) :
    Calls Try.prog 11 #[.slice a z.length cap, .int .i64 q] w fun e w' => e = .returned (.bool true) ∧ Below w.heap.size w w' := by
  have hmx := hr.len_le
  by_cases hbig : (1048576 : Int) < (z.length : Int)
  · go_enter Try.func11, Try.ntmps11
    go_wp2_with fail
    refine (szSeenS_c a z.length cap 1048576 _ hmx (by omega) (by omega)).mono ?_
    rw [if_pos (by omega)]
    rintro e w1 ⟨rfl, rfl⟩
    go_wp2
    go_ret
    exact ⟨rfl, Below.refl _ _⟩
  · have hs : z.length ≤ 1048576 := by omega
    generalize hC : findS z q = C
    have HC := Lib.hid hC; clear hC
    have hl0 : decide ((1048576 : Int) - (z.length : Int) < 0) = false := by simp; omega
    go_enter Try.func11, Try.ntmps11
    go_wp2_with fail
    refine (szSeenS_c a z.length cap 1048576 _ hmx (by omega) (by omega)).mono ?_
    rw [if_neg (by omega)]
    rintro e w1 ⟨rfl, rfl⟩
    go_wp2_with fail
    refine (toSeenS_c a cap z _ fp hs hr).mono ?_
    rintro e w1 ⟨A1, c1, fp1, rfl, hr1, hn1, hf1, hb1⟩
    go_wp2_with fail
    refine (specFindSeen_c _ _ z q _ fp1 hr1).mono ?_
    rw [HC.out]
    rintro e w2 ⟨rfl, hb2⟩
    have hb2' : Below w.heap.size w w2 := hb1.trans (hb2.mono hb1.size)
    have HGC := Lib.hid (heap_new w2 (.cells #[.int .i64 C.1, .int .i64 C.2] 36) rfl)
    have HB2 := Lib.hid (below_more hb2' (.cells #[.int .i64 C.1, .int .i64 C.2] 36))
    clear hb1 hb2 hr1 hn1 hf1 hb2'
    go_wp2_with fail
    generalize w2.alloc (.cells #[.int .i64 C.1, .int .i64 C.2] 36) = w3 at *
    refine (toSeenS_c a cap z _ fp hs (hr.below' HB2.out)).mono ?_
    rintro e w4 ⟨A4, c4, fp4, rfl, hr4, hn4, hf4, hb4⟩
    have HGC4 := Lib.hid ((hb4.block _ (heap_lt HGC.out)).trans HGC.out)
    have HB4 := Lib.hid (HB2.out.trans (hb4.mono HB2.out.size))
    clear hb4 hn4 hf4
    go_wp2_with fail
    refine (ask _ _ z q _ fp4 hs wz wq hr4).mono ?_
    rw [HC.out]
    rintro e w5 ⟨rfl, hb5⟩
    have hgc5 := (hb5.block _ (heap_lt HGC4.out)).trans HGC4.out
    have hr5 := hr4.below' hb5
    have hb5' := HB4.out.trans (hb5.mono HB4.out.size)
    clear hr4 hb5
    obtain ⟨c0, c1, _, _, hzc⟩ := pair_at5 hgc5
    have HR6 := Lib.hid (hr5.alloc (.cells #[.int .i64 C.1, .int .i64 C.2] 36)); have HB6 := Lib.hid (below_more hb5' (.cells #[.int .i64 C.1, .int .i64 C.2] 36))
    clear hgc5 hr5 hb5'
    go_wp2_with fail
    generalize w5.alloc (.cells #[.int .i64 C.1, .int .i64 C.2] 36) = w6 at *
    refine (eqIR_c C _).mono ?_
    rintro e w7 ⟨rfl, hb7⟩
    have HR7 := Lib.hid (HR6.out.below' hb7); have HB7 := Lib.hid (HB6.out.trans (hb7.mono HB6.out.size))
    clear hb7 c0 c1 hzc
    go_wp2_with fail
    refine (toSeenS_c a cap z _ fp hs (hr.below' HB7.out)).mono ?_
    rintro e w8 ⟨A8, c8, fp8, rfl, hr8, hn8, hf8, hb8⟩
    have HR8 := Lib.hid (HR7.out.below' hb8); have HB8 := Lib.hid (HB7.out.trans (hb8.mono HB7.out.size))
    clear hb8 hn8 hf8
    go_wp2_with fail
    refine (eqSeenS_c _ _ _ _ z _ fp4 fp8 HR8.out hr8).mono ?_
    rintro e w9 ⟨rfl, hb9⟩
    have HB9 := Lib.hid (HB8.out.trans (hb9.mono HB8.out.size))
    clear hb9
    go_wp2
    go_ret
    exact ⟨rfl, HB9.out⟩

end Go.Proofs.Ytfohlopbfanaeaa
