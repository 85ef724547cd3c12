/- The law on LeastMark answers true: the walk. -/
import Derived.Test.YtoabohllphoioaaSpec7b
import Derived.Test.YtoabohllphoioaaImpl7c
namespace Go.Proofs.Ytoabohllphoioaa
open Go.RowKit

set_option maxRecDepth 100000 in
set_option maxHeartbeats 4000000 in
theorem lawLeastMark_c (ask : AskLeastMark) (a : Option Addr) (cap : Nat) (l : List Pt) (wr : WfT l) (w : World) (fp : List Nat) (hr : RdP w (.slice a l.length cap) l fp) :
    Calls Try.prog 14 #[.slice a l.length cap] w fun e w' => e = .returned (.bool true) ∧ Below w.heap.size w w' := by
  have hnn := psz_nn l
  have HR := Lib.hid hr; have HWR := Lib.hid wr
  clear hr wr
  by_cases hbig : (1048576 : Int) < psz l
  · have HBIG := Lib.hid hbig; clear hbig
    go_enter Try.func14, Try.ntmps14
    go_wp2_with fail
    refine (szPartS_c a cap l 1048576 _ fp HR.out (by omega) (by omega)).mono ?_
    rw [if_pos HBIG.out]
    rintro e w1 ⟨rfl, hb1⟩
    have HB := Lib.hid hb1; clear hb1
    go_wp2
    go_ret
    exact ⟨rfl, HB.out⟩
  · have hs : psz l ≤ 1048576 := by omega
    have hl0 : decide ((1048576 : Int) - psz l < 0) = false := by simp; omega
    have HBIG := Lib.hid hbig; clear hbig
    have HS := Lib.hid hs; clear hs
    generalize hq : lmP l = q
    have Hq := Lib.hid hq; clear hq
    go_enter Try.func14, Try.ntmps14
    go_wp2_with fail
    refine (szPartS_c a cap l 1048576 _ fp HR.out (by omega) (by omega)).mono ?_
    rw [if_neg (show ¬ (1048576 : Int) < psz l by have := HBIG.out; omega)]
    rintro e w1 ⟨rfl, hb1⟩
    have H1 := Lib.hid hb1; clear hb1
    go_wp2_with fail
    refine (toPartS_c a cap l _ fp HS.out (HR.out.below' H1.out)).mono ?_
    rintro e w2 ⟨A2, c2, f2, rfl, hr2, hn2, hf2, hd2, hb2⟩
    have H2 := Lib.hid (H1.out.trans (hb2.mono H1.out.size)); have R2 := Lib.hid hr2
    clear hr2 hn2 hf2 hd2 hb2
    go_wp2_with fail
    refine (specLeastMark_c A2 c2 l _ f2 (by have := HS.out; omega) R2.out).mono ?_
    rw [Hq.out]
    rintro e w3 ⟨rfl, hb3⟩
    have H3 := Lib.hid (H2.out.trans (hb3.mono H2.out.size))
    clear hb3 R2
    have GQ := Lib.hid (heap_new w3 (.cells #[.int .i64 q.1, .int .i64 q.2] 36) rfl)
    have H3b := Lib.hid (below_more H3.out (.cells #[.int .i64 q.1, .int .i64 q.2] 36))
    go_wp2_with fail
    generalize w3.heap.size = gq at *
    generalize w3.alloc (.cells #[.int .i64 q.1, .int .i64 q.2] 36) = w3b at *
    refine (toPartS_c a cap l _ fp HS.out (HR.out.below' H3b.out)).mono ?_
    rintro e w4 ⟨A4, c4, f4, rfl, hr4, hn4, hf4, hd4, hb4⟩
    have H4 := Lib.hid (H3b.out.trans (hb4.mono H3b.out.size)); have R4 := Lib.hid hr4
    replace GQ := Lib.hid ((hb4.block _ (heap_lt GQ.out)).trans GQ.out)
    clear hr4 hn4 hf4 hd4 hb4
    go_wp2_with fail
    refine (ask A4 c4 l _ f4 HS.out HWR.out R4.out).mono ?_
    rw [Hq.out]
    rintro e w5 ⟨rfl, hb5⟩
    have H5 := Lib.hid (H4.out.trans (hb5.mono H4.out.size)); have R5 := Lib.hid (R4.out.below' hb5)
    replace GQ := Lib.hid ((hb5.block _ (heap_lt GQ.out)).trans GQ.out)
    replace GQ := Lib.hid (heap_old (o' := (.cells #[.int .i64 q.1, .int .i64 q.2] 36)) GQ.out)
    have H5b := Lib.hid (below_more H5.out (.cells #[.int .i64 q.1, .int .i64 q.2] 36)); have R5b := Lib.hid (R5.out.alloc (.cells #[.int .i64 q.1, .int .i64 q.2] 36))
    obtain ⟨x0, x1, _, _, xz⟩ := two_at GQ.out
    clear hb5
    go_wp2_with fail
    clear x0 x1 xz
    refine (eqIR_c q _).mono ?_
    rintro e w6 ⟨rfl, hb6⟩
    have H6 := Lib.hid (H5b.out.trans (hb6.mono H5b.out.size)); have R6 := Lib.hid (R5b.out.below' hb6)
    clear hb6
    go_wp2_with fail
    refine (toPartS_c a cap l _ fp HS.out (HR.out.below' H6.out)).mono ?_
    rintro e w7 ⟨A7, c7, f7, rfl, hr7, hn7, hf7, hd7, hb7⟩
    have H7 := Lib.hid (H6.out.trans (hb7.mono H6.out.size)); have R7 := Lib.hid hr7; have R67 := Lib.hid (R6.out.below' hb7)
    clear hr7 hn7 hf7 hd7 hb7
    go_wp2_with fail
    refine (eqPartS_c _ _ _ _ l _ f4 f7 R67.out R7.out).mono ?_
    rintro e w8 ⟨rfl, hb8⟩
    have H8 := Lib.hid (H7.out.trans (hb8.mono H7.out.size))
    clear hb8
    go_wp2
    go_ret
    exact ⟨rfl, H8.out⟩
end Go.Proofs.Ytoabohllphoioaa
