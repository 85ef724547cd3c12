/- The laws on OpFault, OpText and ParseOp answer true, given what is asked of the functions: the walks. -/
import Derived.Test.YtocllaendofndaaAsk3
namespace Go.Proofs.Ytocllaendofndaa
open Go.RowKit

set_option maxRecDepth 100000 in
set_option maxHeartbeats 2000000 in
theorem lawOpFault_c (hS : AskOpFault 6) (hI : AskOpFault 8) (o : O) (ho : WfO o) (w : World) :
    Calls Try.prog 3 #[ov o] w fun e w' => e = .returned (.bool true) ∧ Below w.heap.size w w' := by
  generalize hC : opF o = C
  have HC := Lib.hid hC; clear hC
  have HS := Lib.hid hS; have HI := Lib.hid hI; have HO := Lib.hid ho
  clear hS hI ho
  go_enter Try.func3, Try.ntmps3
  go_wp2_with fail
  refine (toOp_c o _).mono ?_
  rintro e w1 ⟨rfl, hb1⟩
  have HB1 := Lib.hid hb1; clear hb1
  go_wp2_with fail
  refine (HS.out o _ HO.out).mono ?_
  rintro e w2 ⟨rfl, hb2⟩
  rw [HC.out]
  have hk := HB1.out.trans (hb2.mono HB1.out.size)
  have hg := heap_new w (.cells #[.int .i64 o.k, .int .i64 o.rq, .int .i64 o.lc, .int .i64 o.tt, .int .i64 o.sk, .int .i64 o.qt, .int .i64 o.hd] 23) rfl
  obtain ⟨c0, c1, c2, c3, c4, c5, c6, hz⟩ := op_kept hk hg
  have HB2 := Lib.hid ((below_new _).trans (hk.mono (by simp))); clear hb2 hk hg
  go_wp2_with fail
  refine (toOp_c o _).mono ?_
  rintro e w3 ⟨rfl, hb3⟩
  have HB3 := Lib.hid (HB2.out.trans (hb3.mono HB2.out.size)); clear hb3 c0 c1 c2 c3 c4 c5 c6 hz
  go_wp2_with fail
  refine (HI.out o _ HO.out).mono ?_
  rintro e w4 ⟨rfl, hb4⟩
  rw [HC.out]
  have HB4 := Lib.hid (HB3.out.trans (hb4.mono HB3.out.size)); clear hb4
  go_wp2_with fail
  go_ret
  exact ⟨rfl, HB4.out⟩

end Go.Proofs.Ytocllaendofndaa
