/- The laws on OpFault, OpText and ParseOp answer true, given what is asked of the functions: the walks. -/
import Derived.Test.YtocllaendofndaaDoorG4
namespace Go.Proofs.YtocllaendofndaaDoor
open Go.RowKit

set_option maxRecDepth 100000 in
set_option maxHeartbeats 2000000 in
theorem lawOpText_c {X : World → Prop} (hX : Stays X) (hS : AskOpText X 19) (hI : AskOpText X 15) (o : O) (ho : WfO o) (w : World) (hx : X w) :
    Calls Tryd.prog 4 #[ov o] w fun e w' => e = .returned (.bool true) ∧ Below w.heap.size w w' := by
  generalize hC : opF o = C
  generalize hT : (⟨(otL o).toArray⟩ : ByteArray) = T
  have HC := Lib.hid hC; have HT := Lib.hid hT; clear hC hT
  have HS := Lib.hid hS; have HI := Lib.hid hI; have HO := Lib.hid ho; have HX := Lib.hid hx; have HXX := Lib.hid hX
  clear hS hI ho hx hX
  go_enter Tryd.func4, Tryd.ntmps4
  go_wp2_with fail
  refine (toOp_c o _).mono ?_
  rintro e w1 ⟨rfl, hb1⟩
  have HB1 := Lib.hid hb1; clear hb1
  go_wp2_with fail
  refine (HS.out o _ HO.out (HXX.out _ _ HX.out ((below_new _).trans (HB1.out.mono (by simp))))).mono ?_
  rintro e w2 ⟨rfl, hb2⟩
  rw [HC.out, HT.out]
  have hk := HB1.out.trans (hb2.mono HB1.out.size)
  have hg := heap_new w (.cells #[.int .i64 o.k, .int .i64 o.rq, .int .i64 o.lc, .int .i64 o.tt, .int .i64 o.sk, .int .i64 o.qt, .int .i64 o.hd] 41) rfl
  obtain ⟨c0, c1, c2, c3, c4, c5, c6, hz⟩ := op_kept hk hg
  have HB2 := Lib.hid ((below_new _).trans (hk.mono (by simp))); clear hb2 hk hg
  go_wp2_with fail
  refine (toOp_c o _).mono ?_
  rintro e w3 ⟨rfl, hb3⟩
  have HB3 := Lib.hid hb3; clear hb3 c0 c1 c2 c3 c4 c5 c6 hz
  go_wp2_with fail
  refine (HI.out o _ HO.out (HXX.out _ _ HX.out ((below_more HB2.out _).trans (HB3.out.mono (below_more HB2.out _).size)))).mono ?_
  rintro e w4 ⟨rfl, hb4⟩
  rw [HC.out, HT.out]
  have hk := HB3.out.trans (hb4.mono HB3.out.size)
  have hg : w4.heap[w2.heap.size]? = some (.cells #[.int .i64 C, .string T] 37 (0, 0)) := newest hk (by simp)
  have d0 : w4.cell? ⟨w2.heap.size, 0, none⟩ = some (.int .i64 C) := cell_of_heap hg
  have d1 : w4.cell? ⟨w2.heap.size, 1, none⟩ = some (.string T) := cell_of_heap hg
  have z2 := heap_lt hg
  have HB4 := Lib.hid ((below_more HB2.out _).trans (hk.mono (below_more HB2.out _).size)); clear hb4 hk hg
  go_wp2_with fail
  refine (eqTextResult_c C T _).mono ?_
  rintro e w5 ⟨rfl, hb5⟩
  have HB5 := Lib.hid ((below_more HB4.out _).trans (hb5.mono (below_more HB4.out _).size)); clear hb5
  go_wp2_with fail
  go_ret
  exact ⟨rfl, HB5.out⟩

set_option maxRecDepth 100000 in
set_option maxHeartbeats 2000000 in
theorem lawParseOp_c {X : World → Prop} (hX : Stays X) (hS : AskParseOp X 14) (hI : AskParseOp X 10) (s : ByteArray) (hs : s.size ≤ 9223372036854775807) (w : World) (hx : X w) :
    Calls Tryd.prog 5 #[.string s] w fun e w' => e = .returned (.bool true) ∧ Below w.heap.size w w' := by
  by_cases hbig : 1048576 < s.size
  · have hbi : (1048576 : Int) < (s.size : Int) := by omega
    go_enter Tryd.func5, Tryd.ntmps5
    go_wp2
    go_ret
    exact ⟨rfl, Below.refl _ _⟩
  · have hbi : ¬ ((1048576 : Int) < (s.size : Int)) := by omega
    have hle : s.size ≤ 1048576 := by omega
    generalize hC : psC s.data.toList = C
    generalize hO : psO s.data.toList = o
    have HC := Lib.hid hC; have HO := Lib.hid hO; have HS := Lib.hid hS; have HI := Lib.hid hI; have HX := Lib.hid hx; have HXX := Lib.hid hX
    clear hC hO hS hI hbig hx hX
    go_enter Tryd.func5, Tryd.ntmps5
    go_wp2_with fail
    refine (HS.out s _ hle HX.out).mono ?_
    rintro e w1 ⟨rfl, hb1⟩
    rw [HC.out, HO.out]
    have HB1 := Lib.hid hb1; clear hb1
    go_wp2_with fail
    refine (HI.out s _ hle (HXX.out _ _ HX.out (below_more HB1.out _))).mono ?_
    rintro e w2 ⟨rfl, hb2⟩
    rw [HC.out, HO.out]
    have hg : w2.heap[w1.heap.size]? = some (.cells #[.int .i64 C, .int .i64 o.k, .int .i64 o.rq, .int .i64 o.lc, .int .i64 o.tt, .int .i64 o.sk, .int .i64 o.qt, .int .i64 o.hd] 28 (0, 0)) := newest hb2 (by simp)
    have d0 : w2.cell? ⟨w1.heap.size, 0, none⟩ = some (.int .i64 C) := cell_of_heap hg
    have d1 : w2.cell? ⟨w1.heap.size, 1, none⟩ = some (.int .i64 o.k) := cell_of_heap hg
    have d2 : w2.cell? ⟨w1.heap.size, 2, none⟩ = some (.int .i64 o.rq) := cell_of_heap hg
    have d3 : w2.cell? ⟨w1.heap.size, 3, none⟩ = some (.int .i64 o.lc) := cell_of_heap hg
    have d4 : w2.cell? ⟨w1.heap.size, 4, none⟩ = some (.int .i64 o.tt) := cell_of_heap hg
    have d5 : w2.cell? ⟨w1.heap.size, 5, none⟩ = some (.int .i64 o.sk) := cell_of_heap hg
    have d6 : w2.cell? ⟨w1.heap.size, 6, none⟩ = some (.int .i64 o.qt) := cell_of_heap hg
    have d7 : w2.cell? ⟨w1.heap.size, 7, none⟩ = some (.int .i64 o.hd) := cell_of_heap hg
    have z1 := heap_lt hg
    have HB2 := Lib.hid ((below_more HB1.out _).trans (hb2.mono (below_more HB1.out _).size)); clear hb2 hg
    go_wp2_with fail
    refine (eqOpResult_c C o _).mono ?_
    rintro e w3 ⟨rfl, hb3⟩
    have HB3 := Lib.hid ((below_more HB2.out _).trans (hb3.mono (below_more HB2.out _).size)); clear hb3
    go_wp2_with fail
    go_ret
    exact ⟨rfl, HB3.out⟩
end Go.Proofs.YtocllaendofndaaDoor
