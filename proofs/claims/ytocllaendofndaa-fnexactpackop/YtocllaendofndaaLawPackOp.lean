/- The law on PackOp answers true, given what is asked of the functions: the walk. -/
import Derived.Test.YtocllaendofndaaAsk3
import Derived.Test.YtocllaendofndaaPack
namespace Go.Proofs.Ytocllaendofndaa
open Go.RowKit

/-- The bytes that PackOp answers beside its code. -/
def pkO (o : O) : List Int := if opF o = 0 then packL (opL o) else []
theorem pkO_len (o : O) : (pkO o).length ≤ 1000 := by
  unfold pkO
  split
  · exact packL_len _
  · simp
def AskPackOp (F : Nat) : Prop := ∀ (o : O) (w : World), WfO o → Calls Try.prog F #[ov o] w (BytesPost w (opF o) (pkO o))
/-- The block of an operation as the laws have it. -/
abbrev lbox (o : O) : Obj := .cells #[.int .i64 o.k, .int .i64 o.rq, .int .i64 o.lc, .int .i64 o.tt, .int .i64 o.sk, .int .i64 o.qt, .int .i64 o.hd] 23
theorem op_cells {w : World} {g : Nat} {o : O} (h : w.heap[g]? = some (lbox o)) :
    w.cell? ⟨g, 0, none⟩ = some (.int .i64 o.k) ∧ w.cell? ⟨g, 1, none⟩ = some (.int .i64 o.rq) ∧ w.cell? ⟨g, 2, none⟩ = some (.int .i64 o.lc) ∧ w.cell? ⟨g, 3, none⟩ = some (.int .i64 o.tt) ∧ w.cell? ⟨g, 4, none⟩ = some (.int .i64 o.sk) ∧ w.cell? ⟨g, 5, none⟩ = some (.int .i64 o.qt) ∧ w.cell? ⟨g, 6, none⟩ = some (.int .i64 o.hd) ∧ g < w.heap.size :=
  ⟨cell_of_heap h, cell_of_heap h, cell_of_heap h, cell_of_heap h, cell_of_heap h, cell_of_heap h, cell_of_heap h, heap_lt h⟩

set_option maxRecDepth 100000 in
set_option maxHeartbeats 4000000 in
theorem lawPackOp_c (hS : AskPackOp 9) (hI : AskPackOp 10) (o : O) (ho : WfO o) (w : World) :
    Calls Try.prog 4 #[ov o] w fun e w' => e = .returned (.bool true) ∧ Below w.heap.size w w' := by
  have hlen := pkO_len o
  generalize hC : opF o = C
  generalize hL : pkO o = L at hlen
  have HC := Lib.hid hC; have HL := Lib.hid hL
  have HS := Lib.hid hS; have HI := Lib.hid hI; have HO := Lib.hid ho
  clear hC hL hS hI ho
  go_enter Try.func4, Try.ntmps4
  go_wp2_with fail
  refine (toOp_c o _).mono ?_
  rintro e u0 ⟨rfl, hbu0⟩
  have gu0 : u0.heap[w.heap.size]? = some (lbox o) := (hbu0.block _ (by simp)).trans (heap_new w (lbox o) rfl)
  have BU0 : Hid (Below w.heap.size w u0) := Lib.hid ((below_new _).trans (hbu0.mono (by simp)))
  have GU0 := Lib.hid gu0
  clear hbu0 gu0
  go_wp2_with fail
  refine (HS.out o _ HO.out).mono ?_
  rw [HC.out, HL.out]
  rintro e w1 ⟨r0, rfl, ⟨v0, fp0, rfl, hr0, hn0, hf0⟩, hb0⟩
  obtain ⟨A0, c0, rfl⟩ := hr0.form
  have gu1 := (hb0.block _ (heap_lt GU0.out)).trans GU0.out
  obtain ⟨k0, k1, k2, k3, k4, k5, k6, kz⟩ := op_cells gu1
  have GU1 := Lib.hid gu1; clear gu1
  go_wp2_with fail
  refine (toOp_c o _).mono ?_
  rintro e u1 ⟨rfl, hbu1⟩
  clear k0 k1 k2 k3 k4 k5 k6 kz
  have hbu1' := hbu1
  go_wp2_with fail
  refine (HI.out o _ HO.out).mono ?_
  rw [HC.out, HL.out]
  rintro e w2 ⟨r1, rfl, ⟨v1, fp1, rfl, hr1, hn1, hf1⟩, hb1'⟩
  obtain ⟨A1, c1, rfl⟩ := hr1.form
  have hb1 : Below (w1.alloc (.cells #[.int .i64 C, .slice A0 L.length c0] 30)).heap.size (w1.alloc (.cells #[.int .i64 C, .slice A0 L.length c0] 30)) w2 := hbu1.trans (hb1'.mono hbu1.size)
  have hf1 : From (w1.heap.size + 1) fp1 := hf1.mono (by have := hbu1.size; simp at this; omega)
  clear hbu1 hb1' hbu1'
  have g3 : w2.heap[w1.heap.size]? = some (.cells #[.int .i64 C, .slice A0 L.length c0] 30 (0, 0)) := newest hb1 (by simp)
  have hz1 : w1.heap.size < w2.heap.size := by have := hb1.size; simp at this; omega
  have hx0 : w2.cell? ⟨w1.heap.size, 0, none⟩ = some (.int .i64 C) := cell_of_heap g3
  have hx1 : w2.cell? ⟨w1.heap.size, 1, none⟩ = some (.slice A0 L.length c0) := cell_of_heap g3
  have gu2 : w2.heap[w.heap.size]? = some (lbox o) := (hb1.block _ (by have := heap_lt GU1.out; simp; omega)).trans (heap_old GU1.out)
  have hr0' := ((hr0.alloc (.cells #[.int .i64 C, .slice A0 L.length c0] 30)).below' hb1).alloc (.cells #[.int .i64 C, .slice A1 L.length c1] 30)
  have hr1' := hr1.alloc (.cells #[.int .i64 C, .slice A1 L.length c1] 30)
  have g3' := heap_old (o' := .cells #[.int .i64 C, .slice A1 L.length c1] 30) g3
  have g4' := heap_new w2 (.cells #[.int .i64 C, .slice A1 L.length c1] 30) rfl
  have gu2' := heap_old (o' := .cells #[.int .i64 C, .slice A1 L.length c1] 30) gu2
  have hn1' : NF (w2.alloc (.cells #[.int .i64 C, .slice A1 L.length c1] 30)) fp1 := hn1.keep fun b hb => Below.heap_alloc _ _ _ (hr1.lt b hb)
  have hlt0 := hr0.lt
  have hlt1 := hr1.lt
  have hap : ∀ b ∈ fp0, b ∉ fp1 := apart_of (m := w1.heap.size + 1) (fun b hb => by have := hlt0 b hb; omega) hf1
  have n3 : w1.heap.size ∉ fp1 := fun h => by have := hf1 _ h; omega
  have n4 : w2.heap.size ∉ fp1 := fun h => by have := hlt1 _ h; omega
  have nu : w.heap.size ∉ fp1 := fun h => by have := hf1 _ h; have := heap_lt GU1.out; omega
  have HG3 := Lib.hid g3'; have HG4 := Lib.hid g4'; have HGU := Lib.hid gu2'; clear g3 g3' g4' gu2 gu2'
  go_wp2_with fail
  refine (eqBytesResult_c C _ _ L _ fp1 fp0 hr1' hr0').mono ?_
  rintro e w3 ⟨rfl, hb3⟩
  have hB3 := But.of_below hb3 fp1
  have g4 := hB3.heap HG4.out n4
  have hy0 : w3.cell? ⟨w2.heap.size, 0, none⟩ = some (.int .i64 C) := cell_of_heap g4
  have hy1 : w3.cell? ⟨w2.heap.size, 1, none⟩ = some (.slice A1 L.length c1) := cell_of_heap g4
  have hr13 := hr1'.below' hb3
  have hn13 := hn1'.but (But.of_below hb3 []) hr1'.lt (by simp)
  clear hx0 hx1 g4
  go_wp2_with fail
  refine (markBytesResult_c C _ L 1 _ fp1 (by omega) (by omega) hr13 hn13).mono ?_
  rintro e w4 ⟨rfl, hbut4, hm4⟩
  have hB4 := hB3.trans hbut4
  have g4 := hB4.heap HG4.out n4
  have hy0 : w4.cell? ⟨w2.heap.size, 0, none⟩ = some (.int .i64 C) := cell_of_heap g4
  have hy1 : w4.cell? ⟨w2.heap.size, 1, none⟩ = some (.slice A1 L.length c1) := cell_of_heap g4
  clear g4
  go_wp2_with fail
  refine (heldBytesResult_c C _ L.length 1 _ fp1 (by omega) (by omega) hm4).mono ?_
  rintro e w5 ⟨rfl, hb5⟩
  have hB5 := hB4.trans (But.of_below hb5 fp1)
  have hm5 := hm4.below' hb5
  have hq1 : decide ((1 : Int) + (L.length : Int) < 0) = false := by simp; omega
  obtain ⟨k0, k1, k2, k3, k4, k5, k6, kz⟩ := op_cells (hB5.heap HGU.out nu)
  go_wp2_with fail
  refine (toOp_c o _).mono ?_
  rintro e u5 ⟨rfl, hbu5⟩
  have hBU5 := hB5.trans (But.of_below hbu5 fp1)
  have hmu5 := hm5.below' hbu5
  clear k0 k1 k2 k3 k4 k5 k6 kz
  go_wp2_with fail
  refine (HI.out o _ HO.out).mono ?_
  rw [HC.out, HL.out]
  rintro e w6 ⟨r2, rfl, ⟨v2, fp2, rfl, hr2, hn2, hf2⟩, hb6⟩
  obtain ⟨A2, c2, rfl⟩ := hr2.form
  have hB6 := hBU5.trans (But.of_below hb6 fp1)
  have g3 := hB6.heap HG3.out n3
  have hx0 : w6.cell? ⟨w1.heap.size, 0, none⟩ = some (.int .i64 C) := cell_of_heap g3
  have hx1 : w6.cell? ⟨w1.heap.size, 1, none⟩ = some (.slice A0 L.length c0) := cell_of_heap g3
  have hz6 : w1.heap.size < w6.heap.size := heap_lt g3
  have hr06 := (hr0'.but hB6 hap).alloc (.cells #[.int .i64 C, .slice A2 L.length c2] 30)
  have hr26 := hr2.alloc (.cells #[.int .i64 C, .slice A2 L.length c2] 30)
  have hm6 := (hmu5.below' hb6).alloc (.cells #[.int .i64 C, .slice A2 L.length c2] 30)
  have hB6' := hB6.alloc (.cells #[.int .i64 C, .slice A2 L.length c2] 30)
  clear hy0 hy1 g3
  go_wp2_with fail
  refine (eqBytesResult_c C _ _ L _ fp2 fp0 hr26 hr06).mono ?_
  rintro e w7 ⟨rfl, hb7⟩
  have hB7 := hB6'.trans (But.of_below hb7 fp1)
  have g4 := hB7.heap HG4.out n4
  have hy0 : w7.cell? ⟨w2.heap.size, 0, none⟩ = some (.int .i64 C) := cell_of_heap g4
  have hy1 : w7.cell? ⟨w2.heap.size, 1, none⟩ = some (.slice A1 L.length c1) := cell_of_heap g4
  have hm7 := hm6.below' hb7
  clear hx0 hx1 g4
  go_wp2_with fail
  refine (heldBytesResult_c C _ L.length 1 _ fp1 (by omega) (by omega) hm7).mono ?_
  rintro e w8 ⟨rfl, hb8⟩
  have hB8 := hB7.trans (But.of_below hb8 fp1)
  have hBel : Below w.heap.size w w8 := by
    have b1 : Below w.heap.size w w1 := BU0.out.trans (hb0.mono BU0.out.size)
    have b2 : Below w.heap.size w w2 := (below_more b1 _).trans (hb1.mono (below_more b1 _).size)
    exact (below_more b2 _).trans (hB8.below (below_more b2 _).size (hf1.mono (by have := b1.size; omega)))
  have HBEL := Lib.hid hBel; clear hBel
  go_wp2
  go_ret
  exact ⟨rfl, HBEL.out⟩
end Go.Proofs.Ytocllaendofndaa
