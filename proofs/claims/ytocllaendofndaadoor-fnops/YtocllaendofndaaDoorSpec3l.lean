/-
  Contracts of the model's functions of chapter 3, eleventh part: ParseOp.
-/
import Derived.Test.YtocllaendofndaaDoorSpec3k
namespace Go.Proofs.YtocllaendofndaaDoor
open Go.RowKit

theorem ps_no {l : List UInt8} (h : parseO l = none) : psC l = 5 ∧ psO l = o0 := by simp [psC, psO, h, o0]
theorem ps_ok {l : List UInt8} {o : O} (h : parseO l = some o) : psC l = 0 ∧ psO l = o := by simp [psC, psO, h]

set_option maxRecDepth 100000 in
set_option maxHeartbeats 4000000 in
theorem specParseOp_c (s : ByteArray) (w : World) (hs : s.size ≤ 1048576) :
    Calls Tryd.prog 14 #[.string s] w fun e w' => e = .returned (orv (psC s.data.toList) (psO s.data.toList)) ∧ Below w.heap.size w w' := by
  generalize hL : s.data.toList = l
  have HL := Lib.hid hL; clear hL
  go_enter Tryd.func14, Tryd.ntmps14
  go_wp2_with fail
  refine (l3Parse_c s _ hs).mono ?_
  rw [HL.out]
  rintro e w1 ⟨o, t, rfl, hp, hb1⟩
  have hg1 : w1.heap[w.heap.size]? = some (orbox 0 o0) := newest hb1 (by simp)
  obtain ⟨c0, c1, c2, c3, c4, c5, c6, c7, hz⟩ := or_cells hg1
  have zf : ∀ i, w1.frozen? ⟨w.heap.size, i, none⟩ = false := fun i => frozen_of_heap hg1
  have HB1 := Lib.hid ((below_new _).trans (hb1.mono (by simp)))
  clear hb1 hg1
  cases t
  · have h := ps_no (l := l) (by simpa using hp)
    have H := Lib.hid h
    clear hp h
    go_wp2_with fail
    exact bodyPost_ret (v := orv 5 o0) (by simp [results, Tryd.results14, go_sem, c0, c1, c2, c3, c4, c5, c6, c7, hz]) rfl ⟨by rw [H.out.1, H.out.2], below_more (below_set8 HB1.out _ _ _ _ _ _ _ _) _⟩
  · have h := ps_ok (l := l) (o := o) (by simpa using hp)
    have H := Lib.hid h
    clear hp h
    go_wp2_with fail
    exact bodyPost_ret (v := orv 0 o) (by simp [results, Tryd.results14, go_sem, c0, c1, c2, c3, c4, c5, c6, c7, hz]) rfl ⟨by rw [H.out.1, H.out.2], below_more (below_set8 HB1.out _ _ _ _ _ _ _ _) _⟩
theorem specParseOp_a (X : World → Prop) : AskParseOp X 14 := fun s w hs _ => specParseOp_c s w hs
end Go.Proofs.YtocllaendofndaaDoor
