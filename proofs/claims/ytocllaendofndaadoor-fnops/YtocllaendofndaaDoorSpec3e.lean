/-
  Contracts of the model's functions of chapter 3, fifth part: ReadOp.
-/
import Derived.Test.YtocllaendofndaaDoorSpec3d
namespace Go.Proofs.YtocllaendofndaaDoor
open Go.RowKit

abbrev o0 : O := ⟨0, 0, 0, 0, 0, 0, 0⟩
theorem readO_no {zs : List Int} (h : ¬ (readOk zs ∧ (readL zs).length = 7)) : readO zs = none := by
  unfold readO
  by_cases hk : readOk zs
  · rw [if_pos (readC_ok hk)]
    have hl : ¬ (readL zs).length = 7 := fun e => h ⟨hk, e⟩
    split
    · rename_i he; rw [he] at hl; exact absurd rfl hl
    · rfl
  · rw [if_neg (by rw [readC_no hk]; decide)]
theorem readO_ok {zs : List Int} {o : O} (hk : readOk zs) (ho : readL zs = opL o) : readO zs = if opF o = 0 then some o else none := by
  unfold readO
  rw [if_pos (readC_ok hk), ho]
  rfl
theorem rd_no {zs : List Int} (h : readO zs = none) : rdC zs = 5 ∧ rdO zs = o0 := by simp [rdC, rdO, h]
theorem rd_ok {zs : List Int} {o : O} (h : readO zs = some o) : rdC zs = 0 ∧ rdO zs = o := by simp [rdC, rdO, h]

theorem or_cells {w : World} {g : Nat} {C : Int} {o : O} (h : w.heap[g]? = some (orbox C o)) :
    w.cell? ⟨g, 0, none⟩ = some (.int .i64 C) ∧ w.cell? ⟨g, 1, none⟩ = some (.int .i64 o.k) ∧ w.cell? ⟨g, 2, none⟩ = some (.int .i64 o.rq) ∧ w.cell? ⟨g, 3, none⟩ = some (.int .i64 o.lc) ∧ w.cell? ⟨g, 4, none⟩ = some (.int .i64 o.tt) ∧ w.cell? ⟨g, 5, none⟩ = some (.int .i64 o.sk) ∧ w.cell? ⟨g, 6, none⟩ = some (.int .i64 o.qt) ∧ w.cell? ⟨g, 7, none⟩ = some (.int .i64 o.hd) ∧ g < w.heap.size :=
  ⟨cell_of_heap h, cell_of_heap h, cell_of_heap h, cell_of_heap h, cell_of_heap h, cell_of_heap h, cell_of_heap h, cell_of_heap h, heap_lt h⟩
/-- Eight cells of the result's block are laid. -/
theorem below_set8 {w v : World} (h : Below w.heap.size w v) (x0 x1 x2 x3 x4 x5 x6 x7 : Value) :
    Below w.heap.size w ((((((((v.setCell ⟨w.heap.size, 0, none⟩ x0).setCell ⟨w.heap.size, 1, none⟩ x1).setCell ⟨w.heap.size, 2, none⟩ x2).setCell ⟨w.heap.size, 3, none⟩ x3).setCell ⟨w.heap.size, 4, none⟩ x4).setCell ⟨w.heap.size, 5, none⟩ x5).setCell ⟨w.heap.size, 6, none⟩ x6).setCell ⟨w.heap.size, 7, none⟩ x7) :=
  below_set (below_set (below_set (below_set (below_set (below_set (below_set (below_set h _ _) _ _) _ _) _ _) _ _) _ _) _ _) _ _

set_option maxRecDepth 100000 in
set_option maxHeartbeats 4000000 in
theorem specReadOp_of (A : Option Addr) (c : Nat) (zs : List Int) (w : World) (o : O) (t : Bool)
    (hl : ∀ w', Below w.heap.size w w' → Calls Tryd.prog 35 #[.slice A zs.length c] w' fun e w'' => e = .returned (.tuple #[ov o, .bool t]) ∧ Below w'.heap.size w' w'') :
    Calls Tryd.prog 11 #[.slice A zs.length c] w fun e w' => e = .returned (if t then orv 0 o else orv 5 o0) ∧ Below w.heap.size w w' := by
  have HL := Lib.hid hl; clear hl
  go_enter Tryd.func11, Tryd.ntmps11
  go_wp2_with fail
  refine (HL.out _ (below_new _)).mono ?_
  rintro e w1 ⟨rfl, hb1⟩
  have hg1 : w1.heap[w.heap.size]? = some (orbox 0 o0) := newest hb1 (by simp)
  obtain ⟨c0, c1, c2, c3, c4, c5, c6, c7, hz⟩ := or_cells hg1
  have zf : ∀ i, w1.frozen? ⟨w.heap.size, i, none⟩ = false := fun i => frozen_of_heap hg1
  have HB1 := Lib.hid ((below_new _).trans (hb1.mono (by simp)))
  clear hb1 hg1
  cases t
  · go_wp2_with fail
    exact bodyPost_ret (v := orv 5 o0) (by simp [results, Tryd.results11, go_sem, c0, c1, c2, c3, c4, c5, c6, c7, hz]) rfl ⟨rfl, below_more (below_set8 HB1.out _ _ _ _ _ _ _ _) _⟩
  · go_wp2_with fail
    exact bodyPost_ret (v := orv 0 o) (by simp [results, Tryd.results11, go_sem, c0, c1, c2, c3, c4, c5, c6, c7, hz]) rfl ⟨rfl, below_more (below_set8 HB1.out _ _ _ _ _ _ _ _) _⟩

theorem specReadOp_a : AskReadOp 11 := by
  intro A c zs w fp _ hby ha
  by_cases hk : readOk zs ∧ (readL zs).length = 7
  · obtain ⟨o, ho⟩ := op_of hk.2
    have hr := readO_ok hk.1 ho
    refine (specReadOp_of A c zs w o (opF o == 0) (fun w' hb => l3Read_ok A c zs o w' fp hby (ha.below' hb) hk.1 ho)).mono ?_
    rintro e w' ⟨rfl, hb⟩
    refine ⟨?_, hb⟩
    by_cases h0 : opF o = 0
    · rw [if_pos h0] at hr
      rw [(rd_ok hr).1, (rd_ok hr).2, h0]
      rfl
    · rw [if_neg h0] at hr
      rw [(rd_no hr).1, (rd_no hr).2, if_neg (by simpa using h0)]
  · have hr := readO_no hk
    refine (specReadOp_of A c zs w o0 false (fun w' hb => l3Read_no A c zs w' fp hby (ha.below' hb) hk)).mono ?_
    rintro e w' ⟨rfl, hb⟩
    rw [(rd_no hr).1, (rd_no hr).2]
    exact ⟨rfl, hb⟩
end Go.Proofs.YtocllaendofndaaDoor
