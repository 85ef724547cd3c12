/-
  Words for the draws of operations: an operation's block and the source of draws.
-/
import Derived.Test.YtocllaendofndaaDoorSrc
import Derived.Test.YtocllaendofndaaDoorG2
import Derived.Test.YtocllaendofndaaDoorG4
import Derived.Test.YtocllaendofndaaDoorSpec3e
import Derived.Test.YtocllaendofndaaDoorSpec3g
namespace Go.Proofs.YtocllaendofndaaDoor
open Go.RowKit

theorem next_d (w : World) (s : Nat) (zs : List Int) (a : Nat) (n : Int) (h : Src w s zs a) (ha : a < 1000000) (hn : 1 ≤ n) (hn2 : n ≤ 1000000) :
    Calls Tryd.prog 27 #[.pointer (some ⟨s, 0, none⟩), .int .i64 n] w fun e w' => ∃ v, e = .returned (.int .i64 v) ∧ 0 ≤ v ∧ v < n ∧ Drawn w s zs a 1 w' := by
  refine (l1Next_c w s zs a n h hn hn2).mono ?_
  rintro e w1 ⟨v, m, rfl, hv0, hv1, hw1⟩
  exact ⟨v, rfl, hv0, hv1, Drawn.of_next h ha hw1⟩
theorem chance_d (w : World) (s : Nat) (zs : List Int) (a : Nat) (n : Int) (h : Src w s zs a) (ha : a < 1000000) (hn : 1 ≤ n) (hn2 : n ≤ 1000000) :
    Calls Tryd.prog 32 #[.pointer (some ⟨s, 0, none⟩), .int .i64 n] w fun e w' => ∃ b, e = .returned (.bool b) ∧ Drawn w s zs a 1 w' := by
  go_enter Tryd.func32, Tryd.ntmps32
  go_wp2_with fail
  refine (next_d w s zs a _ h ha hn hn2).mono ?_
  rintro e w1 ⟨v, rfl, hv0, hv1, hd⟩
  go_wp2
  go_ret
  exact ⟨_, rfl, hd⟩
theorem pick_d (w : World) (s : Nat) (zs : List Int) (a : Nat) (xs : List Int) (h : Src w s zs a) (ha : a < 1000000) (hx : 1 ≤ xs.length) (hx2 : xs.length ≤ 1000) :
    Calls Tryd.prog 28 #[.pointer (some ⟨s, 0, none⟩), .slice (some ⟨w.heap.size, 0, none⟩) xs.length xs.length] (w.alloc (.cells (cellsOf .i64 xs).toArray 2)) fun e w' => ∃ v, e = .returned (.int .i64 v) ∧ v ∈ xs ∧ Drawn w s zs a 1 w' := by
  obtain ⟨fq, hr, _, hf⟩ := Rd.fresh (w := w) (w' := w.alloc (.cells (cellsOf .i64 xs).toArray 2)) (n := xs.length) (size := 1) (xs := cellsOf .i64 xs) (e := 2) (by unfold maxLen; omega) (by simp [cellsOf]) (heap_new _ _ rfl) (Nat.le_refl _)
  have hlt := h.lt
  have hfs : s ∉ fq := fun hm => by have := hf _ hm; omega
  have hd0 := (Drawn.start h).alloc (.cells (cellsOf .i64 xs).toArray 2)
  refine (l1Pick_c _ s zs a _ xs.length xs fq hd0.src ha hx hx2 hr hfs).mono ?_
  rintro e w1 ⟨v, rfl, hv, hd, _⟩
  exact ⟨v, rfl, hv, by have := hd0.trans hd; simpa using this⟩
theorem pick_e (w : World) (s : Nat) (zs : List Int) (a n : Nat) (xs : List Int) (h : Src w s zs a) (hn : n = w.heap.size) (ha : a < 1000000) (hx : 1 ≤ xs.length) (hx2 : xs.length ≤ 1000) :
    Calls Tryd.prog 28 #[.pointer (some ⟨s, 0, none⟩), .slice (some ⟨n, 0, none⟩) xs.length xs.length] (w.alloc (.cells (cellsOf .i64 xs).toArray 2)) fun e w' => ∃ v, e = .returned (.int .i64 v) ∧ v ∈ xs ∧ Drawn w s zs a 1 w' := by
  subst hn
  exact pick_d w s zs a xs h ha hx hx2
theorem set_size (w : World) (p : Addr) (u : Value) : (w.setCell p u).heap.size = w.heap.size := by simp [World.setCell]

/-- What stands through the draws of an operation: the source is on by d places, the operation's block, the result's. -/
structure DS (w : World) (s : Nat) (zs : List Int) (a d g : Nat) (o : O) (W : World) : Prop where
  drawn : Drawn w s zs a d W
  op : W.heap[g]? = some (obox o)
  res : W.heap[w.heap.size]? = some (obox o0)
  lt : s < w.heap.size
  ge : w.heap.size < g
theorem Drawn.set {w w1 : World} {s : Nat} {zs : List Int} {a d g i : Nat} {u : Value} (h : Drawn w s zs a d w1) (hs : s < w.heap.size) (hg : w.heap.size ≤ g) : Drawn w s zs a d (w1.setCell ⟨g, i, none⟩ u) := by
  have hb : But [g] w1 (w1.setCell ⟨g, i, none⟩ u) := (But.refl [g] w1).setCell (p := ⟨g, i, none⟩) (by simp) u
  refine ⟨h.src.but hb (fun b hm => by simp at hm; omega), ⟨hb.os.trans h.but.os, hb.tape.trans h.but.tape, hb.output.trans h.but.output, Nat.le_trans h.but.size hb.size, fun k hk hn => ?_⟩⟩
  rw [hb.block k (Nat.lt_of_lt_of_le hk h.but.size) (by simp; omega)]
  exact h.but.block k hk hn
theorem DS.call {w : World} {s : Nat} {zs : List Int} {a d g e : Nat} {o : O} {W W1 : World} (h : DS w s zs a d g o W) (hd : Drawn W s zs (a + d) e W1) : DS w s zs a (d + e) g o W1 := by
  have := h.lt; have := h.ge
  exact ⟨h.drawn.trans hd, hd.but.heap h.op (by simp; omega), hd.but.heap h.res (by simp; omega), h.lt, h.ge⟩
theorem set_op {W : World} {g i : Nat} {o o' : O} {v : Int} (h : W.heap[g]? = some (obox o)) (e : (#[.int .i64 o.k, .int .i64 o.rq, .int .i64 o.lc, .int .i64 o.tt, .int .i64 o.sk, .int .i64 o.qt, .int .i64 o.hd] : Array Value).setIfInBounds i (.int .i64 v) = #[.int .i64 o'.k, .int .i64 o'.rq, .int .i64 o'.lc, .int .i64 o'.tt, .int .i64 o'.sk, .int .i64 o'.qt, .int .i64 o'.hd]) : (W.setCell ⟨g, i, none⟩ (.int .i64 v)).heap[g]? = some (obox o') := by
  unfold World.setCell
  simp only [Array.getElem?_modify, h]
  simp [e]
theorem DS.set {w : World} {s : Nat} {zs : List Int} {a d g i : Nat} {o o' : O} {v : Int} {W : World} (h : DS w s zs a d g o W) (e : (#[.int .i64 o.k, .int .i64 o.rq, .int .i64 o.lc, .int .i64 o.tt, .int .i64 o.sk, .int .i64 o.qt, .int .i64 o.hd] : Array Value).setIfInBounds i (.int .i64 v) = #[.int .i64 o'.k, .int .i64 o'.rq, .int .i64 o'.lc, .int .i64 o'.tt, .int .i64 o'.sk, .int .i64 o'.qt, .int .i64 o'.hd]) : DS w s zs a d g o' (W.setCell ⟨g, i, none⟩ (.int .i64 v)) := by
  have hl := h.lt; have hg := h.ge
  refine ⟨h.drawn.set h.lt (by omega), set_op h.op e, ?_, h.lt, h.ge⟩
  exact (But.setCell (bs := [g]) (But.refl _ W) (p := ⟨g, i, none⟩) (by simp) _).heap h.res (by simp; omega)
theorem DS.cells {w : World} {s : Nat} {zs : List Int} {a d g : Nat} {o : O} {W : World} (h : DS w s zs a d g o W) :
    (W.cell? ⟨g, 0, none⟩ = some (.int .i64 o.k) ∧ W.cell? ⟨g, 1, none⟩ = some (.int .i64 o.rq) ∧ W.cell? ⟨g, 2, none⟩ = some (.int .i64 o.lc) ∧ W.cell? ⟨g, 3, none⟩ = some (.int .i64 o.tt) ∧ W.cell? ⟨g, 4, none⟩ = some (.int .i64 o.sk) ∧ W.cell? ⟨g, 5, none⟩ = some (.int .i64 o.qt) ∧ W.cell? ⟨g, 6, none⟩ = some (.int .i64 o.hd) ∧ g < W.heap.size) ∧ (∀ i, W.frozen? ⟨g, i, none⟩ = false) ∧
    (W.cell? ⟨w.heap.size, 0, none⟩ = some (.int .i64 0) ∧ W.cell? ⟨w.heap.size, 1, none⟩ = some (.int .i64 0) ∧ W.cell? ⟨w.heap.size, 2, none⟩ = some (.int .i64 0) ∧ W.cell? ⟨w.heap.size, 3, none⟩ = some (.int .i64 0) ∧ W.cell? ⟨w.heap.size, 4, none⟩ = some (.int .i64 0) ∧ W.cell? ⟨w.heap.size, 5, none⟩ = some (.int .i64 0) ∧ W.cell? ⟨w.heap.size, 6, none⟩ = some (.int .i64 0) ∧ w.heap.size < W.heap.size) ∧ (∀ i, W.frozen? ⟨w.heap.size, i, none⟩ = false) :=
  ⟨op_cells0 h.op, fun _ => frozen_of_heap h.op, op_cells0 h.res, fun _ => frozen_of_heap h.res⟩
theorem DS.drew {w : World} {s : Nat} {zs : List Int} {a d g : Nat} {o : O} {W : World} (h : DS w s zs a d g o W) : DS w s zs a d g o W.drew :=
  ⟨⟨h.drawn.src.but ((But.refl [] W).drew) (fun _ hm => by cases hm), h.drawn.but.drew⟩, h.op, h.res, h.lt, h.ge⟩
/-- What stands through a statement that reads Loc: the operation's block, whatever else it holds. -/
def SD (w : World) (s : Nat) (zs : List Int) (a g : Nat) (L : Int) (w' : World) : Prop := ∃ d o, DS w s zs a d g o w' ∧ o.lc = L
theorem SD.loc {w : World} {s : Nat} {zs : List Int} {a g : Nat} {L : Int} {w' : World} (h : SD w s zs a g L w') : w'.cell? ⟨g, 2, none⟩ = some (.int .i64 L) ∧ g < w'.heap.size := by
  obtain ⟨d, o, h, rfl⟩ := h
  exact ⟨cell_of_heap h.op, heap_lt h.op⟩
/-- What a drawn operation is. -/
def DOpPost (w : World) (s : Nat) (zs : List Int) (a B : Nat) (X : O → Prop) (e : Ending) (w' : World) : Prop :=
  ∃ (o : O) (d : Nat), e = .returned (ov o) ∧ X o ∧ d ≤ B ∧ Drawn w s zs a d w'
theorem Drawn.set7 {w w1 : World} {s : Nat} {zs : List Int} {a d : Nat} (h : Drawn w s zs a d w1) (hs : s < w.heap.size) (x0 x1 x2 x3 x4 x5 x6 : Value) :
    Drawn w s zs a d (((((((w1.setCell ⟨w.heap.size, 0, none⟩ x0).setCell ⟨w.heap.size, 1, none⟩ x1).setCell ⟨w.heap.size, 2, none⟩ x2).setCell ⟨w.heap.size, 3, none⟩ x3).setCell ⟨w.heap.size, 4, none⟩ x4).setCell ⟨w.heap.size, 5, none⟩ x5).setCell ⟨w.heap.size, 6, none⟩ x6) :=
  ((((((h.set hs (Nat.le_refl _)).set hs (Nat.le_refl _)).set hs (Nat.le_refl _)).set hs (Nat.le_refl _)).set hs (Nat.le_refl _)).set hs (Nat.le_refl _)).set hs (Nat.le_refl _)
end Go.Proofs.YtocllaendofndaaDoor
