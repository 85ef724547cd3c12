/-
  Contracts of the program's functions of chapter 3, second part: the fault of an operation.
-/
import Derived.Test.YtocllaendofndaaDoorImpl3a
import Derived.Test.YtocllaendofndaaDoorRowEq3
import Derived.BigQuiet
namespace Go.Proofs.YtocllaendofndaaDoor
open Go.RowKit

/-- The i-th limits, and the i-th number behind the kind. -/
def L6.at_ (l : L6) : Nat → Int × Int
  | 0 => l.q0
  | 1 => l.q1
  | 2 => l.q2
  | 3 => l.q3
  | 4 => l.q4
  | _ => l.q5
def O.at_ (o : O) : Nat → Int
  | 0 => o.rq
  | 1 => o.lc
  | 2 => o.tt
  | 3 => o.sk
  | 4 => o.qt
  | _ => o.hd
/-- A field that the kind uses, or that is 0; a field in its range. -/
def tF (l : L6) (o : O) (i : Nat) : Bool := !(decide (l.at_ i = (0, 0)) && (o.at_ i != 0))
def tR (l : L6) (o : O) (i : Nat) : Bool := !(decide (o.at_ i < (l.at_ i).1) || decide (o.at_ i > (l.at_ i).2))
theorem six {i : Nat} (h : i < 6) : i = 0 ∨ i = 1 ∨ i = 2 ∨ i = 3 ∨ i = 4 ∨ i = 5 := by omega

theorem formB_iff (o : O) (hi : inB o.k 1 7 = true) : formB o = true ↔ ∀ i, i < 6 → tF (limOf o.k) o i = true := by
  obtain ⟨k, rq, lc, tt, sk, qt, hd⟩ := o
  have hk := inB_true.1 hi
  simp only at hk
  have h7 : k = 1 ∨ k = 2 ∨ k = 3 ∨ k = 4 ∨ k = 5 ∨ k = 6 ∨ k = 7 := by omega
  have all6 : ∀ P : Nat → Prop, (∀ i, i < 6 → P i) ↔ (P 0 ∧ P 1 ∧ P 2 ∧ P 3 ∧ P 4 ∧ P 5) := fun P => ⟨fun h => ⟨h 0 (by omega), h 1 (by omega), h 2 (by omega), h 3 (by omega), h 4 (by omega), h 5 (by omega)⟩, fun ⟨a, b, c, d, e, f⟩ i h => by rcases six h with rfl | rfl | rfl | rfl | rfl | rfl <;> assumption⟩
  rw [all6]
  rcases h7 with rfl | rfl | rfl | rfl | rfl | rfl | rfl
  all_goals
    simp [formB, inB, placedB, heldB, toB, tF, L6.at_, O.at_, limOf]
    try omega
theorem rangeB_iff (o : O) (hi : inB o.k 1 7 = true) (hf : ∀ i, i < 6 → tF (limOf o.k) o i = true) : rangeB o = true ↔ ∀ i, i < 6 → tR (limOf o.k) o i = true := by
  obtain ⟨k, rq, lc, tt, sk, qt, hd⟩ := o
  have hk := inB_true.1 hi
  simp only at hk
  have h7 : k = 1 ∨ k = 2 ∨ k = 3 ∨ k = 4 ∨ k = 5 ∨ k = 6 ∨ k = 7 := by omega
  have all6 : ∀ P : Nat → Prop, (∀ i, i < 6 → P i) ↔ (P 0 ∧ P 1 ∧ P 2 ∧ P 3 ∧ P 4 ∧ P 5) := fun P => ⟨fun h => ⟨h 0 (by omega), h 1 (by omega), h 2 (by omega), h 3 (by omega), h 4 (by omega), h 5 (by omega)⟩, fun ⟨a, b, c, d, e, f⟩ i h => by rcases six h with rfl | rfl | rfl | rfl | rfl | rfl <;> assumption⟩
  rw [all6] at hf
  rw [all6]
  rcases h7 with rfl | rfl | rfl | rfl | rfl | rfl | rfl
  all_goals
    simp [tF, L6.at_, O.at_, limOf] at hf
    simp [rangeB, isB, inB_true, tR, L6.at_, O.at_, limOf]
    try omega
theorem opF_1 {o : O} (hi : inB o.k 1 7 = true) {i : Nat} (h : i < 6) (ht : tF (limOf o.k) o i = false) : opF o = 1 := by
  have : formB o = false := by
    cases hf : formB o
    · rfl
    · rw [(formB_iff o hi).1 hf i h] at ht; cases ht
  simp [opF, this]
theorem opF_3 {o : O} (hi : inB o.k 1 7 = true) (hf : ∀ i, i < 6 → tF (limOf o.k) o i = true) {i : Nat} (h : i < 6) (ht : tR (limOf o.k) o i = false) : opF o = 3 := by
  have h2 : rangeB o = false := by
    cases hr : rangeB o
    · rfl
    · rw [(rangeB_iff o hi hf).1 hr i h] at ht; cases ht
  simp [opF, (formB_iff o hi).2 hf, h2]
theorem opF_e {o : O} (hi : inB o.k 1 7 = true) (hf : ∀ i, i < 6 → tF (limOf o.k) o i = true) (hr : ∀ i, i < 6 → tR (limOf o.k) o i = true) : opF o = if o.k = 6 ∧ o.tt = o.lc then 6 else 0 := by
  simp [opF, (formB_iff o hi).2 hf, (rangeB_iff o hi hf).2 hr]

/-- The two blocks that the loops read. -/
abbrev nbox (o : O) : Obj := .cells #[.int .i64 o.k, .int .i64 o.rq, .int .i64 o.lc, .int .i64 o.tt, .int .i64 o.sk, .int .i64 o.qt, .int .i64 o.hd] 61
abbrev lbox6 (l : L6) : Obj := .cells #[.int .i64 l.q0.1, .int .i64 l.q0.2, .int .i64 l.q1.1, .int .i64 l.q1.2, .int .i64 l.q2.1, .int .i64 l.q2.2, .int .i64 l.q3.1, .int .i64 l.q3.2, .int .i64 l.q4.1, .int .i64 l.q4.2, .int .i64 l.q5.1, .int .i64 l.q5.2] 70
theorem lim_cells {w : World} {g : Nat} {l : L6} (h : w.heap[g]? = some (lbox6 l)) :
    w.cell? ⟨g, 0, none⟩ = some (.int .i64 l.q0.1) ∧ w.cell? ⟨g, 1, none⟩ = some (.int .i64 l.q0.2) ∧ w.cell? ⟨g, 2, none⟩ = some (.int .i64 l.q1.1) ∧ w.cell? ⟨g, 3, none⟩ = some (.int .i64 l.q1.2) ∧ w.cell? ⟨g, 4, none⟩ = some (.int .i64 l.q2.1) ∧ w.cell? ⟨g, 5, none⟩ = some (.int .i64 l.q2.2) ∧ w.cell? ⟨g, 6, none⟩ = some (.int .i64 l.q3.1) ∧ w.cell? ⟨g, 7, none⟩ = some (.int .i64 l.q3.2) ∧ w.cell? ⟨g, 8, none⟩ = some (.int .i64 l.q4.1) ∧ w.cell? ⟨g, 9, none⟩ = some (.int .i64 l.q4.2) ∧ w.cell? ⟨g, 10, none⟩ = some (.int .i64 l.q5.1) ∧ w.cell? ⟨g, 11, none⟩ = some (.int .i64 l.q5.2) ∧ g < w.heap.size :=
  ⟨cell_of_heap h, cell_of_heap h, cell_of_heap h, cell_of_heap h, cell_of_heap h, cell_of_heap h, cell_of_heap h, cell_of_heap h, cell_of_heap h, cell_of_heap h, cell_of_heap h, cell_of_heap h, heap_lt h⟩
theorem num_cells {w : World} {g : Nat} {o : O} (h : w.heap[g]? = some (nbox o)) :
    w.cell? ⟨g, 0, none⟩ = some (.int .i64 o.k) ∧ w.cell? ⟨g, 1, none⟩ = some (.int .i64 o.rq) ∧ w.cell? ⟨g, 2, none⟩ = some (.int .i64 o.lc) ∧ w.cell? ⟨g, 3, none⟩ = some (.int .i64 o.tt) ∧ w.cell? ⟨g, 4, none⟩ = some (.int .i64 o.sk) ∧ w.cell? ⟨g, 5, none⟩ = some (.int .i64 o.qt) ∧ w.cell? ⟨g, 6, none⟩ = some (.int .i64 o.hd) ∧ g < w.heap.size :=
  ⟨cell_of_heap h, cell_of_heap h, cell_of_heap h, cell_of_heap h, cell_of_heap h, cell_of_heap h, cell_of_heap h, heap_lt h⟩
theorem ixl0 (x0 x1 x2 x3 x4 x5 x6 x7 x8 x9 x10 x11 : Value) (w : World) : (Instr.index 70 (.agg #[x0, x1, x2, x3, x4, x5, x6, x7, x8, x9, x10, x11]) (.int .i64 0)).run Tryd.prog w = .ok (.agg #[x0, x1]) w := by kernel_rfl
theorem ixl1 (x0 x1 x2 x3 x4 x5 x6 x7 x8 x9 x10 x11 : Value) (w : World) : (Instr.index 70 (.agg #[x0, x1, x2, x3, x4, x5, x6, x7, x8, x9, x10, x11]) (.int .i64 1)).run Tryd.prog w = .ok (.agg #[x2, x3]) w := by kernel_rfl
theorem ixl2 (x0 x1 x2 x3 x4 x5 x6 x7 x8 x9 x10 x11 : Value) (w : World) : (Instr.index 70 (.agg #[x0, x1, x2, x3, x4, x5, x6, x7, x8, x9, x10, x11]) (.int .i64 2)).run Tryd.prog w = .ok (.agg #[x4, x5]) w := by kernel_rfl
theorem ixl3 (x0 x1 x2 x3 x4 x5 x6 x7 x8 x9 x10 x11 : Value) (w : World) : (Instr.index 70 (.agg #[x0, x1, x2, x3, x4, x5, x6, x7, x8, x9, x10, x11]) (.int .i64 3)).run Tryd.prog w = .ok (.agg #[x6, x7]) w := by kernel_rfl
theorem ixl4 (x0 x1 x2 x3 x4 x5 x6 x7 x8 x9 x10 x11 : Value) (w : World) : (Instr.index 70 (.agg #[x0, x1, x2, x3, x4, x5, x6, x7, x8, x9, x10, x11]) (.int .i64 4)).run Tryd.prog w = .ok (.agg #[x8, x9]) w := by kernel_rfl
theorem ixl5 (x0 x1 x2 x3 x4 x5 x6 x7 x8 x9 x10 x11 : Value) (w : World) : (Instr.index 70 (.agg #[x0, x1, x2, x3, x4, x5, x6, x7, x8, x9, x10, x11]) (.int .i64 5)).run Tryd.prog w = .ok (.agg #[x10, x11]) w := by kernel_rfl

set_option maxRecDepth 100000 in
set_option maxHeartbeats 8000000 in
theorem implOpFault_a : AskOpFault 18 := by
  intro o w ho
  cases hi : inB o.k 1 7
  · have e : opF o = 1 := by simp [opF, formB, hi]
    rw [e]
    have hko := inB_false.1 hi
    clear e hi ho
    have h1 : ¬ o.k = 1 := by omega
    have h2 : ¬ o.k = 2 := by omega
    have h3 : ¬ o.k = 3 := by omega
    have h4 : ¬ o.k = 4 := by omega
    have h5 : ¬ o.k = 5 := by omega
    have h6 : ¬ o.k = 6 := by omega
    have h7 : ¬ o.k = 7 := by omega
    clear hko
    go_enter Tryd.func18, Tryd.ntmps18
    go_wp2_with fail
    refine (opLimits_no o.k h1 h2 h3 h4 h5 h6 h7 _).mono ?_
    rintro e w1 ⟨rfl, hb1⟩
    have HB1 := Lib.hid ((below_new _).trans (hb1.mono (by simp))); clear hb1 h1 h2 h3 h4 h5 h6 h7
    go_wp2
    go_ret
    exact ⟨rfl, below_more HB1.out _⟩
  · have HI := Lib.hid hi
    have HO1 : Hid (∀ i, i < 6 → tF (limOf o.k) o i = false → opF o = 1) := fun i h ht => opF_1 hi h ht
    have HO3 : Hid ((∀ i, i < 6 → tF (limOf o.k) o i = true) → ∀ i, i < 6 → tR (limOf o.k) o i = false → opF o = 3) := fun hf i h ht => opF_3 hi hf h ht
    have HOE : Hid ((∀ i, i < 6 → tF (limOf o.k) o i = true) → (∀ i, i < 6 → tR (limOf o.k) o i = true) → opF o = if o.k = 6 ∧ o.tt = o.lc then 6 else 0) := fun hf hr => opF_e hi hf hr
    clear hi ho
    have hlim := fun w => opLimits_c o.k HI.out w
    generalize limOf o.k = l at *
    generalize opF o = C at *
    have HL := Lib.hid hlim; clear hlim
    go_enter Tryd.func18, Tryd.ntmps18
    go_wp2_with fail
    refine (HL.out _).mono ?_
    rintro e w1 ⟨rfl, hb1⟩
    have hg1 : w1.heap[w.heap.size]? = some (obox o) := newest hb1 (by simp)
    have HB1 := Lib.hid ((below_new _).trans (hb1.mono (by simp)))
    have c := op_cells' hg1
    obtain ⟨c0, c1, c2, c3, c4, c5, c6, hz1⟩ := c
    clear hb1
    go_wp2_with fail
    refine (opNumbers_c o _).mono ?_
    rintro e w2 ⟨rfl, hb2⟩
    have hl2 : w2.heap[w1.heap.size]? = some (lbox6 l) := newest hb2 (by simp)
    have hg2 : w2.heap[w.heap.size]? = some (obox o) := (hb2.block _ (by have := heap_lt hg1; simp; omega)).trans (heap_old hg1)
    have HB2 := Lib.hid (HB1.out.trans ((below_new _).mono HB1.out.size |>.trans (hb2.mono (by have := HB1.out.size; simp; omega))))
    clear hb2 hg1 c0 c1 c2 c3 c4 c5 c6 hz1
    have hn3 := heap_new w2 (nbox o) rfl
    have hl3 : (w2.alloc (nbox o)).heap[w1.heap.size]? = some (lbox6 l) := heap_old hl2
    have hg3 : (w2.alloc (nbox o)).heap[w.heap.size]? = some (obox o) := heap_old hg2
    have HB3 := Lib.hid (below_more HB2.out (nbox o))
    obtain ⟨d0, d1, d2, d3, d4, d5, d6, d7, d8, d9, d10, d11, hdz⟩ := lim_cells hl2
    have HN := Lib.hid hn3; have HG := Lib.hid hg3; have HLM := Lib.hid hl3
    clear hn3 hg3 hl3 hl2 hg2
    go_wp2
    clear d0 d1 d2 d3 d4 d5 d6 d7 d8 d9 d10 d11
    generalize w2.alloc (nbox o) = W at *
    go_loopw [21] (fun i wr => ∃ k : Nat, k ≤ 6 ∧ i = .int .i64 k ∧ Below W.heap.size W wr ∧ Hid (∀ j, j < k → tF l o j = true)) (fun i _ => 6 - (intOf i).toNat)
    case atStart => exact ⟨0, Nat.zero_le _, rfl, Below.refl _ _, fun j hj => absurd hj (Nat.not_lt_zero _)⟩
    case round =>
      obtain ⟨k, hk, rfl, hbel, hF⟩ := hrel
      have HF := Lib.hid hF.out; clear hF
      have HB := Lib.hid hbel
      have hnc := num_cells ((hbel.block _ (heap_lt HN.out)).trans HN.out)
      obtain ⟨num9, num0, num1, num2, num3, num4, num5, hnz⟩ := hnc
      by_cases hlt : k < 6
      · clear hbel num9
        rcases six hlt with rfl | rfl | rfl | rfl | rfl | rfl
        · have hix := fun w => ixl0 (.int .i64 l.q0.1) (.int .i64 l.q0.2) (.int .i64 l.q1.1) (.int .i64 l.q1.2) (.int .i64 l.q2.1) (.int .i64 l.q2.2) (.int .i64 l.q3.1) (.int .i64 l.q3.2) (.int .i64 l.q4.1) (.int .i64 l.q4.2) (.int .i64 l.q5.1) (.int .i64 l.q5.2) w
          cases hz : decide (l.q0 = (0, 0))
          · have q1 := fun w => limEql l.q0 w
            have q2 := fun p q w => limGuard .eql p q l.q0 (0, 0) w
            rw [hz] at q1
            have ht : tF l o 0 = true := by simp [tF, L6.at_, O.at_, hz]
            have HT := Lib.hid ht; clear ht hz
            go_wp2
            exact ⟨⟨1, by omega, rfl, below_more HB.out _, fun j hj => (Nat.lt_or_eq_of_le (Nat.le_of_lt_succ hj)).elim (fun h => HF.out j h) (fun h => h ▸ HT.out)⟩, by simp [intOf]⟩
          · have q1 := fun w => limEql l.q0 w
            have q2 := fun p q w => limGuard .eql p q l.q0 (0, 0) w
            rw [hz] at q1
            cases hn : (o.rq != 0)
            · have ht : tF l o 0 = true := by simp [tF, L6.at_, O.at_, hz, hn]
              have HT := Lib.hid ht; clear ht hz
              go_wp2
              exact ⟨⟨1, by omega, rfl, below_more HB.out _, fun j hj => (Nat.lt_or_eq_of_le (Nat.le_of_lt_succ hj)).elim (fun h => HF.out j h) (fun h => h ▸ HT.out)⟩, by simp [intOf]⟩
            · have ht : tF l o 0 = false := by simp [tF, L6.at_, O.at_, hz, hn]
              have HC := Lib.hid (HO1.out 0 (by omega) ht); clear ht hz
              go_wp2
              go_ret
              exact ⟨congrArg (fun z => Ending.returned (Value.int .i64 z)) HC.out.symm, HB3.out.trans ((below_more HB.out _).mono HB3.out.size)⟩
        · have hix := fun w => ixl1 (.int .i64 l.q0.1) (.int .i64 l.q0.2) (.int .i64 l.q1.1) (.int .i64 l.q1.2) (.int .i64 l.q2.1) (.int .i64 l.q2.2) (.int .i64 l.q3.1) (.int .i64 l.q3.2) (.int .i64 l.q4.1) (.int .i64 l.q4.2) (.int .i64 l.q5.1) (.int .i64 l.q5.2) w
          cases hz : decide (l.q1 = (0, 0))
          · have q1 := fun w => limEql l.q1 w
            have q2 := fun p q w => limGuard .eql p q l.q1 (0, 0) w
            rw [hz] at q1
            have ht : tF l o 1 = true := by simp [tF, L6.at_, O.at_, hz]
            have HT := Lib.hid ht; clear ht hz
            go_wp2
            exact ⟨⟨2, by omega, rfl, below_more HB.out _, fun j hj => (Nat.lt_or_eq_of_le (Nat.le_of_lt_succ hj)).elim (fun h => HF.out j h) (fun h => h ▸ HT.out)⟩, by simp [intOf]⟩
          · have q1 := fun w => limEql l.q1 w
            have q2 := fun p q w => limGuard .eql p q l.q1 (0, 0) w
            rw [hz] at q1
            cases hn : (o.lc != 0)
            · have ht : tF l o 1 = true := by simp [tF, L6.at_, O.at_, hz, hn]
              have HT := Lib.hid ht; clear ht hz
              go_wp2
              exact ⟨⟨2, by omega, rfl, below_more HB.out _, fun j hj => (Nat.lt_or_eq_of_le (Nat.le_of_lt_succ hj)).elim (fun h => HF.out j h) (fun h => h ▸ HT.out)⟩, by simp [intOf]⟩
            · have ht : tF l o 1 = false := by simp [tF, L6.at_, O.at_, hz, hn]
              have HC := Lib.hid (HO1.out 1 (by omega) ht); clear ht hz
              go_wp2
              go_ret
              exact ⟨congrArg (fun z => Ending.returned (Value.int .i64 z)) HC.out.symm, HB3.out.trans ((below_more HB.out _).mono HB3.out.size)⟩
        · have hix := fun w => ixl2 (.int .i64 l.q0.1) (.int .i64 l.q0.2) (.int .i64 l.q1.1) (.int .i64 l.q1.2) (.int .i64 l.q2.1) (.int .i64 l.q2.2) (.int .i64 l.q3.1) (.int .i64 l.q3.2) (.int .i64 l.q4.1) (.int .i64 l.q4.2) (.int .i64 l.q5.1) (.int .i64 l.q5.2) w
          cases hz : decide (l.q2 = (0, 0))
          · have q1 := fun w => limEql l.q2 w
            have q2 := fun p q w => limGuard .eql p q l.q2 (0, 0) w
            rw [hz] at q1
            have ht : tF l o 2 = true := by simp [tF, L6.at_, O.at_, hz]
            have HT := Lib.hid ht; clear ht hz
            go_wp2
            exact ⟨⟨3, by omega, rfl, below_more HB.out _, fun j hj => (Nat.lt_or_eq_of_le (Nat.le_of_lt_succ hj)).elim (fun h => HF.out j h) (fun h => h ▸ HT.out)⟩, by simp [intOf]⟩
          · have q1 := fun w => limEql l.q2 w
            have q2 := fun p q w => limGuard .eql p q l.q2 (0, 0) w
            rw [hz] at q1
            cases hn : (o.tt != 0)
            · have ht : tF l o 2 = true := by simp [tF, L6.at_, O.at_, hz, hn]
              have HT := Lib.hid ht; clear ht hz
              go_wp2
              exact ⟨⟨3, by omega, rfl, below_more HB.out _, fun j hj => (Nat.lt_or_eq_of_le (Nat.le_of_lt_succ hj)).elim (fun h => HF.out j h) (fun h => h ▸ HT.out)⟩, by simp [intOf]⟩
            · have ht : tF l o 2 = false := by simp [tF, L6.at_, O.at_, hz, hn]
              have HC := Lib.hid (HO1.out 2 (by omega) ht); clear ht hz
              go_wp2
              go_ret
              exact ⟨congrArg (fun z => Ending.returned (Value.int .i64 z)) HC.out.symm, HB3.out.trans ((below_more HB.out _).mono HB3.out.size)⟩
        · have hix := fun w => ixl3 (.int .i64 l.q0.1) (.int .i64 l.q0.2) (.int .i64 l.q1.1) (.int .i64 l.q1.2) (.int .i64 l.q2.1) (.int .i64 l.q2.2) (.int .i64 l.q3.1) (.int .i64 l.q3.2) (.int .i64 l.q4.1) (.int .i64 l.q4.2) (.int .i64 l.q5.1) (.int .i64 l.q5.2) w
          cases hz : decide (l.q3 = (0, 0))
          · have q1 := fun w => limEql l.q3 w
            have q2 := fun p q w => limGuard .eql p q l.q3 (0, 0) w
            rw [hz] at q1
            have ht : tF l o 3 = true := by simp [tF, L6.at_, O.at_, hz]
            have HT := Lib.hid ht; clear ht hz
            go_wp2
            exact ⟨⟨4, by omega, rfl, below_more HB.out _, fun j hj => (Nat.lt_or_eq_of_le (Nat.le_of_lt_succ hj)).elim (fun h => HF.out j h) (fun h => h ▸ HT.out)⟩, by simp [intOf]⟩
          · have q1 := fun w => limEql l.q3 w
            have q2 := fun p q w => limGuard .eql p q l.q3 (0, 0) w
            rw [hz] at q1
            cases hn : (o.sk != 0)
            · have ht : tF l o 3 = true := by simp [tF, L6.at_, O.at_, hz, hn]
              have HT := Lib.hid ht; clear ht hz
              go_wp2
              exact ⟨⟨4, by omega, rfl, below_more HB.out _, fun j hj => (Nat.lt_or_eq_of_le (Nat.le_of_lt_succ hj)).elim (fun h => HF.out j h) (fun h => h ▸ HT.out)⟩, by simp [intOf]⟩
            · have ht : tF l o 3 = false := by simp [tF, L6.at_, O.at_, hz, hn]
              have HC := Lib.hid (HO1.out 3 (by omega) ht); clear ht hz
              go_wp2
              go_ret
              exact ⟨congrArg (fun z => Ending.returned (Value.int .i64 z)) HC.out.symm, HB3.out.trans ((below_more HB.out _).mono HB3.out.size)⟩
        · have hix := fun w => ixl4 (.int .i64 l.q0.1) (.int .i64 l.q0.2) (.int .i64 l.q1.1) (.int .i64 l.q1.2) (.int .i64 l.q2.1) (.int .i64 l.q2.2) (.int .i64 l.q3.1) (.int .i64 l.q3.2) (.int .i64 l.q4.1) (.int .i64 l.q4.2) (.int .i64 l.q5.1) (.int .i64 l.q5.2) w
          cases hz : decide (l.q4 = (0, 0))
          · have q1 := fun w => limEql l.q4 w
            have q2 := fun p q w => limGuard .eql p q l.q4 (0, 0) w
            rw [hz] at q1
            have ht : tF l o 4 = true := by simp [tF, L6.at_, O.at_, hz]
            have HT := Lib.hid ht; clear ht hz
            go_wp2
            exact ⟨⟨5, by omega, rfl, below_more HB.out _, fun j hj => (Nat.lt_or_eq_of_le (Nat.le_of_lt_succ hj)).elim (fun h => HF.out j h) (fun h => h ▸ HT.out)⟩, by simp [intOf]⟩
          · have q1 := fun w => limEql l.q4 w
            have q2 := fun p q w => limGuard .eql p q l.q4 (0, 0) w
            rw [hz] at q1
            cases hn : (o.qt != 0)
            · have ht : tF l o 4 = true := by simp [tF, L6.at_, O.at_, hz, hn]
              have HT := Lib.hid ht; clear ht hz
              go_wp2
              exact ⟨⟨5, by omega, rfl, below_more HB.out _, fun j hj => (Nat.lt_or_eq_of_le (Nat.le_of_lt_succ hj)).elim (fun h => HF.out j h) (fun h => h ▸ HT.out)⟩, by simp [intOf]⟩
            · have ht : tF l o 4 = false := by simp [tF, L6.at_, O.at_, hz, hn]
              have HC := Lib.hid (HO1.out 4 (by omega) ht); clear ht hz
              go_wp2
              go_ret
              exact ⟨congrArg (fun z => Ending.returned (Value.int .i64 z)) HC.out.symm, HB3.out.trans ((below_more HB.out _).mono HB3.out.size)⟩
        · have hix := fun w => ixl5 (.int .i64 l.q0.1) (.int .i64 l.q0.2) (.int .i64 l.q1.1) (.int .i64 l.q1.2) (.int .i64 l.q2.1) (.int .i64 l.q2.2) (.int .i64 l.q3.1) (.int .i64 l.q3.2) (.int .i64 l.q4.1) (.int .i64 l.q4.2) (.int .i64 l.q5.1) (.int .i64 l.q5.2) w
          cases hz : decide (l.q5 = (0, 0))
          · have q1 := fun w => limEql l.q5 w
            have q2 := fun p q w => limGuard .eql p q l.q5 (0, 0) w
            rw [hz] at q1
            have ht : tF l o 5 = true := by simp [tF, L6.at_, O.at_, hz]
            have HT := Lib.hid ht; clear ht hz
            go_wp2
            exact ⟨⟨6, by omega, rfl, below_more HB.out _, fun j hj => (Nat.lt_or_eq_of_le (Nat.le_of_lt_succ hj)).elim (fun h => HF.out j h) (fun h => h ▸ HT.out)⟩, by simp [intOf]⟩
          · have q1 := fun w => limEql l.q5 w
            have q2 := fun p q w => limGuard .eql p q l.q5 (0, 0) w
            rw [hz] at q1
            cases hn : (o.hd != 0)
            · have ht : tF l o 5 = true := by simp [tF, L6.at_, O.at_, hz, hn]
              have HT := Lib.hid ht; clear ht hz
              go_wp2
              exact ⟨⟨6, by omega, rfl, below_more HB.out _, fun j hj => (Nat.lt_or_eq_of_le (Nat.le_of_lt_succ hj)).elim (fun h => HF.out j h) (fun h => h ▸ HT.out)⟩, by simp [intOf]⟩
            · have ht : tF l o 5 = false := by simp [tF, L6.at_, O.at_, hz, hn]
              have HC := Lib.hid (HO1.out 5 (by omega) ht); clear ht hz
              go_wp2
              go_ret
              exact ⟨congrArg (fun z => Ending.returned (Value.int .i64 z)) HC.out.symm, HB3.out.trans ((below_more HB.out _).mono HB3.out.size)⟩
      · obtain rfl : k = 6 := by omega
        have hlc := lim_cells ((hbel.block _ (heap_lt HLM.out)).trans HLM.out)
        obtain ⟨d0, d1, d2, d3, d4, d5, d6, d7, d8, d9, d10, d11, hdz'⟩ := hlc
        clear hbel num9 num0 num1 num2 num3 num4 num5
        go_wp2
        clear d0 d1 d2 d3 d4 d5 d6 d7 d8 d9 d10 d11
        go_loopw [37] (fun i wr => ∃ k : Nat, k ≤ 6 ∧ i = .int .i64 k ∧ Below W.heap.size W wr ∧ Hid (∀ j, j < k → tR l o j = true)) (fun i _ => 6 - (intOf i).toNat)
        case atStart => exact ⟨0, Nat.zero_le _, rfl, HB.out, fun j hj => absurd hj (Nat.not_lt_zero _)⟩
        case round =>
          clear HB hnz hdz' hk hlt
          obtain ⟨k, hk, rfl, hbel, hR⟩ := hrel
          have HR := Lib.hid hR.out; clear hR
          have HB := Lib.hid hbel
          have hnc := num_cells ((hbel.block _ (heap_lt HN.out)).trans HN.out)
          obtain ⟨num9, num0, num1, num2, num3, num4, num5, hnz⟩ := hnc
          by_cases hlt : k < 6
          · clear hbel num9
            rcases six hlt with rfl | rfl | rfl | rfl | rfl | rfl
            · have hix := fun w => ixl0 (.int .i64 l.q0.1) (.int .i64 l.q0.2) (.int .i64 l.q1.1) (.int .i64 l.q1.2) (.int .i64 l.q2.1) (.int .i64 l.q2.2) (.int .i64 l.q3.1) (.int .i64 l.q3.2) (.int .i64 l.q4.1) (.int .i64 l.q4.2) (.int .i64 l.q5.1) (.int .i64 l.q5.2) w
              cases hlo : decide (o.rq < l.q0.1)
              · cases hhi : decide (o.rq > l.q0.2)
                · have ht : tR l o 0 = true := by simp [tR, L6.at_, O.at_, hlo, hhi]
                  have HT := Lib.hid ht; clear ht
                  go_wp2
                  go_quiet (fail)
                  go_wp2
                  exact ⟨⟨1, by omega, rfl, below_drewN' (below_more HB.out _) _, fun j hj => (Nat.lt_or_eq_of_le (Nat.le_of_lt_succ hj)).elim (fun h => HR.out j h) (fun h => h ▸ HT.out)⟩, by simp [intOf]⟩
                · have ht : tR l o 0 = false := by simp [tR, L6.at_, O.at_, hlo, hhi]
                  have HC := Lib.hid (HO3.out HF.out 0 (by omega) ht); clear ht
                  go_wp2
                  go_quiet (fail)
                  go_wp2
                  go_ret
                  exact ⟨congrArg (fun z => Ending.returned (Value.int .i64 z)) HC.out.symm, HB3.out.trans ((below_drewN' (below_more HB.out _) _).mono HB3.out.size)⟩
              · have ht : tR l o 0 = false := by simp [tR, L6.at_, O.at_, hlo]
                have HC := Lib.hid (HO3.out HF.out 0 (by omega) ht); clear ht
                go_wp2
                go_quiet (fail)
                go_wp2
                go_ret
                exact ⟨congrArg (fun z => Ending.returned (Value.int .i64 z)) HC.out.symm, HB3.out.trans ((below_drewN' (below_more HB.out _) _).mono HB3.out.size)⟩
            · have hix := fun w => ixl1 (.int .i64 l.q0.1) (.int .i64 l.q0.2) (.int .i64 l.q1.1) (.int .i64 l.q1.2) (.int .i64 l.q2.1) (.int .i64 l.q2.2) (.int .i64 l.q3.1) (.int .i64 l.q3.2) (.int .i64 l.q4.1) (.int .i64 l.q4.2) (.int .i64 l.q5.1) (.int .i64 l.q5.2) w
              cases hlo : decide (o.lc < l.q1.1)
              · cases hhi : decide (o.lc > l.q1.2)
                · have ht : tR l o 1 = true := by simp [tR, L6.at_, O.at_, hlo, hhi]
                  have HT := Lib.hid ht; clear ht
                  go_wp2
                  go_quiet (fail)
                  go_wp2
                  exact ⟨⟨2, by omega, rfl, below_drewN' (below_more HB.out _) _, fun j hj => (Nat.lt_or_eq_of_le (Nat.le_of_lt_succ hj)).elim (fun h => HR.out j h) (fun h => h ▸ HT.out)⟩, by simp [intOf]⟩
                · have ht : tR l o 1 = false := by simp [tR, L6.at_, O.at_, hlo, hhi]
                  have HC := Lib.hid (HO3.out HF.out 1 (by omega) ht); clear ht
                  go_wp2
                  go_quiet (fail)
                  go_wp2
                  go_ret
                  exact ⟨congrArg (fun z => Ending.returned (Value.int .i64 z)) HC.out.symm, HB3.out.trans ((below_drewN' (below_more HB.out _) _).mono HB3.out.size)⟩
              · have ht : tR l o 1 = false := by simp [tR, L6.at_, O.at_, hlo]
                have HC := Lib.hid (HO3.out HF.out 1 (by omega) ht); clear ht
                go_wp2
                go_quiet (fail)
                go_wp2
                go_ret
                exact ⟨congrArg (fun z => Ending.returned (Value.int .i64 z)) HC.out.symm, HB3.out.trans ((below_drewN' (below_more HB.out _) _).mono HB3.out.size)⟩
            · have hix := fun w => ixl2 (.int .i64 l.q0.1) (.int .i64 l.q0.2) (.int .i64 l.q1.1) (.int .i64 l.q1.2) (.int .i64 l.q2.1) (.int .i64 l.q2.2) (.int .i64 l.q3.1) (.int .i64 l.q3.2) (.int .i64 l.q4.1) (.int .i64 l.q4.2) (.int .i64 l.q5.1) (.int .i64 l.q5.2) w
              cases hlo : decide (o.tt < l.q2.1)
              · cases hhi : decide (o.tt > l.q2.2)
                · have ht : tR l o 2 = true := by simp [tR, L6.at_, O.at_, hlo, hhi]
                  have HT := Lib.hid ht; clear ht
                  go_wp2
                  go_quiet (fail)
                  go_wp2
                  exact ⟨⟨3, by omega, rfl, below_drewN' (below_more HB.out _) _, fun j hj => (Nat.lt_or_eq_of_le (Nat.le_of_lt_succ hj)).elim (fun h => HR.out j h) (fun h => h ▸ HT.out)⟩, by simp [intOf]⟩
                · have ht : tR l o 2 = false := by simp [tR, L6.at_, O.at_, hlo, hhi]
                  have HC := Lib.hid (HO3.out HF.out 2 (by omega) ht); clear ht
                  go_wp2
                  go_quiet (fail)
                  go_wp2
                  go_ret
                  exact ⟨congrArg (fun z => Ending.returned (Value.int .i64 z)) HC.out.symm, HB3.out.trans ((below_drewN' (below_more HB.out _) _).mono HB3.out.size)⟩
              · have ht : tR l o 2 = false := by simp [tR, L6.at_, O.at_, hlo]
                have HC := Lib.hid (HO3.out HF.out 2 (by omega) ht); clear ht
                go_wp2
                go_quiet (fail)
                go_wp2
                go_ret
                exact ⟨congrArg (fun z => Ending.returned (Value.int .i64 z)) HC.out.symm, HB3.out.trans ((below_drewN' (below_more HB.out _) _).mono HB3.out.size)⟩
            · have hix := fun w => ixl3 (.int .i64 l.q0.1) (.int .i64 l.q0.2) (.int .i64 l.q1.1) (.int .i64 l.q1.2) (.int .i64 l.q2.1) (.int .i64 l.q2.2) (.int .i64 l.q3.1) (.int .i64 l.q3.2) (.int .i64 l.q4.1) (.int .i64 l.q4.2) (.int .i64 l.q5.1) (.int .i64 l.q5.2) w
              cases hlo : decide (o.sk < l.q3.1)
              · cases hhi : decide (o.sk > l.q3.2)
                · have ht : tR l o 3 = true := by simp [tR, L6.at_, O.at_, hlo, hhi]
                  have HT := Lib.hid ht; clear ht
                  go_wp2
                  go_quiet (fail)
                  go_wp2
                  exact ⟨⟨4, by omega, rfl, below_drewN' (below_more HB.out _) _, fun j hj => (Nat.lt_or_eq_of_le (Nat.le_of_lt_succ hj)).elim (fun h => HR.out j h) (fun h => h ▸ HT.out)⟩, by simp [intOf]⟩
                · have ht : tR l o 3 = false := by simp [tR, L6.at_, O.at_, hlo, hhi]
                  have HC := Lib.hid (HO3.out HF.out 3 (by omega) ht); clear ht
                  go_wp2
                  go_quiet (fail)
                  go_wp2
                  go_ret
                  exact ⟨congrArg (fun z => Ending.returned (Value.int .i64 z)) HC.out.symm, HB3.out.trans ((below_drewN' (below_more HB.out _) _).mono HB3.out.size)⟩
              · have ht : tR l o 3 = false := by simp [tR, L6.at_, O.at_, hlo]
                have HC := Lib.hid (HO3.out HF.out 3 (by omega) ht); clear ht
                go_wp2
                go_quiet (fail)
                go_wp2
                go_ret
                exact ⟨congrArg (fun z => Ending.returned (Value.int .i64 z)) HC.out.symm, HB3.out.trans ((below_drewN' (below_more HB.out _) _).mono HB3.out.size)⟩
            · have hix := fun w => ixl4 (.int .i64 l.q0.1) (.int .i64 l.q0.2) (.int .i64 l.q1.1) (.int .i64 l.q1.2) (.int .i64 l.q2.1) (.int .i64 l.q2.2) (.int .i64 l.q3.1) (.int .i64 l.q3.2) (.int .i64 l.q4.1) (.int .i64 l.q4.2) (.int .i64 l.q5.1) (.int .i64 l.q5.2) w
              cases hlo : decide (o.qt < l.q4.1)
              · cases hhi : decide (o.qt > l.q4.2)
                · have ht : tR l o 4 = true := by simp [tR, L6.at_, O.at_, hlo, hhi]
                  have HT := Lib.hid ht; clear ht
                  go_wp2
                  go_quiet (fail)
                  go_wp2
                  exact ⟨⟨5, by omega, rfl, below_drewN' (below_more HB.out _) _, fun j hj => (Nat.lt_or_eq_of_le (Nat.le_of_lt_succ hj)).elim (fun h => HR.out j h) (fun h => h ▸ HT.out)⟩, by simp [intOf]⟩
                · have ht : tR l o 4 = false := by simp [tR, L6.at_, O.at_, hlo, hhi]
                  have HC := Lib.hid (HO3.out HF.out 4 (by omega) ht); clear ht
                  go_wp2
                  go_quiet (fail)
                  go_wp2
                  go_ret
                  exact ⟨congrArg (fun z => Ending.returned (Value.int .i64 z)) HC.out.symm, HB3.out.trans ((below_drewN' (below_more HB.out _) _).mono HB3.out.size)⟩
              · have ht : tR l o 4 = false := by simp [tR, L6.at_, O.at_, hlo]
                have HC := Lib.hid (HO3.out HF.out 4 (by omega) ht); clear ht
                go_wp2
                go_quiet (fail)
                go_wp2
                go_ret
                exact ⟨congrArg (fun z => Ending.returned (Value.int .i64 z)) HC.out.symm, HB3.out.trans ((below_drewN' (below_more HB.out _) _).mono HB3.out.size)⟩
            · have hix := fun w => ixl5 (.int .i64 l.q0.1) (.int .i64 l.q0.2) (.int .i64 l.q1.1) (.int .i64 l.q1.2) (.int .i64 l.q2.1) (.int .i64 l.q2.2) (.int .i64 l.q3.1) (.int .i64 l.q3.2) (.int .i64 l.q4.1) (.int .i64 l.q4.2) (.int .i64 l.q5.1) (.int .i64 l.q5.2) w
              cases hlo : decide (o.hd < l.q5.1)
              · cases hhi : decide (o.hd > l.q5.2)
                · have ht : tR l o 5 = true := by simp [tR, L6.at_, O.at_, hlo, hhi]
                  have HT := Lib.hid ht; clear ht
                  go_wp2
                  go_quiet (fail)
                  go_wp2
                  exact ⟨⟨6, by omega, rfl, below_drewN' (below_more HB.out _) _, fun j hj => (Nat.lt_or_eq_of_le (Nat.le_of_lt_succ hj)).elim (fun h => HR.out j h) (fun h => h ▸ HT.out)⟩, by simp [intOf]⟩
                · have ht : tR l o 5 = false := by simp [tR, L6.at_, O.at_, hlo, hhi]
                  have HC := Lib.hid (HO3.out HF.out 5 (by omega) ht); clear ht
                  go_wp2
                  go_quiet (fail)
                  go_wp2
                  go_ret
                  exact ⟨congrArg (fun z => Ending.returned (Value.int .i64 z)) HC.out.symm, HB3.out.trans ((below_drewN' (below_more HB.out _) _).mono HB3.out.size)⟩
              · have ht : tR l o 5 = false := by simp [tR, L6.at_, O.at_, hlo]
                have HC := Lib.hid (HO3.out HF.out 5 (by omega) ht); clear ht
                go_wp2
                go_quiet (fail)
                go_wp2
                go_ret
                exact ⟨congrArg (fun z => Ending.returned (Value.int .i64 z)) HC.out.symm, HB3.out.trans ((below_drewN' (below_more HB.out _) _).mono HB3.out.size)⟩
          · obtain rfl : k = 6 := by omega
            have hoc := op_cells' ((hbel.block _ (heap_lt HG.out)).trans HG.out)
            obtain ⟨o0, o1, o2, o3, o4, o5, o6, hoz⟩ := hoc
            have hc := HOE.out HF.out HR.out
            clear hbel num9 num0 num1 num2 num3 num4 num5
            by_cases h6 : o.k = 6
            · by_cases ht : o.tt = o.lc
              · rw [if_pos ⟨h6, ht⟩] at hc
                have HC := Lib.hid hc; clear hc
                go_wp2
                go_ret
                exact ⟨congrArg (fun z => Ending.returned (Value.int .i64 z)) HC.out.symm, HB3.out.trans (HB.out.mono HB3.out.size)⟩
              · rw [if_neg (fun h => ht h.2)] at hc
                have HC := Lib.hid hc; clear hc
                go_wp2
                go_ret
                exact ⟨congrArg (fun z => Ending.returned (Value.int .i64 z)) HC.out.symm, HB3.out.trans (HB.out.mono HB3.out.size)⟩
            · rw [if_neg (fun h => h6 h.1)] at hc
              have HC := Lib.hid hc; clear hc
              go_wp2
              go_ret
              exact ⟨congrArg (fun z => Ending.returned (Value.int .i64 z)) HC.out.symm, HB3.out.trans (HB.out.mono HB3.out.size)⟩
end Go.Proofs.YtocllaendofndaaDoor
