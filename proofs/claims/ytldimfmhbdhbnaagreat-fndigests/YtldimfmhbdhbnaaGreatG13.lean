/-
  The program's functions of chapter 7, first part: what tells whether a row belongs into a part; arrays with a value a part; the faults of parts. By a maker (gen7i.py).
-/
import Derived.Test.YtldimfmhbdhbnaaGreatG43
import Derived.Test.YtldimfmhbdhbnaaGreatG21
import Derived.Test.YtldimfmhbdhbnaaGreatImpl6a
import Derived.Test.YtldimfmhbdhbnaaGreatG23
import Derived.Test.YtldimfmhbdhbnaaGreatG16
import Derived.Deep.Slices
namespace Go.Proofs.YtldimfmhbdhbnaaGreat
open Go.RowKit

theorem rowPart_q (r : R) (Q : Int) (hQ : rpart r = Q) (w : World) (hf : Fit r) :
    Calls Tryz.prog 99 #[rv r] w fun e w' => e = .returned (.int .i64 Q) ∧ Below w.heap.size w w' := by
  subst hQ
  exact rowPart_c r w hf
theorem isFilled_b (r : R) (b : Bool) (hb : emptyB r = b) (w : World) :
    Calls Tryz.prog 64 #[rv r] w fun e w' => e = .returned (.bool (!b)) ∧ Below w.heap.size w w' := by
  have H := Lib.hid hb; clear hb
  cases b
  all_goals
    go_enter Tryz.func64, Tryz.ntmps64
    go_wp2_with fail
    refine (isEmptyRow_b r _ H.out _).mono ?_
    rintro e w' ⟨rfl, hw⟩
    have HW := Lib.hid hw; clear hw
    go_wp2
    go_ret
    exact ⟨rfl, by rw [HW.out]; exact below_more (below_new _) _⟩

set_option maxRecDepth 100000 in
set_option maxHeartbeats 2000000 in
theorem partPred (at_ : Int) (B : Nat) (w : World) (h1 : w.cell? ⟨B, 0, none⟩ = some (.int .i64 at_)) (l1 : B < w.heap.size) :
    PredRow 118 #[.pointer (some ⟨B, 0, none⟩)] (fitB at_) w := by
  intro W x hx hb
  have g1 : W.cell? ⟨B, 0, none⟩ = some (.int .i64 at_) := (hb.cell (p := ⟨B, 0, none⟩) l1).trans h1
  have m1 : B < W.heap.size := Nat.lt_of_lt_of_le l1 hb.size
  have HX := Lib.hid hx
  clear hb h1 l1 hx
  have g1 := ((below_new (w := W) (rbox x)).cell (p := ⟨B, 0, none⟩) m1).trans g1
  obtain ⟨c0, c1, c2, c3, _, _, _, _, hz⟩ := four_at (heap_new W (rbox x) rfl)
  have hB0 : Below W.heap.size W (W.alloc (rbox x)) := below_new _
  have HB0 := Lib.hid hB0
  have hS0 : W.heap.size ≤ (W.alloc (rbox x)).heap.size := by simp
  clear hB0
  obtain ⟨Q, hq⟩ : ∃ Q, Q = rpart x := ⟨_, rfl⟩
  have HQ : Hid (rpart x = Q) := hq.symm
  clear hq
  show Calls Tryz.prog 118 #[rv x, .pointer (some ⟨B, 0, none⟩)] W fun e w' => e = .returned (.bool ((fitB at_) x)) ∧ Below W.heap.size W w'
  cases he : emptyB x
  case true =>
    have HE := Lib.hid he
    have hr : fitB at_ x = false := by unfold fitB; rw [he]; simp
    rw [hr]
    clear he hr
    go_enter Tryz.func118, Tryz.ntmps118
    go_wp2_with fail
    generalize W.alloc (rbox x) = W0 at *
    have hld : ∀ w', Below W0.heap.size W0 w' → w'.cell? ⟨W.heap.size, 0, none⟩ = some (.int .i64 x.1) ∧ w'.cell? ⟨W.heap.size, 1, none⟩ = some (.int .i64 x.2.1) ∧ w'.cell? ⟨W.heap.size, 2, none⟩ = some (.int .i64 x.2.2.1) ∧ w'.cell? ⟨W.heap.size, 3, none⟩ = some (.int .i64 x.2.2.2) ∧ w'.cell? ⟨B, 0, none⟩ = some (.int .i64 at_) := fun w' h => ⟨(h.cell (p := ⟨W.heap.size, 0, none⟩) hz).trans c0, (h.cell (p := ⟨W.heap.size, 1, none⟩) hz).trans c1, (h.cell (p := ⟨W.heap.size, 2, none⟩) hz).trans c2, (h.cell (p := ⟨W.heap.size, 3, none⟩) hz).trans c3, (h.cell (p := ⟨B, 0, none⟩) (Nat.lt_trans m1 hz)).trans g1⟩
    have HLD := Lib.hid hld; clear hld
    refine wp_region_sched (fun w' => Below W0.heap.size W0 w') [(0, true), (1, false), (2, true), (3, true), (5, true), (4, false), (6, true), (7, true), (8, true)] (by kernel_rfl) (by kernel_rfl) (by kernel_rfl) (by kernel_rfl) (fun _ _ d _ _ h => by cases d <;> exact h) ⟨rfl, rfl, rfl, Nat.le_refl _, fun _ _ => rfl⟩ ?_
    simp only [opsOf, List.filterMap_cons, List.filterMap_nil, Option.map_some, List.getElem?_toArray, List.getElem?_cons_zero, List.getElem?_cons_succ]
    generalize hW0 : ({ heap := W0.heap, tape := W0.tape, drawn := W0.drawn + 1, os := W0.os, output := W0.output } : World) = v0
    have hv0 : Below W0.heap.size W0 v0 := by rw [← hW0]; exact ⟨rfl, rfl, rfl, Nat.le_refl _, fun _ _ => rfl⟩
    clear hW0
    refine sched_run (v := ?_) (by rfl) ?_ ?_
    rotate_left
    · (intro w' hS'; obtain ⟨a0, a1, a2, a3, a4⟩ := HLD.out w' hS'; go_simp; try with_reducible rfl)
    try simp only [Act.put, List.setIfInBounds_toArray, List.set_cons_zero, List.set_cons_succ]
    refine sched_call (by rfl) (fun K hK => ?_)
    go_simp
    refine (isFilled_b x _ HE.out _).mono ?_
    rintro e v1 ⟨rfl, hbv0⟩
    have hv1 : Below W0.heap.size W0 v1 := hv0.trans (hbv0.mono hv0.size)
    clear hbv0
    refine hK _ _ hv1 ?_
    try simp only [Act.put, List.setIfInBounds_toArray, List.set_cons_zero, List.set_cons_succ]
    refine sched_run (v := ?_) (by rfl) ?_ ?_
    rotate_left
    · (intro w' hS'; go_simp; try with_reducible rfl)
    try simp only [Act.put, List.setIfInBounds_toArray, List.set_cons_zero, List.set_cons_succ]
    refine sched_skip (by rfl) ?_
    try simp only [Act.put, List.setIfInBounds_toArray, List.set_cons_zero, List.set_cons_succ]
    refine sched_skip (by rfl) ?_
    try simp only [Act.put, List.setIfInBounds_toArray, List.set_cons_zero, List.set_cons_succ]
    refine sched_skip' (by rfl) ?_
    try simp only [Act.put, List.setIfInBounds_toArray, List.set_cons_zero, List.set_cons_succ]
    refine sched_skip (by rfl) ?_
    try simp only [Act.put, List.setIfInBounds_toArray, List.set_cons_zero, List.set_cons_succ]
    refine sched_run (v := ?_) (by rfl) ?_ ?_
    rotate_left
    · (intro w' hS'; go_simp; try with_reducible rfl)
    try simp only [Act.put, List.setIfInBounds_toArray, List.set_cons_zero, List.set_cons_succ]
    refine sched_run (v := ?_) (by rfl) ?_ ?_
    rotate_left
    · (intro w' hS'; go_simp; try with_reducible rfl)
    try simp only [Act.put, List.setIfInBounds_toArray, List.set_cons_zero, List.set_cons_succ]
    refine sched_done ?_
    go_wp2_with fail
    go_ret
    exact ⟨rfl, HB0.out.trans (hv1.mono hS0)⟩
  case false =>
    have HE := Lib.hid he
    have hr : fitB at_ x = decide (Q = at_) := by unfold fitB; rw [he, HQ.out]; simp
    rw [hr]
    have t1 : (Q == at_) = decide (Q = at_) := rfl
    generalize decide (Q = at_) = D at *
    clear he hr
    go_enter Tryz.func118, Tryz.ntmps118
    go_wp2_with fail
    generalize W.alloc (rbox x) = W0 at *
    have hld : ∀ w', Below W0.heap.size W0 w' → w'.cell? ⟨W.heap.size, 0, none⟩ = some (.int .i64 x.1) ∧ w'.cell? ⟨W.heap.size, 1, none⟩ = some (.int .i64 x.2.1) ∧ w'.cell? ⟨W.heap.size, 2, none⟩ = some (.int .i64 x.2.2.1) ∧ w'.cell? ⟨W.heap.size, 3, none⟩ = some (.int .i64 x.2.2.2) ∧ w'.cell? ⟨B, 0, none⟩ = some (.int .i64 at_) := fun w' h => ⟨(h.cell (p := ⟨W.heap.size, 0, none⟩) hz).trans c0, (h.cell (p := ⟨W.heap.size, 1, none⟩) hz).trans c1, (h.cell (p := ⟨W.heap.size, 2, none⟩) hz).trans c2, (h.cell (p := ⟨W.heap.size, 3, none⟩) hz).trans c3, (h.cell (p := ⟨B, 0, none⟩) (Nat.lt_trans m1 hz)).trans g1⟩
    have HLD := Lib.hid hld; clear hld
    refine wp_region_sched (fun w' => Below W0.heap.size W0 w') [(0, true), (1, false), (2, true), (3, true), (5, true), (4, false), (6, true), (7, true), (8, true)] (by kernel_rfl) (by kernel_rfl) (by kernel_rfl) (by kernel_rfl) (fun _ _ d _ _ h => by cases d <;> exact h) ⟨rfl, rfl, rfl, Nat.le_refl _, fun _ _ => rfl⟩ ?_
    simp only [opsOf, List.filterMap_cons, List.filterMap_nil, Option.map_some, List.getElem?_toArray, List.getElem?_cons_zero, List.getElem?_cons_succ]
    generalize hW0 : ({ heap := W0.heap, tape := W0.tape, drawn := W0.drawn + 1, os := W0.os, output := W0.output } : World) = v0
    have hv0 : Below W0.heap.size W0 v0 := by rw [← hW0]; exact ⟨rfl, rfl, rfl, Nat.le_refl _, fun _ _ => rfl⟩
    clear hW0
    refine sched_run (v := ?_) (by rfl) ?_ ?_
    rotate_left
    · (intro w' hS'; obtain ⟨a0, a1, a2, a3, a4⟩ := HLD.out w' hS'; go_simp; try with_reducible rfl)
    try simp only [Act.put, List.setIfInBounds_toArray, List.set_cons_zero, List.set_cons_succ]
    refine sched_call (by rfl) (fun K hK => ?_)
    go_simp
    refine (isFilled_b x _ HE.out _).mono ?_
    rintro e v1 ⟨rfl, hbv0⟩
    have hv1 : Below W0.heap.size W0 v1 := hv0.trans (hbv0.mono hv0.size)
    clear hbv0
    refine hK _ _ hv1 ?_
    try simp only [Act.put, List.setIfInBounds_toArray, List.set_cons_zero, List.set_cons_succ]
    refine sched_run (v := ?_) (by rfl) ?_ ?_
    rotate_left
    · (intro w' hS'; go_simp; try with_reducible rfl)
    try simp only [Act.put, List.setIfInBounds_toArray, List.set_cons_zero, List.set_cons_succ]
    refine sched_run (v := ?_) (by rfl) ?_ ?_
    rotate_left
    · (intro w' hS'; obtain ⟨a0, a1, a2, a3, a4⟩ := HLD.out w' hS'; go_simp; try with_reducible rfl)
    try simp only [Act.put, List.setIfInBounds_toArray, List.set_cons_zero, List.set_cons_succ]
    refine sched_run (v := ?_) (by rfl) ?_ ?_
    rotate_left
    · (intro w' hS'; obtain ⟨a0, a1, a2, a3, a4⟩ := HLD.out w' hS'; go_simp; try with_reducible rfl)
    try simp only [Act.put, List.setIfInBounds_toArray, List.set_cons_zero, List.set_cons_succ]
    refine sched_call (by rfl) (fun K hK => ?_)
    go_simp
    refine (rowPart_q x Q HQ.out _ HX.out).mono ?_
    rintro e v2 ⟨rfl, hbv1⟩
    have hv2 : Below W0.heap.size W0 v2 := hv1.trans (hbv1.mono hv1.size)
    clear hbv1
    refine hK _ _ hv2 ?_
    try simp only [Act.put, List.setIfInBounds_toArray, List.set_cons_zero, List.set_cons_succ]
    refine sched_run (v := ?_) (by rfl) ?_ ?_
    rotate_left
    · (intro w' hS'; go_simp; try with_reducible rfl)
    try simp only [Act.put, List.setIfInBounds_toArray, List.set_cons_zero, List.set_cons_succ]
    refine sched_run (v := ?_) (by rfl) ?_ ?_
    rotate_left
    · (intro w' hS'; go_simp; try with_reducible rfl)
    try simp only [Act.put, List.setIfInBounds_toArray, List.set_cons_zero, List.set_cons_succ]
    refine sched_run (v := ?_) (by rfl) ?_ ?_
    rotate_left
    · (intro w' hS'; go_simp; try with_reducible rfl)
    try simp only [Act.put, List.setIfInBounds_toArray, List.set_cons_zero, List.set_cons_succ]
    refine sched_done ?_
    go_wp2_with fail
    go_ret
    exact ⟨by first | rfl | simp [t1], HB0.out.trans (hv2.mono hS0)⟩

set_option maxRecDepth 100000 in
set_option maxHeartbeats 2000000 in
theorem ownPred (at_ : Int) (B : Nat) (w : World) (h1 : w.cell? ⟨B, 0, none⟩ = some (.int .i64 at_)) (l1 : B < w.heap.size) :
    PredRow 98 #[.pointer (some ⟨B, 0, none⟩)] (fun r => decide (rpart r = at_)) w := by
  intro W x hx hb
  have g1 : W.cell? ⟨B, 0, none⟩ = some (.int .i64 at_) := (hb.cell (p := ⟨B, 0, none⟩) l1).trans h1
  have m1 : B < W.heap.size := Nat.lt_of_lt_of_le l1 hb.size
  have HX := Lib.hid hx
  clear hb h1 l1 hx
  have g1 := ((below_new (w := W) (rbox x)).cell (p := ⟨B, 0, none⟩) m1).trans g1
  obtain ⟨c0, c1, c2, c3, _, _, _, _, hz⟩ := four_at (heap_new W (rbox x) rfl)
  have hB0 : Below W.heap.size W (W.alloc (rbox x)) := below_new _
  have HB0 := Lib.hid hB0
  have hS0 : W.heap.size ≤ (W.alloc (rbox x)).heap.size := by simp
  clear hB0
  obtain ⟨Q, hq⟩ : ∃ Q, Q = rpart x := ⟨_, rfl⟩
  have HQ : Hid (rpart x = Q) := hq.symm
  clear hq
  show Calls Tryz.prog 98 #[rv x, .pointer (some ⟨B, 0, none⟩)] W fun e w' => e = .returned (.bool ((fun r => decide (rpart r = at_)) x)) ∧ Below W.heap.size W w'
  · have hr : (fun r => decide (rpart r = at_)) x = decide (Q = at_) := by show decide (rpart x = at_) = _; rw [HQ.out]
    rw [hr]
    have t1 : (Q == at_) = decide (Q = at_) := rfl
    generalize decide (Q = at_) = D at *
    clear hr
    go_enter Tryz.func98, Tryz.ntmps98
    go_wp2_with fail
    generalize W.alloc (rbox x) = W0 at *
    have hld : ∀ w', Below W0.heap.size W0 w' → w'.cell? ⟨W.heap.size, 0, none⟩ = some (.int .i64 x.1) ∧ w'.cell? ⟨W.heap.size, 1, none⟩ = some (.int .i64 x.2.1) ∧ w'.cell? ⟨W.heap.size, 2, none⟩ = some (.int .i64 x.2.2.1) ∧ w'.cell? ⟨W.heap.size, 3, none⟩ = some (.int .i64 x.2.2.2) ∧ w'.cell? ⟨B, 0, none⟩ = some (.int .i64 at_) := fun w' h => ⟨(h.cell (p := ⟨W.heap.size, 0, none⟩) hz).trans c0, (h.cell (p := ⟨W.heap.size, 1, none⟩) hz).trans c1, (h.cell (p := ⟨W.heap.size, 2, none⟩) hz).trans c2, (h.cell (p := ⟨W.heap.size, 3, none⟩) hz).trans c3, (h.cell (p := ⟨B, 0, none⟩) (Nat.lt_trans m1 hz)).trans g1⟩
    have HLD := Lib.hid hld; clear hld
    refine wp_region_sched (fun w' => Below W0.heap.size W0 w') [(0, true), (2, true), (1, false), (3, true), (4, true)] (by kernel_rfl) (by kernel_rfl) (by kernel_rfl) (by kernel_rfl) (fun _ _ d _ _ h => by cases d <;> exact h) ⟨rfl, rfl, rfl, Nat.le_refl _, fun _ _ => rfl⟩ ?_
    simp only [opsOf, List.filterMap_cons, List.filterMap_nil, Option.map_some, List.getElem?_toArray, List.getElem?_cons_zero, List.getElem?_cons_succ]
    generalize hW0 : ({ heap := W0.heap, tape := W0.tape, drawn := W0.drawn + 1, os := W0.os, output := W0.output } : World) = v0
    have hv0 : Below W0.heap.size W0 v0 := by rw [← hW0]; exact ⟨rfl, rfl, rfl, Nat.le_refl _, fun _ _ => rfl⟩
    clear hW0
    refine sched_run (v := ?_) (by rfl) ?_ ?_
    rotate_left
    · (intro w' hS'; obtain ⟨a0, a1, a2, a3, a4⟩ := HLD.out w' hS'; go_simp; try with_reducible rfl)
    try simp only [Act.put, List.setIfInBounds_toArray, List.set_cons_zero, List.set_cons_succ]
    refine sched_run (v := ?_) (by rfl) ?_ ?_
    rotate_left
    · (intro w' hS'; obtain ⟨a0, a1, a2, a3, a4⟩ := HLD.out w' hS'; go_simp; try with_reducible rfl)
    try simp only [Act.put, List.setIfInBounds_toArray, List.set_cons_zero, List.set_cons_succ]
    refine sched_call (by rfl) (fun K hK => ?_)
    go_simp
    refine (rowPart_q x Q HQ.out _ HX.out).mono ?_
    rintro e v1 ⟨rfl, hbv0⟩
    have hv1 : Below W0.heap.size W0 v1 := hv0.trans (hbv0.mono hv0.size)
    clear hbv0
    refine hK _ _ hv1 ?_
    try simp only [Act.put, List.setIfInBounds_toArray, List.set_cons_zero, List.set_cons_succ]
    refine sched_run (v := ?_) (by rfl) ?_ ?_
    rotate_left
    · (intro w' hS'; go_simp; try with_reducible rfl)
    try simp only [Act.put, List.setIfInBounds_toArray, List.set_cons_zero, List.set_cons_succ]
    refine sched_run (v := ?_) (by rfl) ?_ ?_
    rotate_left
    · (intro w' hS'; go_simp; try with_reducible rfl)
    try simp only [Act.put, List.setIfInBounds_toArray, List.set_cons_zero, List.set_cons_succ]
    refine sched_done ?_
    go_wp2_with fail
    go_ret
    exact ⟨by first | rfl | simp [t1], HB0.out.trans (hv1.mono hS0)⟩

set_option maxRecDepth 100000 in
set_option maxHeartbeats 2000000 in
theorem forRows_c (g : Nat) (lb : Array Value) (eg : ∀ args w, (callFunc g args).run Tryz.prog w = .ok (.enter g args) w) (Af : Nat → Option Addr) (nf cf : Nat → Nat) (w : World)
    (hp : ∀ (W : World) (k : Nat), k < 3 → Below w.heap.size w W → Calls Tryz.prog g (#[.int .i64 (k : Int)] ++ lb) W fun e w' => e = .returned (.slice (Af k) (nf k) (cf k)) ∧ W = w') :
    Calls Tryz.prog 108 #[.func (.func g) #[] lb] w fun e w' => e = .returned (.agg #[.slice (Af 0) (nf 0) (cf 0), .slice (Af 1) (nf 1) (cf 1), .slice (Af 2) (nf 2) (cf 2)]) ∧ Below w.heap.size w w' := by
  have HP := Lib.hid hp; clear hp
  have ⟨us, hus⟩ : ∃ us : List Value, us = [.slice (Af 0) (nf 0) (cf 0), .slice (Af 1) (nf 1) (cf 1), .slice (Af 2) (nf 2) (cf 2)] := ⟨_, rfl⟩
  have hul : us.length = 3 := by rw [hus]; rfl
  have hget : Hid (∀ k (h : k < us.length), us[k] = .slice (Af k) (nf k) (cf k)) := by
    subst hus
    intro k h
    match k, h with
    | 0, _ => rfl
    | 1, _ => rfl
    | 2, _ => rfl
  have HUL := Lib.hid hul; have HUS := Lib.hid hus
  clear hul hus
  have HB0 := Lib.hid (below_more (below_new (w := w) (.cells #[.slice none 0 0, .slice none 0 0, .slice none 0 0] 112)) (.cells #[.slice none 0 0, .slice none 0 0, .slice none 0 0] 112))
  have HG0 := Lib.hid (heap_old (o' := .cells #[.slice none 0 0, .slice none 0 0, .slice none 0 0] 112) (heap_new w (.cells #[.slice none 0 0, .slice none 0 0, .slice none 0 0] 112) rfl))
  have hg1 := heap_new (w.alloc (.cells #[.slice none 0 0, .slice none 0 0, .slice none 0 0] 112)) (.cells #[.slice none 0 0, .slice none 0 0, .slice none 0 0] 112) (g := w.heap.size + 1) (by simp)
  have e0 : (#[.slice none 0 0, .slice none 0 0, .slice none 0 0] : Array Value) = part (.slice none 0 0) us 0 := by
    unfold part; rw [HUL.out]; rfl
  have HG1 : Hid (((w.alloc (.cells #[.slice none 0 0, .slice none 0 0, .slice none 0 0] 112)).alloc (.cells #[.slice none 0 0, .slice none 0 0, .slice none 0 0] 112)).heap[w.heap.size + 1]? = some (.cells (part (.slice none 0 0) us 0) 112 (0, 0))) := by rw [← e0]; exact hg1
  clear e0 hg1
  go_enter Tryz.func108, Tryz.ntmps108
  go_wp2_with fail
  go_loopw [5] (fun i wr => ∃ k : Nat, k ≤ 3 ∧ i = .int .i64 k ∧ Hid (Below w.heap.size w wr) ∧ Hid (wr.heap[w.heap.size]? = some (.cells #[.slice none 0 0, .slice none 0 0, .slice none 0 0] 112 (0, 0))) ∧ Hid (wr.heap[w.heap.size + 1]? = some (.cells (part (.slice none 0 0) us k) 112 (0, 0)))) (fun i _ => 3 - (intOf i).toNat)
  case atStart => exact ⟨0, Nat.zero_le _, rfl, HB0, HG0, HG1⟩
  case round =>
    clear HB0 HG0 HG1
    obtain ⟨k, hk, rfl, HB, G0, G1⟩ := hrel
    by_cases hlt : k < 3
    · have hku : k < us.length := by have := HUL.out; omega
      have c1 : wr.cell? ⟨w.heap.size + 1, k, none⟩ = some (.slice none 0 0) := by
        rw [cell_of_heap G1.out]
        have e : us.length - k = us.length - (k + 1) + 1 := by omega
        unfold part
        rw [List.getElem?_toArray, List.getElem?_append_right (by rw [List.length_take]; omega), List.length_take, Nat.min_eq_left (by omega), Nat.sub_self, e, List.replicate_succ, List.getElem?_cons_zero]
      have f1 : wr.frozen? ⟨w.heap.size + 1, k, none⟩ = false := frozen_of_heap G1.out
      have hz1 := heap_lt G1.out
      have hcall := HP.out wr k hlt HB.out
      have HST : Hid (((wr.setCell ⟨w.heap.size + 1, k, none⟩ (.slice (Af k) (nf k) (cf k))).heap[w.heap.size + 1]? = some (.cells (part (.slice none 0 0) us (k + 1)) 112 (0, 0)))) := by
        have h := heap_set1 (i := k) (v := .slice (Af k) (nf k) (cf k)) G1.out
        rw [← hget.out k hku, part_set _ _ _ hku] at h
        rw [← hget.out k hku]; exact h
      have HB2 : Hid (Below w.heap.size w (wr.setCell ⟨w.heap.size + 1, k, none⟩ (.slice (Af k) (nf k) (cf k)))) := HB.out.setCell (by simp) _
      have G02 : Hid ((wr.setCell ⟨w.heap.size + 1, k, none⟩ (.slice (Af k) (nf k) (cf k))).heap[w.heap.size]? = some (.cells #[.slice none 0 0, .slice none 0 0, .slice none 0 0] 112 (0, 0))) := by
        have h : But [w.heap.size + 1] wr (wr.setCell ⟨w.heap.size + 1, k, none⟩ (.slice (Af k) (nf k) (cf k))) := (But.refl _ _).setCell (by simp) _
        exact h.heap G0.out (by simp)
      have hk0 : (0 : Int) ≤ (k : Int) := by omega
      have hk3 : (k : Int) < 3 := by omega
      clear hku
      go_wp2_with fail
      refine hcall.mono ?_
      rintro e w1 ⟨rfl, hw⟩
      subst hw
      clear hcall
      go_wp2_with fail
      exact ⟨⟨k + 1, by omega, by go_num, HB2, G02, HST⟩, by simp [intOf]; omega⟩
    · obtain rfl : k = 3 := by omega
      have g1 := G1.out
      have e3 : part (.slice none 0 0) us 3 = us.toArray := by have h := part_full (.slice none 0 0) us; rw [HUL.out] at h; exact h
      rw [e3, HUS.out] at g1
      obtain ⟨x0, x1, x2, _, _, _, xz⟩ := three_at6 g1
      obtain ⟨y0, y1, y2, z0, z1, z2, yz⟩ := three_at6 G0.out
      clear e3 g1
      go_wp2_with fail
      refine bodyPost_ret (v := .agg #[.slice (Af 0) (nf 0) (cf 0), .slice (Af 1) (nf 1) (cf 1), .slice (Af 2) (nf 2) (cf 2)]) (by simp [results, Tryz.results108, go_sem, y0, y1, y2, x0, x1, x2]) rfl ⟨rfl, ?_⟩
      exact HB.out.trans (((((But.refl [w.heap.size] wr).setCell (by simp) _).setCell (by simp) _).setCell (by simp) _).below HB.out.size (by intro b hb; simp at hb; omega))

set_option maxRecDepth 100000 in
set_option maxHeartbeats 2000000 in
theorem forInts_c (g : Nat) (lb : Array Value) (eg : ∀ args w, (callFunc g args).run Tryz.prog w = .ok (.enter g args) w) (mf : Nat → Int) (w : World)
    (hp : ∀ (W : World) (k : Nat), k < 3 → Below w.heap.size w W → Calls Tryz.prog g (#[.int .i64 (k : Int)] ++ lb) W fun e w' => e = .returned (.int .i64 (mf k)) ∧ W = w') :
    Calls Tryz.prog 61 #[.func (.func g) #[] lb] w fun e w' => e = .returned (.agg #[.int .i64 (mf 0), .int .i64 (mf 1), .int .i64 (mf 2)]) ∧ Below w.heap.size w w' := by
  have HP := Lib.hid hp; clear hp
  have ⟨us, hus⟩ : ∃ us : List Value, us = [.int .i64 (mf 0), .int .i64 (mf 1), .int .i64 (mf 2)] := ⟨_, rfl⟩
  have hul : us.length = 3 := by rw [hus]; rfl
  have hget : Hid (∀ k (h : k < us.length), us[k] = .int .i64 (mf k)) := by
    subst hus
    intro k h
    match k, h with
    | 0, _ => rfl
    | 1, _ => rfl
    | 2, _ => rfl
  have HUL := Lib.hid hul; have HUS := Lib.hid hus
  clear hul hus
  have HB0 := Lib.hid (below_more (below_new (w := w) (.cells #[.int .i64 0, .int .i64 0, .int .i64 0] 92)) (.cells #[.int .i64 0, .int .i64 0, .int .i64 0] 92))
  have HG0 := Lib.hid (heap_old (o' := .cells #[.int .i64 0, .int .i64 0, .int .i64 0] 92) (heap_new w (.cells #[.int .i64 0, .int .i64 0, .int .i64 0] 92) rfl))
  have hg1 := heap_new (w.alloc (.cells #[.int .i64 0, .int .i64 0, .int .i64 0] 92)) (.cells #[.int .i64 0, .int .i64 0, .int .i64 0] 92) (g := w.heap.size + 1) (by simp)
  have e0 : (#[.int .i64 0, .int .i64 0, .int .i64 0] : Array Value) = part (.int .i64 0) us 0 := by
    unfold part; rw [HUL.out]; rfl
  have HG1 : Hid (((w.alloc (.cells #[.int .i64 0, .int .i64 0, .int .i64 0] 92)).alloc (.cells #[.int .i64 0, .int .i64 0, .int .i64 0] 92)).heap[w.heap.size + 1]? = some (.cells (part (.int .i64 0) us 0) 92 (0, 0))) := by rw [← e0]; exact hg1
  clear e0 hg1
  go_enter Tryz.func61, Tryz.ntmps61
  go_wp2_with fail
  go_loopw [5] (fun i wr => ∃ k : Nat, k ≤ 3 ∧ i = .int .i64 k ∧ Hid (Below w.heap.size w wr) ∧ Hid (wr.heap[w.heap.size]? = some (.cells #[.int .i64 0, .int .i64 0, .int .i64 0] 92 (0, 0))) ∧ Hid (wr.heap[w.heap.size + 1]? = some (.cells (part (.int .i64 0) us k) 92 (0, 0)))) (fun i _ => 3 - (intOf i).toNat)
  case atStart => exact ⟨0, Nat.zero_le _, rfl, HB0, HG0, HG1⟩
  case round =>
    clear HB0 HG0 HG1
    obtain ⟨k, hk, rfl, HB, G0, G1⟩ := hrel
    by_cases hlt : k < 3
    · have hku : k < us.length := by have := HUL.out; omega
      have c1 : wr.cell? ⟨w.heap.size + 1, k, none⟩ = some (.int .i64 0) := by
        rw [cell_of_heap G1.out]
        have e : us.length - k = us.length - (k + 1) + 1 := by omega
        unfold part
        rw [List.getElem?_toArray, List.getElem?_append_right (by rw [List.length_take]; omega), List.length_take, Nat.min_eq_left (by omega), Nat.sub_self, e, List.replicate_succ, List.getElem?_cons_zero]
      have f1 : wr.frozen? ⟨w.heap.size + 1, k, none⟩ = false := frozen_of_heap G1.out
      have hz1 := heap_lt G1.out
      have hcall := HP.out wr k hlt HB.out
      have HST : Hid (((wr.setCell ⟨w.heap.size + 1, k, none⟩ (.int .i64 (mf k))).heap[w.heap.size + 1]? = some (.cells (part (.int .i64 0) us (k + 1)) 92 (0, 0)))) := by
        have h := heap_set1 (i := k) (v := .int .i64 (mf k)) G1.out
        rw [← hget.out k hku, part_set _ _ _ hku] at h
        rw [← hget.out k hku]; exact h
      have HB2 : Hid (Below w.heap.size w (wr.setCell ⟨w.heap.size + 1, k, none⟩ (.int .i64 (mf k)))) := HB.out.setCell (by simp) _
      have G02 : Hid ((wr.setCell ⟨w.heap.size + 1, k, none⟩ (.int .i64 (mf k))).heap[w.heap.size]? = some (.cells #[.int .i64 0, .int .i64 0, .int .i64 0] 92 (0, 0))) := by
        have h : But [w.heap.size + 1] wr (wr.setCell ⟨w.heap.size + 1, k, none⟩ (.int .i64 (mf k))) := (But.refl _ _).setCell (by simp) _
        exact h.heap G0.out (by simp)
      have hk0 : (0 : Int) ≤ (k : Int) := by omega
      have hk3 : (k : Int) < 3 := by omega
      clear hku
      go_wp2_with fail
      refine hcall.mono ?_
      rintro e w1 ⟨rfl, hw⟩
      subst hw
      clear hcall
      go_wp2_with fail
      exact ⟨⟨k + 1, by omega, by go_num, HB2, G02, HST⟩, by simp [intOf]; omega⟩
    · obtain rfl : k = 3 := by omega
      have g1 := G1.out
      have e3 : part (.int .i64 0) us 3 = us.toArray := by have h := part_full (.int .i64 0) us; rw [HUL.out] at h; exact h
      rw [e3, HUS.out] at g1
      obtain ⟨x0, x1, x2, _, _, _, xz⟩ := three_at6 g1
      obtain ⟨y0, y1, y2, z0, z1, z2, yz⟩ := three_at6 G0.out
      clear e3 g1
      go_wp2_with fail
      refine bodyPost_ret (v := .agg #[.int .i64 (mf 0), .int .i64 (mf 1), .int .i64 (mf 2)]) (by simp [results, Tryz.results61, go_sem, y0, y1, y2, x0, x1, x2]) rfl ⟨rfl, ?_⟩
      exact HB.out.trans (((((But.refl [w.heap.size] wr).setCell (by simp) _).setCell (by simp) _).setCell (by simp) _).below HB.out.size (by intro b hb; simp at hb; omega))
end Go.Proofs.YtldimfmhbdhbnaaGreat

/-
  The program's functions of chapter 7, second part: the faults of parts; marks and rows of all parts.
-/
namespace Go.Proofs.YtldimfmhbdhbnaaGreat
open Go.RowKit

/-- All parts of a slice that holds some. -/
theorem parts_all {w : World} {A : Option Addr} {c : Nat} {l : List Pt} {fp : List Nat} (h : RdP w (.slice A l.length c) l fp) (h0 : 0 < l.length) :
    ∃ b off, ∃ q : Nat → Option Addr × Nat × List Nat, A = some ⟨b, off, none⟩ ∧ b < w.heap.size ∧ ∀ k (_ : k < l.length), w.cell? ⟨b, off + k * 2, none⟩ = some (.slice (q k).1 (l.getD k default).rows.length (q k).2.1) ∧ w.cell? ⟨b, off + k * 2 + 1, none⟩ = some (.int .i64 (l.getD k default).mark) ∧
      Rd w 4 (.slice (q k).1 (l.getD k default).rows.length (q k).2.1) (rcs (l.getD k default).rows) (q k).2.2 ∧ ∀ x ∈ (q k).2.2, x ∈ fp := by
  obtain ⟨b, off, B0, d0, f0, rfl, _, hbl, _⟩ := partsAt h h0
  have each : ∀ k, k < l.length → ∃ r : Option Addr × Nat × List Nat, w.cell? ⟨b, off + k * 2, none⟩ = some (.slice r.1 (l.getD k default).rows.length r.2.1) ∧ w.cell? ⟨b, off + k * 2 + 1, none⟩ = some (.int .i64 (l.getD k default).mark) ∧
      Rd w 4 (.slice r.1 (l.getD k default).rows.length r.2.1) (rcs (l.getD k default).rows) r.2.2 ∧ ∀ x ∈ r.2.2, x ∈ fp := fun k hk => by
    obtain ⟨b', off', B, d, f, e, _, _, hc, hc1, hr, hf⟩ := partsAt h hk
    injection e with e; injection e with e1 e2 _; subst e1 e2
    rw [getD_at l k hk]
    exact ⟨(B, d, f), hc, hc1, hr, hf⟩
  obtain ⟨q, hq⟩ := Deep.choose_lt each
  exact ⟨b, off, q, rfl, hbl, hq⟩

theorem partListsFn (A : Option Addr) (b off c n : Nat) (hn : n = 3) (hA : A = some ⟨b, off, none⟩) (B : Nat) (v : Nat → Value) (hv : ∀ k, ∃ A n c, v k = .slice A n c) (w : World) (hB : w.cell? ⟨B, 0, none⟩ = some (.slice A n c)) (hBz : B < w.heap.size) (hbz : b < w.heap.size)
    (hc : ∀ k, k < 3 → w.cell? ⟨b, off + k * 2, none⟩ = some (v k)) (W : World) (k : Nat) (hk : k < 3) (hb : Below w.heap.size w W) :
    Calls Tryz.prog 109 (#[.int .i64 (k : Int)] ++ #[.pointer (some ⟨B, 0, none⟩)]) W fun e w' => e = .returned (v k) ∧ W = w' := by
  subst hn hA
  have g0 := (hb.cell (p := ⟨B, 0, none⟩) hBz).trans hB
  have g1 := (hb.cell (p := ⟨b, off + k * 2, none⟩) hbz).trans (hc k hk)
  obtain ⟨A1, n1, c1, e1⟩ := hv k
  rw [e1] at g1 ⊢
  have m1 := Nat.lt_of_lt_of_le hBz hb.size
  have m2 := Nat.lt_of_lt_of_le hbz hb.size
  have hk0 : (0 : Int) ≤ (k : Int) := by omega
  have hk3 : (k : Int) < 3 := by omega
  clear hb hc hv e1 hB
  show Calls Tryz.prog 109 #[.int .i64 (k : Int), .pointer (some ⟨B, 0, none⟩)] W _
  go_enter Tryz.func109, Tryz.ntmps109
  go_wp2
  go_ret
  exact ⟨rfl, rfl⟩
/-- The array of the parts' rows. -/
def ListsPost (w : World) (l : List Pt) (e : Ending) (w' : World) : Prop :=
  ∃ (Af : Nat → Option Addr) (cf : Nat → Nat) (ff : Nat → List Nat), e = .returned (.agg #[.slice (Af 0) (l.getD 0 default).rows.length (cf 0), .slice (Af 1) (l.getD 1 default).rows.length (cf 1), .slice (Af 2) (l.getD 2 default).rows.length (cf 2)]) ∧
    (∀ k, k < 3 → Rd w' 4 (.slice (Af k) (l.getD k default).rows.length (cf k)) (rcs (l.getD k default).rows) (ff k)) ∧ Below w.heap.size w w'
set_option maxRecDepth 100000 in
set_option maxHeartbeats 2000000 in
theorem partLists_c (A : Option Addr) (c : Nat) (l : List Pt) (w : World) (fp : List Nat) (h3 : l.length = 3) (ha : RdP w (.slice A l.length c) l fp) :
    Calls Tryz.prog 80 #[.slice A l.length c] w (ListsPost w l) := by
  obtain ⟨b, off, q, hA, hbl, hq⟩ := parts_all ha (by omega)
  have eg : ∀ args w, (callFunc 109 args).run Tryz.prog w = .ok (.enter 109 args) w := enters_of Tryz.func109 (by kernel_rfl) rfl
  have hn1 : Below w.heap.size w ((w.alloc (.cells #[.slice A l.length c] 33)).alloc (.cells #[.slice none 0 0, .slice none 0 0, .slice none 0 0] 112)) := below_more (below_new _) _
  have HBN := Lib.hid hn1
  have hg2 := heap_new (w.alloc (.cells #[.slice A l.length c] 33)) (.cells #[.slice none 0 0, .slice none 0 0, .slice none 0 0] 112) (g := w.heap.size + 1) (by simp)
  have HG2 := Lib.hid hg2
  have hcall := forRows_c 109 #[.pointer (some ⟨w.heap.size, 0, none⟩)] eg (fun k => (q k).1) (fun k => (l.getD k default).rows.length) (fun k => (q k).2.1) ((w.alloc (.cells #[.slice A l.length c] 33)).alloc (.cells #[.slice none 0 0, .slice none 0 0, .slice none 0 0] 112))
    (fun W k hk hb => partListsFn A b off c l.length h3 hA w.heap.size (fun k => .slice (q k).1 (l.getD k default).rows.length (q k).2.1) (fun k => ⟨_, _, _, rfl⟩) _ (by simp) (by simp; omega) (by simp; omega)
      (fun k hk => (hn1.cell (p := ⟨b, off + k * 2, none⟩) hbl).trans (hq k (by omega)).1) W k hk hb)
  have HC := Lib.hid hcall
  have HQ : Hid (∀ k, k < 3 → Rd w 4 (.slice (q k).1 (l.getD k default).rows.length (q k).2.1) (rcs (l.getD k default).rows) (q k).2.2) := fun k hk => (hq k (by omega)).2.2.1
  clear hcall hq eg hA hn1 hg2 ha h3
  go_enter Tryz.func80, Tryz.ntmps80
  go_wp2_with fail
  refine HC.out.mono ?_
  rintro e w1 ⟨rfl, hb1⟩
  obtain ⟨y0, y1, y2, z0, z1, z2, yz⟩ := three_at6 ((hb1.block _ (heap_lt HG2.out)).trans HG2.out)
  have HB1 := Lib.hid (HBN.out.trans (hb1.mono HBN.out.size))
  clear hb1
  go_wp2_with fail
  have hbut := (((But.refl [w.heap.size + 1] w1).setCell (p := ⟨w.heap.size + 1, 0, none⟩) (by simp) (.slice (q 0).1 (l.getD 0 default).rows.length (q 0).2.1)).setCell (p := ⟨w.heap.size + 1, 1, none⟩) (by simp) (.slice (q 1).1 (l.getD 1 default).rows.length (q 1).2.1)).setCell (p := ⟨w.heap.size + 1, 2, none⟩) (by simp) (.slice (q 2).1 (l.getD 2 default).rows.length (q 2).2.1)
  have hbel := HB1.out.trans (hbut.below HB1.out.size (by intro b hb; simp at hb; omega))
  refine bodyPost_ret (v := .agg #[.slice (q 0).1 (l.getD 0 default).rows.length (q 0).2.1, .slice (q 1).1 (l.getD 1 default).rows.length (q 1).2.1, .slice (q 2).1 (l.getD 2 default).rows.length (q 2).2.1]) (by simp [results, Tryz.results80, go_sem, y0, y1, y2]) rfl ?_
  exact ⟨fun k => (q k).1, fun k => (q k).2.1, fun k => (q k).2.2, rfl, fun k hk => (HQ.out k hk).below' hbel, hbel⟩
set_option maxRecDepth 100000 in
set_option maxHeartbeats 2000000 in
theorem partFault_c (A : Option Addr) (c : Nat) (p : Pt) (at_ : Int) (w : World) (fp : List Nat) (hs : p.rows.length ≤ 1048576) (hwf : ∀ r ∈ p.rows, WfR r) (ha : Rd w 4 (.slice A p.rows.length c) (rcs p.rows) fp) :
    Calls Tryz.prog 107 #[ptv (.slice A p.rows.length c) p.mark, .int .i64 at_] w fun e w' => e = .returned (.int .i64 (partF p at_)) ∧ Below w.heap.size w w' := by
  have eg : ∀ args w, (callFunc 118 args).run Tryz.prog w = .ok (.enter 118 args) w := enters_of Tryz.func118 (by kernel_rfl) rfl
  have hn1 : Below w.heap.size w ((w.alloc (.cells #[.slice A p.rows.length c, .int .i64 p.mark] 100)).alloc (.cells #[.int .i64 at_] 2)) := below_more (below_new _) _
  have HBN := Lib.hid hn1
  have hcall := fitFault_c 118 #[.pointer (some ⟨w.heap.size + 1, 0, none⟩)] (fitB at_) eg A c p.rows _ fp hs hwf (fun _ => partPred at_ (w.heap.size + 1) ((w.alloc (.cells #[.slice A p.rows.length c, .int .i64 p.mark] 100)).alloc (.cells #[.int .i64 at_] 2)) (by simp) (by simp)) (ha.below' hn1)
  have HC := Lib.hid hcall
  clear hcall eg hn1 ha hwf hs
  cases h2 : inB p.mark 0 999
  case false =>
    rw [partF_mark h2]
    have H2 := Lib.hid h2; clear h2
    go_enter Tryz.func107, Tryz.ntmps107
    go_wp2_with fail
    refine (isMark_b p.mark false H2.out _).mono ?_
    rintro e w' ⟨rfl, hw⟩
    subst hw
    go_wp2
    go_ret
    exact ⟨rfl, HBN.out⟩
  rw [partF_rows h2]
  have H2 := Lib.hid h2; clear h2
  generalize fitF (fitB at_) p.rows = V at *
  go_enter Tryz.func107, Tryz.ntmps107
  go_wp2_with fail
  refine (isMark_b p.mark true H2.out _).mono ?_
  rintro e w' ⟨rfl, hw⟩
  subst hw
  go_wp2_with fail
  refine HC.out.mono ?_
  rintro e w1 ⟨rfl, hb1⟩
  have HB1 := Lib.hid (HBN.out.trans (hb1.mono HBN.out.size))
  clear hb1
  go_wp2
  go_ret
  exact ⟨rfl, HB1.out⟩

/-- Three slices of rows in a block: a slice of slices of rows. -/
theorem three_lists {w : World} {g : Nat} {t : TypeId} {A0 A1 A2 : Option Addr} {c0 c1 c2 : Nat} {r0 r1 r2 : List R} {f0 f1 f2 : List Nat} (hg : w.heap[g]? = some (.cells #[.slice A0 r0.length c0, .slice A1 r1.length c1, .slice A2 r2.length c2] t (0, 0)))
    (h0 : Rd w 4 (.slice A0 r0.length c0) (rcs r0) f0) (h1 : Rd w 4 (.slice A1 r1.length c1) (rcs r1) f1) (h2 : Rd w 4 (.slice A2 r2.length c2) (rcs r2) f2) :
    RdF w (.slice (some ⟨g, 0, none⟩) [r0, r1, r2].length 3) [r0, r1, r2] ([g] ++ [f0, f1, f2].flatten) :=
  ⟨[[.slice A0 r0.length c0], [.slice A1 r1.length c1], [.slice A2 r2.length c2]], [g], [f0, f1, f2], ⟨_, 3, 3, rfl, rfl, by unfold maxLen; omega, by omega, .inr ⟨g, 0, rfl, rfl, heap_lt hg, fun i u hu => by
    rw [Nat.zero_add, cell_of_heap hg, List.getElem?_toArray]; exact hu⟩⟩, ⟨⟨_, rfl, h0⟩, ⟨_, rfl, h1⟩, ⟨_, rfl, h2⟩, trivial⟩, rfl⟩
theorem getD3 {l : List Pt} (h : l.length = 3) : l = [l.getD 0 default, l.getD 1 default, l.getD 2 default] := by
  obtain ⟨a, b, c, rfl⟩ := eq_three h
  rfl
def AskPartsFault : Prop := ∀ (A : Option Addr) (c : Nat) (l : List Pt) (w : World) (fp : List Nat), psz l ≤ 1048576 → WfT l → RdP w (.slice A l.length c) l fp →
  Calls Tryz.prog 79 #[.slice A l.length c] w fun e w' => e = .returned (.int .i64 (partsF l)) ∧ Below w.heap.size w w'

set_option maxRecDepth 100000 in
set_option maxHeartbeats 4000000 in
theorem implPartsFault_a : AskPartsFault := by
  intro A c l w fp hs hwf ha
  have hmax := ha.len_le.2
  by_cases h1 : l.length = 3
  case neg =>
    rw [partsF_len h1]
    have t1 : ((l.length : Int) != 3) = true := by simp; omega
    clear h1 hwf ha hs
    go_enter Tryz.func79, Tryz.ntmps79
    go_wp2
    go_ret
    exact ⟨rfl, Below.refl _ _⟩
  have t1 : ((l.length : Int) != 3) = false := by simp; omega
  have hmany := @partsF_many l h1
  have hpart := @partsF_part l h1
  have HSZ : Hid (∀ k (h : k < l.length), l[k].rows.length ≤ 1048576 ∧ ∀ r ∈ l[k].rows, WfR r) := fun k h => ⟨by have := len_of_totP l k h; unfold psz at hs; omega, (hwf _ (List.getElem_mem h)).2⟩
  have hT4 : fsz [(l.getD 0 default).rows, (l.getD 1 default).rows, (l.getD 2 default).rows] ≤ 4194304 ∧ totS [(l.getD 0 default).rows, (l.getD 1 default).rows, (l.getD 2 default).rows] = totP l := by
    have e := getD3 h1
    have e2 : totS [(l.getD 0 default).rows, (l.getD 1 default).rows, (l.getD 2 default).rows] = totP [l.getD 0 default, l.getD 1 default, l.getD 2 default] := rfl
    rw [← e] at e2
    refine ⟨?_, e2⟩
    unfold fsz
    rw [e2]; unfold psz at hs; simp; omega
  have HTS := Lib.hid hT4
  obtain ⟨T, hT⟩ : ∃ T, T = totP l := ⟨_, rfl⟩
  rw [← hT] at hmany
  have HTT := Lib.hid hT.symm
  have HMANY := Lib.hid hmany; have HPART := Lib.hid hpart; have HA := Lib.hid ha; have H3 := Lib.hid h1
  have hT5 : T ≤ 4194304 := by unfold psz at hs; omega
  clear hmany hpart hT hs hwf ha hT4
  generalize hV : restG l 0 = V at *
  have HV := Lib.hid hV; clear hV
  generalize hP : partsF l = P at *
  have HP := Lib.hid hP; clear hP
  have hl3 : (l.length : Int) = 3 := by omega
  have HL3 := Lib.hid hl3
  clear hl3 h1
  go_enter Tryz.func79, Tryz.ntmps79
  go_wp2_with fail
  go_loopw [9] (fun i wr => ∃ k : Nat, k ≤ 3 ∧ i = .int .i64 k ∧ Hid (Below w.heap.size w wr) ∧ Hid (restG l k = V)) (fun i _ => 3 - (intOf i).toNat)
  case atStart => exact ⟨0, Nat.zero_le _, rfl, Lib.hid (Below.refl _ _), HV⟩
  case round =>
    clear HV t1
    obtain ⟨k, hk, rfl, HB, HRS⟩ := hrel
    by_cases hlt3 : k < 3
    · have hlt : k < l.length := by have := H3.out; omega
      obtain ⟨b, off, B, d, f, rfl, _, hbl, hc, hc1, hr, _⟩ := partsAt (HA.out.below' HB.out) hlt
      have hok := @restG_ok l k hlt
      have hbad := @restG_bad l k hlt
      obtain ⟨hs1, hw1⟩ := HSZ.out k hlt
      have hk0 : (0 : Int) ≤ (k : Int) := by omega
      have hk3 : (k : Int) < (l.length : Int) := by omega
      generalize l[k] = p at *
      have hcall := partFault_c B d p (k : Int) _ f hs1 hw1 hr
      obtain ⟨Q, hQ⟩ : ∃ Q, Q = partF p (k : Int) := ⟨_, rfl⟩
      rw [← hQ] at hcall hok hbad
      have HCL := Lib.hid hcall; have HOK := Lib.hid hok; have HBAD := Lib.hid hbad
      clear hok hbad hr hcall hQ hw1
      go_wp2_with fail
      refine HCL.out.mono ?_
      rintro e w2 ⟨rfl, hb2⟩
      have HB2 := Lib.hid (HB.out.trans (hb2.mono HB.out.size))
      clear hb2 hc hc1 hbl
      by_cases h3 : Q = 0
      · have hs2 : restG l (k + 1) = V := (HOK.out h3).symm.trans HRS.out
        have HS2 := Lib.hid hs2; clear hs2
        subst h3
        go_wp2_with fail
        exact ⟨⟨k + 1, by omega, by go_num, HB2, HS2⟩, by simp [intOf]; omega⟩
      · have hs2 : V = Q := HRS.out.symm.trans (HBAD.out h3)
        have hPV : P = Q := (HPART.out (by rw [hs2]; exact h3)).trans hs2
        have HPV := Lib.hid hPV; clear hPV hs2
        have t2 : (Q != 0) = true := by simpa using h3
        clear h3
        go_wp2_with fail
        go_ret
        exact ⟨congrArg (fun z => Ending.returned (Value.int .i64 z)) HPV.out.symm, HB2.out⟩
    · obtain rfl : k = 3 := by omega
      have hs2 : V = 0 := HRS.out.symm.trans (by have h := restG_end l; rw [H3.out] at h; exact h)
      have hPV : P = if 12 < T then 2 else 0 := HMANY.out hs2
      have HPV := Lib.hid hPV
      clear hs2 hPV
      go_wp2_with fail
      refine (partLists_c A c l _ fp H3.out (HA.out.below' HB.out)).mono ?_
      rintro e w2 ⟨Af, cf, ff, rfl, hrd, hb2⟩
      have r0 := hrd 0 (by omega); have r1 := hrd 1 (by omega); have r2 := hrd 2 (by omega)
      clear hrd
      generalize l.getD 0 default = q0 at *
      generalize l.getD 1 default = q1 at *
      generalize l.getD 2 default = q2 at *
      have HB2 := Lib.hid (below_more (HB.out.trans (hb2.mono HB.out.size)) (.cells #[.slice (Af 0) q0.rows.length (cf 0), .slice (Af 1) q1.rows.length (cf 1), .slice (Af 2) q2.rows.length (cf 2)] 112))
      have hg2 := heap_new w2 (.cells #[.slice (Af 0) q0.rows.length (cf 0), .slice (Af 1) q1.rows.length (cf 1), .slice (Af 2) q2.rows.length (cf 2)] 112) rfl
      have HRL := Lib.hid (three_lists hg2 (r0.alloc _) (r1.alloc _) (r2.alloc _))
      clear hg2 r0 r1 r2 hb2
      go_wp2_with fail
      generalize w2.alloc (.cells #[.slice (Af 0) q0.rows.length (cf 0), .slice (Af 1) q1.rows.length (cf 1), .slice (Af 2) q2.rows.length (cf 2)] 112) = w3 at *
      refine (countRows_q _ 3 [q0.rows, q1.rows, q2.rows] T (by rw [HTS.out.2]; exact HTT.out) _ _ HTS.out.1 HRL.out).mono ?_
      rintro e w4 ⟨rfl, hw⟩
      subst hw
      by_cases h4 : 12 < T
      · have e : P = 2 := by rw [HPV.out, if_pos h4]
        have HE := Lib.hid e; clear e
        go_wp2
        go_ret
        exact ⟨congrArg (fun z => Ending.returned (Value.int .i64 z)) HE.out.symm, HB2.out⟩
      · have e : P = 0 := by rw [HPV.out, if_neg h4]
        have HE := Lib.hid e; clear e
        go_wp2
        go_ret
        exact ⟨congrArg (fun z => Ending.returned (Value.int .i64 z)) HE.out.symm, HB2.out⟩
end Go.Proofs.YtldimfmhbdhbnaaGreat
