/-
  The program's functions of chapter 7, first part: what tells whether a row belongs into a part; arrays with a value a part; the faults of parts. By a maker (gen7i.py).
-/
import Derived.Test.YtldimfmhbdhbnaaSum7
import Derived.Test.YtldimfmhbdhbnaaG21
import Derived.Test.YtldimfmhbdhbnaaImpl6a
import Derived.Test.YtldimfmhbdhbnaaG23
namespace Go.Proofs.Ytldimfmhbdhbnaa
open Go.RowKit

theorem rowPart_q (r : R) (Q : Int) (hQ : rpart r = Q) (w : World) (hf : Fit r) :
    Calls Try.prog 151 #[rv r] w fun e w' => e = .returned (.int .i64 Q) ∧ Below w.heap.size w w' := by
  subst hQ
  exact rowPart_c r w hf
theorem isFilled_b (r : R) (b : Bool) (hb : emptyB r = b) (w : World) :
    Calls Try.prog 130 #[rv r] w fun e w' => e = .returned (.bool (!b)) ∧ Below w.heap.size w w' := by
  have H := Lib.hid hb; clear hb
  cases b
  all_goals
    go_enter Try.func130, Try.ntmps130
    go_wp2_with fail
    refine (isEmptyRow_b r _ H.out _).mono ?_
    rintro e w' ⟨rfl, hw⟩
    have HW := Lib.hid hw; clear hw
    go_wp2
    go_ret
    exact ⟨rfl, by rw [HW.out]; exact below_more (below_new _) _⟩

set_option maxRecDepth 100000 in
set_option maxHeartbeats 2000000 in
theorem partPred (at_ : Int) (B : Nat) (w : World) (h1 : w.cell? ⟨B, 0, none⟩ = some (.int .i64 at_)) (l1 : B < w.heap.size) :
    PredRow 150 #[.pointer (some ⟨B, 0, none⟩)] (fitB at_) w := by
  intro W x hx hb
  have g1 : W.cell? ⟨B, 0, none⟩ = some (.int .i64 at_) := (hb.cell (p := ⟨B, 0, none⟩) l1).trans h1
  have m1 : B < W.heap.size := Nat.lt_of_lt_of_le l1 hb.size
  have HX := Lib.hid hx
  clear hb h1 l1 hx
  have g1 := ((below_new (w := W) (rbox x)).cell (p := ⟨B, 0, none⟩) m1).trans g1
  obtain ⟨c0, c1, c2, c3, _, _, _, _, hz⟩ := four_at (heap_new W (rbox x) rfl)
  have hB0 : Below W.heap.size W (W.alloc (rbox x)) := below_new _
  have HB0 := Lib.hid hB0
  have hS0 : W.heap.size ≤ (W.alloc (rbox x)).heap.size := by simp
  clear hB0
  obtain ⟨Q, hq⟩ : ∃ Q, Q = rpart x := ⟨_, rfl⟩
  have HQ : Hid (rpart x = Q) := hq.symm
  clear hq
  show Calls Try.prog 150 #[rv x, .pointer (some ⟨B, 0, none⟩)] W fun e w' => e = .returned (.bool ((fitB at_) x)) ∧ Below W.heap.size W w'
  cases he : emptyB x
  case true =>
    have HE := Lib.hid he
    have hr : fitB at_ x = false := by unfold fitB; rw [he]; simp
    rw [hr]
    clear he hr
    go_enter Try.func150, Try.ntmps150
    go_wp2_with fail
    generalize W.alloc (rbox x) = W0 at *
    have hld : ∀ w', Below W0.heap.size W0 w' → w'.cell? ⟨W.heap.size, 0, none⟩ = some (.int .i64 x.1) ∧ w'.cell? ⟨W.heap.size, 1, none⟩ = some (.int .i64 x.2.1) ∧ w'.cell? ⟨W.heap.size, 2, none⟩ = some (.int .i64 x.2.2.1) ∧ w'.cell? ⟨W.heap.size, 3, none⟩ = some (.int .i64 x.2.2.2) ∧ w'.cell? ⟨B, 0, none⟩ = some (.int .i64 at_) := fun w' h => ⟨(h.cell (p := ⟨W.heap.size, 0, none⟩) hz).trans c0, (h.cell (p := ⟨W.heap.size, 1, none⟩) hz).trans c1, (h.cell (p := ⟨W.heap.size, 2, none⟩) hz).trans c2, (h.cell (p := ⟨W.heap.size, 3, none⟩) hz).trans c3, (h.cell (p := ⟨B, 0, none⟩) (Nat.lt_trans m1 hz)).trans g1⟩
    have HLD := Lib.hid hld; clear hld
    refine wp_region_sched (fun w' => Below W0.heap.size W0 w') [(0, true), (1, false), (2, true), (3, true), (5, true), (4, false), (6, true), (7, true), (8, true)] (by kernel_rfl) (by kernel_rfl) (by kernel_rfl) (by kernel_rfl) (fun _ _ d _ _ h => by cases d <;> exact h) ⟨rfl, rfl, rfl, Nat.le_refl _, fun _ _ => rfl⟩ ?_
    simp only [opsOf, List.filterMap_cons, List.filterMap_nil, Option.map_some, List.getElem?_toArray, List.getElem?_cons_zero, List.getElem?_cons_succ]
    generalize hW0 : ({ heap := W0.heap, tape := W0.tape, drawn := W0.drawn + 1, os := W0.os, output := W0.output } : World) = v0
    have hv0 : Below W0.heap.size W0 v0 := by rw [← hW0]; exact ⟨rfl, rfl, rfl, Nat.le_refl _, fun _ _ => rfl⟩
    clear hW0
    refine sched_run (v := ?_) (by rfl) ?_ ?_
    rotate_left
    · (intro w' hS'; obtain ⟨a0, a1, a2, a3, a4⟩ := HLD.out w' hS'; go_simp; try with_reducible rfl)
    try simp only [Act.put, List.setIfInBounds_toArray, List.set_cons_zero, List.set_cons_succ]
    refine sched_call (by rfl) (fun K hK => ?_)
    go_simp
    refine (isFilled_b x _ HE.out _).mono ?_
    rintro e v1 ⟨rfl, hbv0⟩
    have hv1 : Below W0.heap.size W0 v1 := hv0.trans (hbv0.mono hv0.size)
    clear hbv0
    refine hK _ _ hv1 ?_
    try simp only [Act.put, List.setIfInBounds_toArray, List.set_cons_zero, List.set_cons_succ]
    refine sched_run (v := ?_) (by rfl) ?_ ?_
    rotate_left
    · (intro w' hS'; go_simp; try with_reducible rfl)
    try simp only [Act.put, List.setIfInBounds_toArray, List.set_cons_zero, List.set_cons_succ]
    refine sched_skip (by rfl) ?_
    try simp only [Act.put, List.setIfInBounds_toArray, List.set_cons_zero, List.set_cons_succ]
    refine sched_skip (by rfl) ?_
    try simp only [Act.put, List.setIfInBounds_toArray, List.set_cons_zero, List.set_cons_succ]
    refine sched_skip' (by rfl) ?_
    try simp only [Act.put, List.setIfInBounds_toArray, List.set_cons_zero, List.set_cons_succ]
    refine sched_skip (by rfl) ?_
    try simp only [Act.put, List.setIfInBounds_toArray, List.set_cons_zero, List.set_cons_succ]
    refine sched_run (v := ?_) (by rfl) ?_ ?_
    rotate_left
    · (intro w' hS'; go_simp; try with_reducible rfl)
    try simp only [Act.put, List.setIfInBounds_toArray, List.set_cons_zero, List.set_cons_succ]
    refine sched_run (v := ?_) (by rfl) ?_ ?_
    rotate_left
    · (intro w' hS'; go_simp; try with_reducible rfl)
    try simp only [Act.put, List.setIfInBounds_toArray, List.set_cons_zero, List.set_cons_succ]
    refine sched_done ?_
    go_wp2_with fail
    go_ret
    exact ⟨rfl, HB0.out.trans (hv1.mono hS0)⟩
  case false =>
    have HE := Lib.hid he
    have hr : fitB at_ x = decide (Q = at_) := by unfold fitB; rw [he, HQ.out]; simp
    rw [hr]
    have t1 : (Q == at_) = decide (Q = at_) := rfl
    generalize decide (Q = at_) = D at *
    clear he hr
    go_enter Try.func150, Try.ntmps150
    go_wp2_with fail
    generalize W.alloc (rbox x) = W0 at *
    have hld : ∀ w', Below W0.heap.size W0 w' → w'.cell? ⟨W.heap.size, 0, none⟩ = some (.int .i64 x.1) ∧ w'.cell? ⟨W.heap.size, 1, none⟩ = some (.int .i64 x.2.1) ∧ w'.cell? ⟨W.heap.size, 2, none⟩ = some (.int .i64 x.2.2.1) ∧ w'.cell? ⟨W.heap.size, 3, none⟩ = some (.int .i64 x.2.2.2) ∧ w'.cell? ⟨B, 0, none⟩ = some (.int .i64 at_) := fun w' h => ⟨(h.cell (p := ⟨W.heap.size, 0, none⟩) hz).trans c0, (h.cell (p := ⟨W.heap.size, 1, none⟩) hz).trans c1, (h.cell (p := ⟨W.heap.size, 2, none⟩) hz).trans c2, (h.cell (p := ⟨W.heap.size, 3, none⟩) hz).trans c3, (h.cell (p := ⟨B, 0, none⟩) (Nat.lt_trans m1 hz)).trans g1⟩
    have HLD := Lib.hid hld; clear hld
    refine wp_region_sched (fun w' => Below W0.heap.size W0 w') [(0, true), (1, false), (2, true), (3, true), (5, true), (4, false), (6, true), (7, true), (8, true)] (by kernel_rfl) (by kernel_rfl) (by kernel_rfl) (by kernel_rfl) (fun _ _ d _ _ h => by cases d <;> exact h) ⟨rfl, rfl, rfl, Nat.le_refl _, fun _ _ => rfl⟩ ?_
    simp only [opsOf, List.filterMap_cons, List.filterMap_nil, Option.map_some, List.getElem?_toArray, List.getElem?_cons_zero, List.getElem?_cons_succ]
    generalize hW0 : ({ heap := W0.heap, tape := W0.tape, drawn := W0.drawn + 1, os := W0.os, output := W0.output } : World) = v0
    have hv0 : Below W0.heap.size W0 v0 := by rw [← hW0]; exact ⟨rfl, rfl, rfl, Nat.le_refl _, fun _ _ => rfl⟩
    clear hW0
    refine sched_run (v := ?_) (by rfl) ?_ ?_
    rotate_left
    · (intro w' hS'; obtain ⟨a0, a1, a2, a3, a4⟩ := HLD.out w' hS'; go_simp; try with_reducible rfl)
    try simp only [Act.put, List.setIfInBounds_toArray, List.set_cons_zero, List.set_cons_succ]
    refine sched_call (by rfl) (fun K hK => ?_)
    go_simp
    refine (isFilled_b x _ HE.out _).mono ?_
    rintro e v1 ⟨rfl, hbv0⟩
    have hv1 : Below W0.heap.size W0 v1 := hv0.trans (hbv0.mono hv0.size)
    clear hbv0
    refine hK _ _ hv1 ?_
    try simp only [Act.put, List.setIfInBounds_toArray, List.set_cons_zero, List.set_cons_succ]
    refine sched_run (v := ?_) (by rfl) ?_ ?_
    rotate_left
    · (intro w' hS'; go_simp; try with_reducible rfl)
    try simp only [Act.put, List.setIfInBounds_toArray, List.set_cons_zero, List.set_cons_succ]
    refine sched_run (v := ?_) (by rfl) ?_ ?_
    rotate_left
    · (intro w' hS'; obtain ⟨a0, a1, a2, a3, a4⟩ := HLD.out w' hS'; go_simp; try with_reducible rfl)
    try simp only [Act.put, List.setIfInBounds_toArray, List.set_cons_zero, List.set_cons_succ]
    refine sched_run (v := ?_) (by rfl) ?_ ?_
    rotate_left
    · (intro w' hS'; obtain ⟨a0, a1, a2, a3, a4⟩ := HLD.out w' hS'; go_simp; try with_reducible rfl)
    try simp only [Act.put, List.setIfInBounds_toArray, List.set_cons_zero, List.set_cons_succ]
    refine sched_call (by rfl) (fun K hK => ?_)
    go_simp
    refine (rowPart_q x Q HQ.out _ HX.out).mono ?_
    rintro e v2 ⟨rfl, hbv1⟩
    have hv2 : Below W0.heap.size W0 v2 := hv1.trans (hbv1.mono hv1.size)
    clear hbv1
    refine hK _ _ hv2 ?_
    try simp only [Act.put, List.setIfInBounds_toArray, List.set_cons_zero, List.set_cons_succ]
    refine sched_run (v := ?_) (by rfl) ?_ ?_
    rotate_left
    · (intro w' hS'; go_simp; try with_reducible rfl)
    try simp only [Act.put, List.setIfInBounds_toArray, List.set_cons_zero, List.set_cons_succ]
    refine sched_run (v := ?_) (by rfl) ?_ ?_
    rotate_left
    · (intro w' hS'; go_simp; try with_reducible rfl)
    try simp only [Act.put, List.setIfInBounds_toArray, List.set_cons_zero, List.set_cons_succ]
    refine sched_run (v := ?_) (by rfl) ?_ ?_
    rotate_left
    · (intro w' hS'; go_simp; try with_reducible rfl)
    try simp only [Act.put, List.setIfInBounds_toArray, List.set_cons_zero, List.set_cons_succ]
    refine sched_done ?_
    go_wp2_with fail
    go_ret
    exact ⟨by first | rfl | simp [t1], HB0.out.trans (hv2.mono hS0)⟩

set_option maxRecDepth 100000 in
set_option maxHeartbeats 2000000 in
theorem forRows_c (g : Nat) (lb : Array Value) (eg : ∀ args w, (callFunc g args).run Try.prog w = .ok (.enter g args) w) (Af : Nat → Option Addr) (nf cf : Nat → Nat) (w : World)
    (hp : ∀ (W : World) (k : Nat), k < 3 → Below w.heap.size w W → Calls Try.prog g (#[.int .i64 (k : Int)] ++ lb) W fun e w' => e = .returned (.slice (Af k) (nf k) (cf k)) ∧ W = w') :
    Calls Try.prog 138 #[.func (.func g) #[] lb] w fun e w' => e = .returned (.agg #[.slice (Af 0) (nf 0) (cf 0), .slice (Af 1) (nf 1) (cf 1), .slice (Af 2) (nf 2) (cf 2)]) ∧ Below w.heap.size w w' := by
  have HP := Lib.hid hp; clear hp
  have ⟨us, hus⟩ : ∃ us : List Value, us = [.slice (Af 0) (nf 0) (cf 0), .slice (Af 1) (nf 1) (cf 1), .slice (Af 2) (nf 2) (cf 2)] := ⟨_, rfl⟩
  have hul : us.length = 3 := by rw [hus]; rfl
  have hget : Hid (∀ k (h : k < us.length), us[k] = .slice (Af k) (nf k) (cf k)) := by
    subst hus
    intro k h
    match k, h with
    | 0, _ => rfl
    | 1, _ => rfl
    | 2, _ => rfl
  have HUL := Lib.hid hul; have HUS := Lib.hid hus
  clear hul hus
  have HB0 := Lib.hid (below_more (below_new (w := w) (.cells #[.slice none 0 0, .slice none 0 0, .slice none 0 0] 152)) (.cells #[.slice none 0 0, .slice none 0 0, .slice none 0 0] 152))
  have HG0 := Lib.hid (heap_old (o' := .cells #[.slice none 0 0, .slice none 0 0, .slice none 0 0] 152) (heap_new w (.cells #[.slice none 0 0, .slice none 0 0, .slice none 0 0] 152) rfl))
  have hg1 := heap_new (w.alloc (.cells #[.slice none 0 0, .slice none 0 0, .slice none 0 0] 152)) (.cells #[.slice none 0 0, .slice none 0 0, .slice none 0 0] 152) (g := w.heap.size + 1) (by simp)
  have e0 : (#[.slice none 0 0, .slice none 0 0, .slice none 0 0] : Array Value) = part (.slice none 0 0) us 0 := by
    unfold part; rw [HUL.out]; rfl
  have HG1 : Hid (((w.alloc (.cells #[.slice none 0 0, .slice none 0 0, .slice none 0 0] 152)).alloc (.cells #[.slice none 0 0, .slice none 0 0, .slice none 0 0] 152)).heap[w.heap.size + 1]? = some (.cells (part (.slice none 0 0) us 0) 152 (0, 0))) := by rw [← e0]; exact hg1
  clear e0 hg1
  go_enter Try.func138, Try.ntmps138
  go_wp2_with fail
  go_loopw [5] (fun i wr => ∃ k : Nat, k ≤ 3 ∧ i = .int .i64 k ∧ Hid (Below w.heap.size w wr) ∧ Hid (wr.heap[w.heap.size]? = some (.cells #[.slice none 0 0, .slice none 0 0, .slice none 0 0] 152 (0, 0))) ∧ Hid (wr.heap[w.heap.size + 1]? = some (.cells (part (.slice none 0 0) us k) 152 (0, 0)))) (fun i _ => 3 - (intOf i).toNat)
  case atStart => exact ⟨0, Nat.zero_le _, rfl, HB0, HG0, HG1⟩
  case round =>
    clear HB0 HG0 HG1
    obtain ⟨k, hk, rfl, HB, G0, G1⟩ := hrel
    by_cases hlt : k < 3
    · have hku : k < us.length := by have := HUL.out; omega
      have c1 : wr.cell? ⟨w.heap.size + 1, k, none⟩ = some (.slice none 0 0) := by
        rw [cell_of_heap G1.out]
        have e : us.length - k = us.length - (k + 1) + 1 := by omega
        unfold part
        rw [List.getElem?_toArray, List.getElem?_append_right (by rw [List.length_take]; omega), List.length_take, Nat.min_eq_left (by omega), Nat.sub_self, e, List.replicate_succ, List.getElem?_cons_zero]
      have f1 : wr.frozen? ⟨w.heap.size + 1, k, none⟩ = false := frozen_of_heap G1.out
      have hz1 := heap_lt G1.out
      have hcall := HP.out wr k hlt HB.out
      have HST : Hid (((wr.setCell ⟨w.heap.size + 1, k, none⟩ (.slice (Af k) (nf k) (cf k))).heap[w.heap.size + 1]? = some (.cells (part (.slice none 0 0) us (k + 1)) 152 (0, 0)))) := by
        have h := heap_set1 (i := k) (v := .slice (Af k) (nf k) (cf k)) G1.out
        rw [← hget.out k hku, part_set _ _ _ hku] at h
        rw [← hget.out k hku]; exact h
      have HB2 : Hid (Below w.heap.size w (wr.setCell ⟨w.heap.size + 1, k, none⟩ (.slice (Af k) (nf k) (cf k)))) := HB.out.setCell (by simp) _
      have G02 : Hid ((wr.setCell ⟨w.heap.size + 1, k, none⟩ (.slice (Af k) (nf k) (cf k))).heap[w.heap.size]? = some (.cells #[.slice none 0 0, .slice none 0 0, .slice none 0 0] 152 (0, 0))) := by
        have h : But [w.heap.size + 1] wr (wr.setCell ⟨w.heap.size + 1, k, none⟩ (.slice (Af k) (nf k) (cf k))) := (But.refl _ _).setCell (by simp) _
        exact h.heap G0.out (by simp)
      have hk0 : (0 : Int) ≤ (k : Int) := by omega
      have hk3 : (k : Int) < 3 := by omega
      clear hku
      go_wp2_with fail
      refine hcall.mono ?_
      rintro e w1 ⟨rfl, hw⟩
      subst hw
      clear hcall
      go_wp2_with fail
      exact ⟨⟨k + 1, by omega, by go_num, HB2, G02, HST⟩, by simp [intOf]; omega⟩
    · obtain rfl : k = 3 := by omega
      have g1 := G1.out
      have e3 : part (.slice none 0 0) us 3 = us.toArray := by have h := part_full (.slice none 0 0) us; rw [HUL.out] at h; exact h
      rw [e3, HUS.out] at g1
      obtain ⟨x0, x1, x2, _, _, _, xz⟩ := three_at6 g1
      obtain ⟨y0, y1, y2, z0, z1, z2, yz⟩ := three_at6 G0.out
      clear e3 g1
      go_wp2_with fail
      refine bodyPost_ret (v := .agg #[.slice (Af 0) (nf 0) (cf 0), .slice (Af 1) (nf 1) (cf 1), .slice (Af 2) (nf 2) (cf 2)]) (by simp [results, Try.results138, go_sem, y0, y1, y2, x0, x1, x2]) rfl ⟨rfl, ?_⟩
      exact HB.out.trans (((((But.refl [w.heap.size] wr).setCell (by simp) _).setCell (by simp) _).setCell (by simp) _).below HB.out.size (by intro b hb; simp at hb; omega))

end Go.Proofs.Ytldimfmhbdhbnaa
