/-
  Contracts of the model's functions of chapter 3, second part: the fault of an operation.
-/
import Derived.Test.YtocllaendofndaaDoorSpec3a
import Derived.Test.YtocllaendofndaaDoorG2
import Derived.Test.YtocllaendofndaaDoorG3
import Derived.Deep.DeepCutAuto
namespace Go.Proofs.YtocllaendofndaaDoor
open Go.RowKit


set_option maxRecDepth 100000 in
set_option maxHeartbeats 16000000 in
theorem l3Range_c (b off : Nat) (o : O) (w : World) (h : OpAt w b off o) :
    Calls Tryd.prog 61 #[.pointer (some ⟨b, off, none⟩)] w fun e w' => e = .returned (.bool (rangeB o)) ∧ Below w.heap.size w w' := by
  have H := Lib.hid h
  obtain ⟨hb, c0, c1, c2, c3, c4, c5, c6⟩ := h
  cases hq : inB o.rq 0 999
  · have hF : rangeB o = false := by simp [rangeB, hq]
    rw [hF]
    have HQ := Lib.hid hq
    clear hF hq
    go_enter Tryd.func61, Tryd.ntmps61
    go_wp2_with fail
    refine (l1In_w _ _ _ false HQ.out _).mono ?_
    rintro e w1 ⟨rfl, hb1⟩
    have B1 := Lib.hid hb1; clear hb1
    go_wp2_with fail
    go_ret
    exact ⟨rfl, B1.out⟩
  · have HQ := Lib.hid hq; clear hq
    by_cases hk : o.k = 1
    · have HK := Lib.hid hk
      rw [hk] at c0
      cases r0 : isB o.lc o.sk
      · have hF : rangeB o = false := by simp [rangeB, HQ.out, hk, r0]
        rw [hF]
        have R0 := Lib.hid r0
        clear hF hk r0
        go_enter Tryd.func61, Tryd.ntmps61
        go_wp2_with fail
        refine (l1In_w _ _ _ true HQ.out _).mono ?_
        rintro e w1 ⟨rfl, hb1⟩
        obtain ⟨hbb, c0, c1, c2, c3, c4, c5, c6⟩ := H.out.below hb1
        have B1 := Lib.hid hb1; clear hb1
        rw [HK.out] at c0
        go_wp2_with fail
        have hld : ∀ w', Below w1.heap.size w1 w' → w'.cell? ⟨b, off, none⟩ = some (.int .i64 1) ∧ w'.cell? ⟨b, off + 1, none⟩ = some (.int .i64 o.rq) ∧ w'.cell? ⟨b, off + 2, none⟩ = some (.int .i64 o.lc) ∧ w'.cell? ⟨b, off + 3, none⟩ = some (.int .i64 o.tt) ∧ w'.cell? ⟨b, off + 4, none⟩ = some (.int .i64 o.sk) ∧ w'.cell? ⟨b, off + 5, none⟩ = some (.int .i64 o.qt) ∧ w'.cell? ⟨b, off + 6, none⟩ = some (.int .i64 o.hd) := fun w' h => ⟨(h.cell (p := ⟨b, _, none⟩) hbb).trans c0, (h.cell (p := ⟨b, _, none⟩) hbb).trans c1, (h.cell (p := ⟨b, _, none⟩) hbb).trans c2, (h.cell (p := ⟨b, _, none⟩) hbb).trans c3, (h.cell (p := ⟨b, _, none⟩) hbb).trans c4, (h.cell (p := ⟨b, _, none⟩) hbb).trans c5, (h.cell (p := ⟨b, _, none⟩) hbb).trans c6⟩
        have HLD := Lib.hid hld; clear hld
        refine wp_region_sched (fun w' => Below w1.heap.size w1 w') [(0, true), (1, true), (2, true), (3, true), (4, true), (5, true), (6, true), (7, true), (8, false), (9, true), (10, true), (11, true), (12, true), (13, true), (14, false), (15, true), (16, true)] (by kernel_rfl) (by kernel_rfl) (by kernel_rfl) (by kernel_rfl) (fun _ _ d _ _ h => by cases d <;> exact h) ⟨rfl, rfl, rfl, Nat.le_refl _, fun _ _ => rfl⟩ ?_
        simp only [opsOf, List.filterMap_cons, List.filterMap_nil, Option.map_some, List.getElem?_toArray, List.getElem?_cons_zero, List.getElem?_cons_succ]
        generalize hW0 : ({ heap := w1.heap, tape := w1.tape, drawn := w1.drawn + 1, os := w1.os, output := w1.output } : World) = v0
        have hv0 : Below w1.heap.size w1 v0 := by rw [← hW0]; exact ⟨rfl, rfl, rfl, Nat.le_refl _, fun _ _ => rfl⟩
        clear hW0
        refine sched_run (v := ?_) (by rfl) ?_ ?_
        rotate_left
        · (intro w' hS'; go_simp; try with_reducible rfl)
        try simp only [Act.put, List.setIfInBounds_toArray, List.set_cons_zero, List.set_cons_succ]
        refine sched_run (v := ?_) (by rfl) ?_ ?_
        rotate_left
        · (intro w' hS'; go_simp; try with_reducible rfl)
        try simp only [Act.put, List.setIfInBounds_toArray, List.set_cons_zero, List.set_cons_succ]
        refine sched_run (v := ?_) (by rfl) ?_ ?_
        rotate_left
        · (intro w' hS'; go_simp; try with_reducible rfl)
        try simp only [Act.put, List.setIfInBounds_toArray, List.set_cons_zero, List.set_cons_succ]
        refine sched_run (v := ?_) (by rfl) ?_ ?_
        rotate_left
        · (intro w' hS'; obtain ⟨a0, a1, a2, a3, a4, a5, a6⟩ := HLD.out w' hS'; go_simp; try with_reducible rfl)
        try simp only [Act.put, List.setIfInBounds_toArray, List.set_cons_zero, List.set_cons_succ]
        refine sched_run (v := ?_) (by rfl) ?_ ?_
        rotate_left
        · (intro w' hS'; go_simp; try with_reducible rfl)
        try simp only [Act.put, List.setIfInBounds_toArray, List.set_cons_zero, List.set_cons_succ]
        refine sched_run (v := ?_) (by rfl) ?_ ?_
        rotate_left
        · (intro w' hS'; go_simp; try with_reducible rfl)
        try simp only [Act.put, List.setIfInBounds_toArray, List.set_cons_zero, List.set_cons_succ]
        refine sched_run (v := ?_) (by rfl) ?_ ?_
        rotate_left
        · (intro w' hS'; go_simp; try with_reducible rfl)
        try simp only [Act.put, List.setIfInBounds_toArray, List.set_cons_zero, List.set_cons_succ]
        refine sched_run (v := ?_) (by rfl) ?_ ?_
        rotate_left
        · (intro w' hS'; obtain ⟨a0, a1, a2, a3, a4, a5, a6⟩ := HLD.out w' hS'; go_simp; try with_reducible rfl)
        try simp only [Act.put, List.setIfInBounds_toArray, List.set_cons_zero, List.set_cons_succ]
        refine sched_call (by rfl) (fun K hK => ?_)
        go_simp
        refine (l2Is_w _ _ false R0.out _).mono ?_
        rintro e v1 ⟨rfl, hbv0⟩
        have hv1 : Below w1.heap.size w1 v1 := hv0.trans (hbv0.mono hv0.size)
        clear hbv0
        refine hK _ _ hv1 ?_
        try simp only [Act.put, List.setIfInBounds_toArray, List.set_cons_zero, List.set_cons_succ]
        refine sched_run (v := ?_) (by rfl) ?_ ?_
        rotate_left
        · (intro w' hS'; go_simp; try with_reducible rfl)
        try simp only [Act.put, List.setIfInBounds_toArray, List.set_cons_zero, List.set_cons_succ]
        refine sched_skip (by rfl) ?_
        try simp only [Act.put, List.setIfInBounds_toArray, List.set_cons_zero, List.set_cons_succ]
        refine sched_skip (by rfl) ?_
        try simp only [Act.put, List.setIfInBounds_toArray, List.set_cons_zero, List.set_cons_succ]
        refine sched_skip (by rfl) ?_
        try simp only [Act.put, List.setIfInBounds_toArray, List.set_cons_zero, List.set_cons_succ]
        refine sched_skip (by rfl) ?_
        try simp only [Act.put, List.setIfInBounds_toArray, List.set_cons_zero, List.set_cons_succ]
        refine sched_skip' (by rfl) ?_
        try simp only [Act.put, List.setIfInBounds_toArray, List.set_cons_zero, List.set_cons_succ]
        refine sched_run (v := ?_) (by rfl) ?_ ?_
        rotate_left
        · (intro w' hS'; go_simp; try with_reducible rfl)
        try simp only [Act.put, List.setIfInBounds_toArray, List.set_cons_zero, List.set_cons_succ]
        refine sched_run (v := ?_) (by rfl) ?_ ?_
        rotate_left
        · (intro w' hS'; go_simp; try with_reducible rfl)
        try simp only [Act.put, List.setIfInBounds_toArray, List.set_cons_zero, List.set_cons_succ]
        refine sched_done ?_
        go_wp2_with fail
        go_ret
        exact ⟨rfl, B1.out.trans (hv1.mono B1.out.size)⟩
      · cases r1 : inB o.qt 1 9999
        · have hF : rangeB o = false := by simp [rangeB, HQ.out, hk, r0, r1]
          rw [hF]
          have R0 := Lib.hid r0
          have R1 := Lib.hid r1
          clear hF hk r0 r1
          go_enter Tryd.func61, Tryd.ntmps61
          go_wp2_with fail
          refine (l1In_w _ _ _ true HQ.out _).mono ?_
          rintro e w1 ⟨rfl, hb1⟩
          obtain ⟨hbb, c0, c1, c2, c3, c4, c5, c6⟩ := H.out.below hb1
          have B1 := Lib.hid hb1; clear hb1
          rw [HK.out] at c0
          go_wp2_with fail
          have hld : ∀ w', Below w1.heap.size w1 w' → w'.cell? ⟨b, off, none⟩ = some (.int .i64 1) ∧ w'.cell? ⟨b, off + 1, none⟩ = some (.int .i64 o.rq) ∧ w'.cell? ⟨b, off + 2, none⟩ = some (.int .i64 o.lc) ∧ w'.cell? ⟨b, off + 3, none⟩ = some (.int .i64 o.tt) ∧ w'.cell? ⟨b, off + 4, none⟩ = some (.int .i64 o.sk) ∧ w'.cell? ⟨b, off + 5, none⟩ = some (.int .i64 o.qt) ∧ w'.cell? ⟨b, off + 6, none⟩ = some (.int .i64 o.hd) := fun w' h => ⟨(h.cell (p := ⟨b, _, none⟩) hbb).trans c0, (h.cell (p := ⟨b, _, none⟩) hbb).trans c1, (h.cell (p := ⟨b, _, none⟩) hbb).trans c2, (h.cell (p := ⟨b, _, none⟩) hbb).trans c3, (h.cell (p := ⟨b, _, none⟩) hbb).trans c4, (h.cell (p := ⟨b, _, none⟩) hbb).trans c5, (h.cell (p := ⟨b, _, none⟩) hbb).trans c6⟩
          have HLD := Lib.hid hld; clear hld
          refine wp_region_sched (fun w' => Below w1.heap.size w1 w') [(0, true), (1, true), (2, true), (3, true), (4, true), (5, true), (6, true), (7, true), (8, false), (9, true), (10, true), (11, true), (12, true), (13, true), (14, false), (15, true), (16, true)] (by kernel_rfl) (by kernel_rfl) (by kernel_rfl) (by kernel_rfl) (fun _ _ d _ _ h => by cases d <;> exact h) ⟨rfl, rfl, rfl, Nat.le_refl _, fun _ _ => rfl⟩ ?_
          simp only [opsOf, List.filterMap_cons, List.filterMap_nil, Option.map_some, List.getElem?_toArray, List.getElem?_cons_zero, List.getElem?_cons_succ]
          generalize hW0 : ({ heap := w1.heap, tape := w1.tape, drawn := w1.drawn + 1, os := w1.os, output := w1.output } : World) = v0
          have hv0 : Below w1.heap.size w1 v0 := by rw [← hW0]; exact ⟨rfl, rfl, rfl, Nat.le_refl _, fun _ _ => rfl⟩
          clear hW0
          refine sched_run (v := ?_) (by rfl) ?_ ?_
          rotate_left
          · (intro w' hS'; go_simp; try with_reducible rfl)
          try simp only [Act.put, List.setIfInBounds_toArray, List.set_cons_zero, List.set_cons_succ]
          refine sched_run (v := ?_) (by rfl) ?_ ?_
          rotate_left
          · (intro w' hS'; go_simp; try with_reducible rfl)
          try simp only [Act.put, List.setIfInBounds_toArray, List.set_cons_zero, List.set_cons_succ]
          refine sched_run (v := ?_) (by rfl) ?_ ?_
          rotate_left
          · (intro w' hS'; go_simp; try with_reducible rfl)
          try simp only [Act.put, List.setIfInBounds_toArray, List.set_cons_zero, List.set_cons_succ]
          refine sched_run (v := ?_) (by rfl) ?_ ?_
          rotate_left
          · (intro w' hS'; obtain ⟨a0, a1, a2, a3, a4, a5, a6⟩ := HLD.out w' hS'; go_simp; try with_reducible rfl)
          try simp only [Act.put, List.setIfInBounds_toArray, List.set_cons_zero, List.set_cons_succ]
          refine sched_run (v := ?_) (by rfl) ?_ ?_
          rotate_left
          · (intro w' hS'; go_simp; try with_reducible rfl)
          try simp only [Act.put, List.setIfInBounds_toArray, List.set_cons_zero, List.set_cons_succ]
          refine sched_run (v := ?_) (by rfl) ?_ ?_
          rotate_left
          · (intro w' hS'; go_simp; try with_reducible rfl)
          try simp only [Act.put, List.setIfInBounds_toArray, List.set_cons_zero, List.set_cons_succ]
          refine sched_run (v := ?_) (by rfl) ?_ ?_
          rotate_left
          · (intro w' hS'; go_simp; try with_reducible rfl)
          try simp only [Act.put, List.setIfInBounds_toArray, List.set_cons_zero, List.set_cons_succ]
          refine sched_run (v := ?_) (by rfl) ?_ ?_
          rotate_left
          · (intro w' hS'; obtain ⟨a0, a1, a2, a3, a4, a5, a6⟩ := HLD.out w' hS'; go_simp; try with_reducible rfl)
          try simp only [Act.put, List.setIfInBounds_toArray, List.set_cons_zero, List.set_cons_succ]
          refine sched_call (by rfl) (fun K hK => ?_)
          go_simp
          refine (l2Is_w _ _ true R0.out _).mono ?_
          rintro e v1 ⟨rfl, hbv0⟩
          have hv1 : Below w1.heap.size w1 v1 := hv0.trans (hbv0.mono hv0.size)
          clear hbv0
          refine hK _ _ hv1 ?_
          try simp only [Act.put, List.setIfInBounds_toArray, List.set_cons_zero, List.set_cons_succ]
          refine sched_run (v := ?_) (by rfl) ?_ ?_
          rotate_left
          · (intro w' hS'; go_simp; try with_reducible rfl)
          try simp only [Act.put, List.setIfInBounds_toArray, List.set_cons_zero, List.set_cons_succ]
          refine sched_run (v := ?_) (by rfl) ?_ ?_
          rotate_left
          · (intro w' hS'; go_simp; try with_reducible rfl)
          try simp only [Act.put, List.setIfInBounds_toArray, List.set_cons_zero, List.set_cons_succ]
          refine sched_run (v := ?_) (by rfl) ?_ ?_
          rotate_left
          · (intro w' hS'; go_simp; try with_reducible rfl)
          try simp only [Act.put, List.setIfInBounds_toArray, List.set_cons_zero, List.set_cons_succ]
          refine sched_run (v := ?_) (by rfl) ?_ ?_
          rotate_left
          · (intro w' hS'; go_simp; try with_reducible rfl)
          try simp only [Act.put, List.setIfInBounds_toArray, List.set_cons_zero, List.set_cons_succ]
          refine sched_run (v := ?_) (by rfl) ?_ ?_
          rotate_left
          · (intro w' hS'; obtain ⟨a0, a1, a2, a3, a4, a5, a6⟩ := HLD.out w' hS'; go_simp; try with_reducible rfl)
          try simp only [Act.put, List.setIfInBounds_toArray, List.set_cons_zero, List.set_cons_succ]
          refine sched_call (by rfl) (fun K hK => ?_)
          go_simp
          refine (l1In_w _ _ _ false R1.out _).mono ?_
          rintro e v2 ⟨rfl, hbv1⟩
          have hv2 : Below w1.heap.size w1 v2 := hv1.trans (hbv1.mono hv1.size)
          clear hbv1
          refine hK _ _ hv2 ?_
          try simp only [Act.put, List.setIfInBounds_toArray, List.set_cons_zero, List.set_cons_succ]
          refine sched_run (v := ?_) (by rfl) ?_ ?_
          rotate_left
          · (intro w' hS'; go_simp; try with_reducible rfl)
          try simp only [Act.put, List.setIfInBounds_toArray, List.set_cons_zero, List.set_cons_succ]
          refine sched_run (v := ?_) (by rfl) ?_ ?_
          rotate_left
          · (intro w' hS'; go_simp; try with_reducible rfl)
          try simp only [Act.put, List.setIfInBounds_toArray, List.set_cons_zero, List.set_cons_succ]
          refine sched_done ?_
          go_wp2_with fail
          go_ret
          exact ⟨rfl, B1.out.trans (hv2.mono B1.out.size)⟩
        · have hF : rangeB o = true := by simp [rangeB, HQ.out, hk, r0, r1]
          rw [hF]
          have R0 := Lib.hid r0
          have R1 := Lib.hid r1
          clear hF hk r0 r1
          go_enter Tryd.func61, Tryd.ntmps61
          go_wp2_with fail
          refine (l1In_w _ _ _ true HQ.out _).mono ?_
          rintro e w1 ⟨rfl, hb1⟩
          obtain ⟨hbb, c0, c1, c2, c3, c4, c5, c6⟩ := H.out.below hb1
          have B1 := Lib.hid hb1; clear hb1
          rw [HK.out] at c0
          go_wp2_with fail
          have hld : ∀ w', Below w1.heap.size w1 w' → w'.cell? ⟨b, off, none⟩ = some (.int .i64 1) ∧ w'.cell? ⟨b, off + 1, none⟩ = some (.int .i64 o.rq) ∧ w'.cell? ⟨b, off + 2, none⟩ = some (.int .i64 o.lc) ∧ w'.cell? ⟨b, off + 3, none⟩ = some (.int .i64 o.tt) ∧ w'.cell? ⟨b, off + 4, none⟩ = some (.int .i64 o.sk) ∧ w'.cell? ⟨b, off + 5, none⟩ = some (.int .i64 o.qt) ∧ w'.cell? ⟨b, off + 6, none⟩ = some (.int .i64 o.hd) := fun w' h => ⟨(h.cell (p := ⟨b, _, none⟩) hbb).trans c0, (h.cell (p := ⟨b, _, none⟩) hbb).trans c1, (h.cell (p := ⟨b, _, none⟩) hbb).trans c2, (h.cell (p := ⟨b, _, none⟩) hbb).trans c3, (h.cell (p := ⟨b, _, none⟩) hbb).trans c4, (h.cell (p := ⟨b, _, none⟩) hbb).trans c5, (h.cell (p := ⟨b, _, none⟩) hbb).trans c6⟩
          have HLD := Lib.hid hld; clear hld
          refine wp_region_sched (fun w' => Below w1.heap.size w1 w') [(0, true), (1, true), (2, true), (3, true), (4, true), (5, true), (6, true), (7, true), (8, false), (9, true), (10, true), (11, true), (12, true), (13, true), (14, false), (15, true), (16, true)] (by kernel_rfl) (by kernel_rfl) (by kernel_rfl) (by kernel_rfl) (fun _ _ d _ _ h => by cases d <;> exact h) ⟨rfl, rfl, rfl, Nat.le_refl _, fun _ _ => rfl⟩ ?_
          simp only [opsOf, List.filterMap_cons, List.filterMap_nil, Option.map_some, List.getElem?_toArray, List.getElem?_cons_zero, List.getElem?_cons_succ]
          generalize hW0 : ({ heap := w1.heap, tape := w1.tape, drawn := w1.drawn + 1, os := w1.os, output := w1.output } : World) = v0
          have hv0 : Below w1.heap.size w1 v0 := by rw [← hW0]; exact ⟨rfl, rfl, rfl, Nat.le_refl _, fun _ _ => rfl⟩
          clear hW0
          refine sched_run (v := ?_) (by rfl) ?_ ?_
          rotate_left
          · (intro w' hS'; go_simp; try with_reducible rfl)
          try simp only [Act.put, List.setIfInBounds_toArray, List.set_cons_zero, List.set_cons_succ]
          refine sched_run (v := ?_) (by rfl) ?_ ?_
          rotate_left
          · (intro w' hS'; go_simp; try with_reducible rfl)
          try simp only [Act.put, List.setIfInBounds_toArray, List.set_cons_zero, List.set_cons_succ]
          refine sched_run (v := ?_) (by rfl) ?_ ?_
          rotate_left
          · (intro w' hS'; go_simp; try with_reducible rfl)
          try simp only [Act.put, List.setIfInBounds_toArray, List.set_cons_zero, List.set_cons_succ]
          refine sched_run (v := ?_) (by rfl) ?_ ?_
          rotate_left
          · (intro w' hS'; obtain ⟨a0, a1, a2, a3, a4, a5, a6⟩ := HLD.out w' hS'; go_simp; try with_reducible rfl)
          try simp only [Act.put, List.setIfInBounds_toArray, List.set_cons_zero, List.set_cons_succ]
          refine sched_run (v := ?_) (by rfl) ?_ ?_
          rotate_left
          · (intro w' hS'; go_simp; try with_reducible rfl)
          try simp only [Act.put, List.setIfInBounds_toArray, List.set_cons_zero, List.set_cons_succ]
          refine sched_run (v := ?_) (by rfl) ?_ ?_
          rotate_left
          · (intro w' hS'; go_simp; try with_reducible rfl)
          try simp only [Act.put, List.setIfInBounds_toArray, List.set_cons_zero, List.set_cons_succ]
          refine sched_run (v := ?_) (by rfl) ?_ ?_
          rotate_left
          · (intro w' hS'; go_simp; try with_reducible rfl)
          try simp only [Act.put, List.setIfInBounds_toArray, List.set_cons_zero, List.set_cons_succ]
          refine sched_run (v := ?_) (by rfl) ?_ ?_
          rotate_left
          · (intro w' hS'; obtain ⟨a0, a1, a2, a3, a4, a5, a6⟩ := HLD.out w' hS'; go_simp; try with_reducible rfl)
          try simp only [Act.put, List.setIfInBounds_toArray, List.set_cons_zero, List.set_cons_succ]
          refine sched_call (by rfl) (fun K hK => ?_)
          go_simp
          refine (l2Is_w _ _ true R0.out _).mono ?_
          rintro e v1 ⟨rfl, hbv0⟩
          have hv1 : Below w1.heap.size w1 v1 := hv0.trans (hbv0.mono hv0.size)
          clear hbv0
          refine hK _ _ hv1 ?_
          try simp only [Act.put, List.setIfInBounds_toArray, List.set_cons_zero, List.set_cons_succ]
          refine sched_run (v := ?_) (by rfl) ?_ ?_
          rotate_left
          · (intro w' hS'; go_simp; try with_reducible rfl)
          try simp only [Act.put, List.setIfInBounds_toArray, List.set_cons_zero, List.set_cons_succ]
          refine sched_run (v := ?_) (by rfl) ?_ ?_
          rotate_left
          · (intro w' hS'; go_simp; try with_reducible rfl)
          try simp only [Act.put, List.setIfInBounds_toArray, List.set_cons_zero, List.set_cons_succ]
          refine sched_run (v := ?_) (by rfl) ?_ ?_
          rotate_left
          · (intro w' hS'; go_simp; try with_reducible rfl)
          try simp only [Act.put, List.setIfInBounds_toArray, List.set_cons_zero, List.set_cons_succ]
          refine sched_run (v := ?_) (by rfl) ?_ ?_
          rotate_left
          · (intro w' hS'; go_simp; try with_reducible rfl)
          try simp only [Act.put, List.setIfInBounds_toArray, List.set_cons_zero, List.set_cons_succ]
          refine sched_run (v := ?_) (by rfl) ?_ ?_
          rotate_left
          · (intro w' hS'; obtain ⟨a0, a1, a2, a3, a4, a5, a6⟩ := HLD.out w' hS'; go_simp; try with_reducible rfl)
          try simp only [Act.put, List.setIfInBounds_toArray, List.set_cons_zero, List.set_cons_succ]
          refine sched_call (by rfl) (fun K hK => ?_)
          go_simp
          refine (l1In_w _ _ _ true R1.out _).mono ?_
          rintro e v2 ⟨rfl, hbv1⟩
          have hv2 : Below w1.heap.size w1 v2 := hv1.trans (hbv1.mono hv1.size)
          clear hbv1
          refine hK _ _ hv2 ?_
          try simp only [Act.put, List.setIfInBounds_toArray, List.set_cons_zero, List.set_cons_succ]
          refine sched_run (v := ?_) (by rfl) ?_ ?_
          rotate_left
          · (intro w' hS'; go_simp; try with_reducible rfl)
          try simp only [Act.put, List.setIfInBounds_toArray, List.set_cons_zero, List.set_cons_succ]
          refine sched_run (v := ?_) (by rfl) ?_ ?_
          rotate_left
          · (intro w' hS'; go_simp; try with_reducible rfl)
          try simp only [Act.put, List.setIfInBounds_toArray, List.set_cons_zero, List.set_cons_succ]
          refine sched_done ?_
          go_wp2_with fail
          go_ret
          exact ⟨rfl, B1.out.trans (hv2.mono B1.out.size)⟩
    · have n1 : (o.k == 1) = false := by simpa using hk
      have m1 := hk
      clear hk
      by_cases hk : o.k = 2
      · have HK := Lib.hid hk
        rw [hk] at c0
        cases r0 : isB o.lc o.sk
        · have hF : rangeB o = false := by simp [rangeB, HQ.out, hk, r0]
          rw [hF]
          have R0 := Lib.hid r0
          clear hF hk r0
          go_enter Tryd.func61, Tryd.ntmps61
          go_wp2_with fail
          refine (l1In_w _ _ _ true HQ.out _).mono ?_
          rintro e w1 ⟨rfl, hb1⟩
          obtain ⟨hbb, c0, c1, c2, c3, c4, c5, c6⟩ := H.out.below hb1
          have B1 := Lib.hid hb1; clear hb1
          rw [HK.out] at c0
          go_wp2_with fail
          have hld : ∀ w', Below w1.heap.size w1 w' → w'.cell? ⟨b, off, none⟩ = some (.int .i64 2) ∧ w'.cell? ⟨b, off + 1, none⟩ = some (.int .i64 o.rq) ∧ w'.cell? ⟨b, off + 2, none⟩ = some (.int .i64 o.lc) ∧ w'.cell? ⟨b, off + 3, none⟩ = some (.int .i64 o.tt) ∧ w'.cell? ⟨b, off + 4, none⟩ = some (.int .i64 o.sk) ∧ w'.cell? ⟨b, off + 5, none⟩ = some (.int .i64 o.qt) ∧ w'.cell? ⟨b, off + 6, none⟩ = some (.int .i64 o.hd) := fun w' h => ⟨(h.cell (p := ⟨b, _, none⟩) hbb).trans c0, (h.cell (p := ⟨b, _, none⟩) hbb).trans c1, (h.cell (p := ⟨b, _, none⟩) hbb).trans c2, (h.cell (p := ⟨b, _, none⟩) hbb).trans c3, (h.cell (p := ⟨b, _, none⟩) hbb).trans c4, (h.cell (p := ⟨b, _, none⟩) hbb).trans c5, (h.cell (p := ⟨b, _, none⟩) hbb).trans c6⟩
          have HLD := Lib.hid hld; clear hld
          refine wp_region_sched (fun w' => Below w1.heap.size w1 w') [(0, true), (1, true), (2, true), (3, true), (4, true), (5, true), (6, true), (7, true), (8, false), (9, true), (10, true), (11, true), (12, true), (13, true), (14, false), (15, true), (16, true)] (by kernel_rfl) (by kernel_rfl) (by kernel_rfl) (by kernel_rfl) (fun _ _ d _ _ h => by cases d <;> exact h) ⟨rfl, rfl, rfl, Nat.le_refl _, fun _ _ => rfl⟩ ?_
          simp only [opsOf, List.filterMap_cons, List.filterMap_nil, Option.map_some, List.getElem?_toArray, List.getElem?_cons_zero, List.getElem?_cons_succ]
          generalize hW0 : ({ heap := w1.heap, tape := w1.tape, drawn := w1.drawn + 1, os := w1.os, output := w1.output } : World) = v0
          have hv0 : Below w1.heap.size w1 v0 := by rw [← hW0]; exact ⟨rfl, rfl, rfl, Nat.le_refl _, fun _ _ => rfl⟩
          clear hW0
          refine sched_run (v := ?_) (by rfl) ?_ ?_
          rotate_left
          · (intro w' hS'; go_simp; try with_reducible rfl)
          try simp only [Act.put, List.setIfInBounds_toArray, List.set_cons_zero, List.set_cons_succ]
          refine sched_run (v := ?_) (by rfl) ?_ ?_
          rotate_left
          · (intro w' hS'; go_simp; try with_reducible rfl)
          try simp only [Act.put, List.setIfInBounds_toArray, List.set_cons_zero, List.set_cons_succ]
          refine sched_run (v := ?_) (by rfl) ?_ ?_
          rotate_left
          · (intro w' hS'; go_simp; try with_reducible rfl)
          try simp only [Act.put, List.setIfInBounds_toArray, List.set_cons_zero, List.set_cons_succ]
          refine sched_run (v := ?_) (by rfl) ?_ ?_
          rotate_left
          · (intro w' hS'; obtain ⟨a0, a1, a2, a3, a4, a5, a6⟩ := HLD.out w' hS'; go_simp; try with_reducible rfl)
          try simp only [Act.put, List.setIfInBounds_toArray, List.set_cons_zero, List.set_cons_succ]
          refine sched_run (v := ?_) (by rfl) ?_ ?_
          rotate_left
          · (intro w' hS'; go_simp; try with_reducible rfl)
          try simp only [Act.put, List.setIfInBounds_toArray, List.set_cons_zero, List.set_cons_succ]
          refine sched_run (v := ?_) (by rfl) ?_ ?_
          rotate_left
          · (intro w' hS'; go_simp; try with_reducible rfl)
          try simp only [Act.put, List.setIfInBounds_toArray, List.set_cons_zero, List.set_cons_succ]
          refine sched_run (v := ?_) (by rfl) ?_ ?_
          rotate_left
          · (intro w' hS'; go_simp; try with_reducible rfl)
          try simp only [Act.put, List.setIfInBounds_toArray, List.set_cons_zero, List.set_cons_succ]
          refine sched_run (v := ?_) (by rfl) ?_ ?_
          rotate_left
          · (intro w' hS'; obtain ⟨a0, a1, a2, a3, a4, a5, a6⟩ := HLD.out w' hS'; go_simp; try with_reducible rfl)
          try simp only [Act.put, List.setIfInBounds_toArray, List.set_cons_zero, List.set_cons_succ]
          refine sched_call (by rfl) (fun K hK => ?_)
          go_simp
          refine (l2Is_w _ _ false R0.out _).mono ?_
          rintro e v1 ⟨rfl, hbv0⟩
          have hv1 : Below w1.heap.size w1 v1 := hv0.trans (hbv0.mono hv0.size)
          clear hbv0
          refine hK _ _ hv1 ?_
          try simp only [Act.put, List.setIfInBounds_toArray, List.set_cons_zero, List.set_cons_succ]
          refine sched_run (v := ?_) (by rfl) ?_ ?_
          rotate_left
          · (intro w' hS'; go_simp; try with_reducible rfl)
          try simp only [Act.put, List.setIfInBounds_toArray, List.set_cons_zero, List.set_cons_succ]
          refine sched_skip (by rfl) ?_
          try simp only [Act.put, List.setIfInBounds_toArray, List.set_cons_zero, List.set_cons_succ]
          refine sched_skip (by rfl) ?_
          try simp only [Act.put, List.setIfInBounds_toArray, List.set_cons_zero, List.set_cons_succ]
          refine sched_skip (by rfl) ?_
          try simp only [Act.put, List.setIfInBounds_toArray, List.set_cons_zero, List.set_cons_succ]
          refine sched_skip (by rfl) ?_
          try simp only [Act.put, List.setIfInBounds_toArray, List.set_cons_zero, List.set_cons_succ]
          refine sched_skip' (by rfl) ?_
          try simp only [Act.put, List.setIfInBounds_toArray, List.set_cons_zero, List.set_cons_succ]
          refine sched_run (v := ?_) (by rfl) ?_ ?_
          rotate_left
          · (intro w' hS'; go_simp; try with_reducible rfl)
          try simp only [Act.put, List.setIfInBounds_toArray, List.set_cons_zero, List.set_cons_succ]
          refine sched_run (v := ?_) (by rfl) ?_ ?_
          rotate_left
          · (intro w' hS'; go_simp; try with_reducible rfl)
          try simp only [Act.put, List.setIfInBounds_toArray, List.set_cons_zero, List.set_cons_succ]
          refine sched_done ?_
          go_wp2_with fail
          go_ret
          exact ⟨rfl, B1.out.trans (hv1.mono B1.out.size)⟩
        · cases r1 : inB o.qt 1 9999
          · have hF : rangeB o = false := by simp [rangeB, HQ.out, hk, r0, r1]
            rw [hF]
            have R0 := Lib.hid r0
            have R1 := Lib.hid r1
            clear hF hk r0 r1
            go_enter Tryd.func61, Tryd.ntmps61
            go_wp2_with fail
            refine (l1In_w _ _ _ true HQ.out _).mono ?_
            rintro e w1 ⟨rfl, hb1⟩
            obtain ⟨hbb, c0, c1, c2, c3, c4, c5, c6⟩ := H.out.below hb1
            have B1 := Lib.hid hb1; clear hb1
            rw [HK.out] at c0
            go_wp2_with fail
            have hld : ∀ w', Below w1.heap.size w1 w' → w'.cell? ⟨b, off, none⟩ = some (.int .i64 2) ∧ w'.cell? ⟨b, off + 1, none⟩ = some (.int .i64 o.rq) ∧ w'.cell? ⟨b, off + 2, none⟩ = some (.int .i64 o.lc) ∧ w'.cell? ⟨b, off + 3, none⟩ = some (.int .i64 o.tt) ∧ w'.cell? ⟨b, off + 4, none⟩ = some (.int .i64 o.sk) ∧ w'.cell? ⟨b, off + 5, none⟩ = some (.int .i64 o.qt) ∧ w'.cell? ⟨b, off + 6, none⟩ = some (.int .i64 o.hd) := fun w' h => ⟨(h.cell (p := ⟨b, _, none⟩) hbb).trans c0, (h.cell (p := ⟨b, _, none⟩) hbb).trans c1, (h.cell (p := ⟨b, _, none⟩) hbb).trans c2, (h.cell (p := ⟨b, _, none⟩) hbb).trans c3, (h.cell (p := ⟨b, _, none⟩) hbb).trans c4, (h.cell (p := ⟨b, _, none⟩) hbb).trans c5, (h.cell (p := ⟨b, _, none⟩) hbb).trans c6⟩
            have HLD := Lib.hid hld; clear hld
            refine wp_region_sched (fun w' => Below w1.heap.size w1 w') [(0, true), (1, true), (2, true), (3, true), (4, true), (5, true), (6, true), (7, true), (8, false), (9, true), (10, true), (11, true), (12, true), (13, true), (14, false), (15, true), (16, true)] (by kernel_rfl) (by kernel_rfl) (by kernel_rfl) (by kernel_rfl) (fun _ _ d _ _ h => by cases d <;> exact h) ⟨rfl, rfl, rfl, Nat.le_refl _, fun _ _ => rfl⟩ ?_
            simp only [opsOf, List.filterMap_cons, List.filterMap_nil, Option.map_some, List.getElem?_toArray, List.getElem?_cons_zero, List.getElem?_cons_succ]
            generalize hW0 : ({ heap := w1.heap, tape := w1.tape, drawn := w1.drawn + 1, os := w1.os, output := w1.output } : World) = v0
            have hv0 : Below w1.heap.size w1 v0 := by rw [← hW0]; exact ⟨rfl, rfl, rfl, Nat.le_refl _, fun _ _ => rfl⟩
            clear hW0
            refine sched_run (v := ?_) (by rfl) ?_ ?_
            rotate_left
            · (intro w' hS'; go_simp; try with_reducible rfl)
            try simp only [Act.put, List.setIfInBounds_toArray, List.set_cons_zero, List.set_cons_succ]
            refine sched_run (v := ?_) (by rfl) ?_ ?_
            rotate_left
            · (intro w' hS'; go_simp; try with_reducible rfl)
            try simp only [Act.put, List.setIfInBounds_toArray, List.set_cons_zero, List.set_cons_succ]
            refine sched_run (v := ?_) (by rfl) ?_ ?_
            rotate_left
            · (intro w' hS'; go_simp; try with_reducible rfl)
            try simp only [Act.put, List.setIfInBounds_toArray, List.set_cons_zero, List.set_cons_succ]
            refine sched_run (v := ?_) (by rfl) ?_ ?_
            rotate_left
            · (intro w' hS'; obtain ⟨a0, a1, a2, a3, a4, a5, a6⟩ := HLD.out w' hS'; go_simp; try with_reducible rfl)
            try simp only [Act.put, List.setIfInBounds_toArray, List.set_cons_zero, List.set_cons_succ]
            refine sched_run (v := ?_) (by rfl) ?_ ?_
            rotate_left
            · (intro w' hS'; go_simp; try with_reducible rfl)
            try simp only [Act.put, List.setIfInBounds_toArray, List.set_cons_zero, List.set_cons_succ]
            refine sched_run (v := ?_) (by rfl) ?_ ?_
            rotate_left
            · (intro w' hS'; go_simp; try with_reducible rfl)
            try simp only [Act.put, List.setIfInBounds_toArray, List.set_cons_zero, List.set_cons_succ]
            refine sched_run (v := ?_) (by rfl) ?_ ?_
            rotate_left
            · (intro w' hS'; go_simp; try with_reducible rfl)
            try simp only [Act.put, List.setIfInBounds_toArray, List.set_cons_zero, List.set_cons_succ]
            refine sched_run (v := ?_) (by rfl) ?_ ?_
            rotate_left
            · (intro w' hS'; obtain ⟨a0, a1, a2, a3, a4, a5, a6⟩ := HLD.out w' hS'; go_simp; try with_reducible rfl)
            try simp only [Act.put, List.setIfInBounds_toArray, List.set_cons_zero, List.set_cons_succ]
            refine sched_call (by rfl) (fun K hK => ?_)
            go_simp
            refine (l2Is_w _ _ true R0.out _).mono ?_
            rintro e v1 ⟨rfl, hbv0⟩
            have hv1 : Below w1.heap.size w1 v1 := hv0.trans (hbv0.mono hv0.size)
            clear hbv0
            refine hK _ _ hv1 ?_
            try simp only [Act.put, List.setIfInBounds_toArray, List.set_cons_zero, List.set_cons_succ]
            refine sched_run (v := ?_) (by rfl) ?_ ?_
            rotate_left
            · (intro w' hS'; go_simp; try with_reducible rfl)
            try simp only [Act.put, List.setIfInBounds_toArray, List.set_cons_zero, List.set_cons_succ]
            refine sched_run (v := ?_) (by rfl) ?_ ?_
            rotate_left
            · (intro w' hS'; go_simp; try with_reducible rfl)
            try simp only [Act.put, List.setIfInBounds_toArray, List.set_cons_zero, List.set_cons_succ]
            refine sched_run (v := ?_) (by rfl) ?_ ?_
            rotate_left
            · (intro w' hS'; go_simp; try with_reducible rfl)
            try simp only [Act.put, List.setIfInBounds_toArray, List.set_cons_zero, List.set_cons_succ]
            refine sched_run (v := ?_) (by rfl) ?_ ?_
            rotate_left
            · (intro w' hS'; go_simp; try with_reducible rfl)
            try simp only [Act.put, List.setIfInBounds_toArray, List.set_cons_zero, List.set_cons_succ]
            refine sched_run (v := ?_) (by rfl) ?_ ?_
            rotate_left
            · (intro w' hS'; obtain ⟨a0, a1, a2, a3, a4, a5, a6⟩ := HLD.out w' hS'; go_simp; try with_reducible rfl)
            try simp only [Act.put, List.setIfInBounds_toArray, List.set_cons_zero, List.set_cons_succ]
            refine sched_call (by rfl) (fun K hK => ?_)
            go_simp
            refine (l1In_w _ _ _ false R1.out _).mono ?_
            rintro e v2 ⟨rfl, hbv1⟩
            have hv2 : Below w1.heap.size w1 v2 := hv1.trans (hbv1.mono hv1.size)
            clear hbv1
            refine hK _ _ hv2 ?_
            try simp only [Act.put, List.setIfInBounds_toArray, List.set_cons_zero, List.set_cons_succ]
            refine sched_run (v := ?_) (by rfl) ?_ ?_
            rotate_left
            · (intro w' hS'; go_simp; try with_reducible rfl)
            try simp only [Act.put, List.setIfInBounds_toArray, List.set_cons_zero, List.set_cons_succ]
            refine sched_run (v := ?_) (by rfl) ?_ ?_
            rotate_left
            · (intro w' hS'; go_simp; try with_reducible rfl)
            try simp only [Act.put, List.setIfInBounds_toArray, List.set_cons_zero, List.set_cons_succ]
            refine sched_done ?_
            go_wp2_with fail
            go_ret
            exact ⟨rfl, B1.out.trans (hv2.mono B1.out.size)⟩
          · have hF : rangeB o = true := by simp [rangeB, HQ.out, hk, r0, r1]
            rw [hF]
            have R0 := Lib.hid r0
            have R1 := Lib.hid r1
            clear hF hk r0 r1
            go_enter Tryd.func61, Tryd.ntmps61
            go_wp2_with fail
            refine (l1In_w _ _ _ true HQ.out _).mono ?_
            rintro e w1 ⟨rfl, hb1⟩
            obtain ⟨hbb, c0, c1, c2, c3, c4, c5, c6⟩ := H.out.below hb1
            have B1 := Lib.hid hb1; clear hb1
            rw [HK.out] at c0
            go_wp2_with fail
            have hld : ∀ w', Below w1.heap.size w1 w' → w'.cell? ⟨b, off, none⟩ = some (.int .i64 2) ∧ w'.cell? ⟨b, off + 1, none⟩ = some (.int .i64 o.rq) ∧ w'.cell? ⟨b, off + 2, none⟩ = some (.int .i64 o.lc) ∧ w'.cell? ⟨b, off + 3, none⟩ = some (.int .i64 o.tt) ∧ w'.cell? ⟨b, off + 4, none⟩ = some (.int .i64 o.sk) ∧ w'.cell? ⟨b, off + 5, none⟩ = some (.int .i64 o.qt) ∧ w'.cell? ⟨b, off + 6, none⟩ = some (.int .i64 o.hd) := fun w' h => ⟨(h.cell (p := ⟨b, _, none⟩) hbb).trans c0, (h.cell (p := ⟨b, _, none⟩) hbb).trans c1, (h.cell (p := ⟨b, _, none⟩) hbb).trans c2, (h.cell (p := ⟨b, _, none⟩) hbb).trans c3, (h.cell (p := ⟨b, _, none⟩) hbb).trans c4, (h.cell (p := ⟨b, _, none⟩) hbb).trans c5, (h.cell (p := ⟨b, _, none⟩) hbb).trans c6⟩
            have HLD := Lib.hid hld; clear hld
            refine wp_region_sched (fun w' => Below w1.heap.size w1 w') [(0, true), (1, true), (2, true), (3, true), (4, true), (5, true), (6, true), (7, true), (8, false), (9, true), (10, true), (11, true), (12, true), (13, true), (14, false), (15, true), (16, true)] (by kernel_rfl) (by kernel_rfl) (by kernel_rfl) (by kernel_rfl) (fun _ _ d _ _ h => by cases d <;> exact h) ⟨rfl, rfl, rfl, Nat.le_refl _, fun _ _ => rfl⟩ ?_
            simp only [opsOf, List.filterMap_cons, List.filterMap_nil, Option.map_some, List.getElem?_toArray, List.getElem?_cons_zero, List.getElem?_cons_succ]
            generalize hW0 : ({ heap := w1.heap, tape := w1.tape, drawn := w1.drawn + 1, os := w1.os, output := w1.output } : World) = v0
            have hv0 : Below w1.heap.size w1 v0 := by rw [← hW0]; exact ⟨rfl, rfl, rfl, Nat.le_refl _, fun _ _ => rfl⟩
            clear hW0
            refine sched_run (v := ?_) (by rfl) ?_ ?_
            rotate_left
            · (intro w' hS'; go_simp; try with_reducible rfl)
            try simp only [Act.put, List.setIfInBounds_toArray, List.set_cons_zero, List.set_cons_succ]
            refine sched_run (v := ?_) (by rfl) ?_ ?_
            rotate_left
            · (intro w' hS'; go_simp; try with_reducible rfl)
            try simp only [Act.put, List.setIfInBounds_toArray, List.set_cons_zero, List.set_cons_succ]
            refine sched_run (v := ?_) (by rfl) ?_ ?_
            rotate_left
            · (intro w' hS'; go_simp; try with_reducible rfl)
            try simp only [Act.put, List.setIfInBounds_toArray, List.set_cons_zero, List.set_cons_succ]
            refine sched_run (v := ?_) (by rfl) ?_ ?_
            rotate_left
            · (intro w' hS'; obtain ⟨a0, a1, a2, a3, a4, a5, a6⟩ := HLD.out w' hS'; go_simp; try with_reducible rfl)
            try simp only [Act.put, List.setIfInBounds_toArray, List.set_cons_zero, List.set_cons_succ]
            refine sched_run (v := ?_) (by rfl) ?_ ?_
            rotate_left
            · (intro w' hS'; go_simp; try with_reducible rfl)
            try simp only [Act.put, List.setIfInBounds_toArray, List.set_cons_zero, List.set_cons_succ]
            refine sched_run (v := ?_) (by rfl) ?_ ?_
            rotate_left
            · (intro w' hS'; go_simp; try with_reducible rfl)
            try simp only [Act.put, List.setIfInBounds_toArray, List.set_cons_zero, List.set_cons_succ]
            refine sched_run (v := ?_) (by rfl) ?_ ?_
            rotate_left
            · (intro w' hS'; go_simp; try with_reducible rfl)
            try simp only [Act.put, List.setIfInBounds_toArray, List.set_cons_zero, List.set_cons_succ]
            refine sched_run (v := ?_) (by rfl) ?_ ?_
            rotate_left
            · (intro w' hS'; obtain ⟨a0, a1, a2, a3, a4, a5, a6⟩ := HLD.out w' hS'; go_simp; try with_reducible rfl)
            try simp only [Act.put, List.setIfInBounds_toArray, List.set_cons_zero, List.set_cons_succ]
            refine sched_call (by rfl) (fun K hK => ?_)
            go_simp
            refine (l2Is_w _ _ true R0.out _).mono ?_
            rintro e v1 ⟨rfl, hbv0⟩
            have hv1 : Below w1.heap.size w1 v1 := hv0.trans (hbv0.mono hv0.size)
            clear hbv0
            refine hK _ _ hv1 ?_
            try simp only [Act.put, List.setIfInBounds_toArray, List.set_cons_zero, List.set_cons_succ]
            refine sched_run (v := ?_) (by rfl) ?_ ?_
            rotate_left
            · (intro w' hS'; go_simp; try with_reducible rfl)
            try simp only [Act.put, List.setIfInBounds_toArray, List.set_cons_zero, List.set_cons_succ]
            refine sched_run (v := ?_) (by rfl) ?_ ?_
            rotate_left
            · (intro w' hS'; go_simp; try with_reducible rfl)
            try simp only [Act.put, List.setIfInBounds_toArray, List.set_cons_zero, List.set_cons_succ]
            refine sched_run (v := ?_) (by rfl) ?_ ?_
            rotate_left
            · (intro w' hS'; go_simp; try with_reducible rfl)
            try simp only [Act.put, List.setIfInBounds_toArray, List.set_cons_zero, List.set_cons_succ]
            refine sched_run (v := ?_) (by rfl) ?_ ?_
            rotate_left
            · (intro w' hS'; go_simp; try with_reducible rfl)
            try simp only [Act.put, List.setIfInBounds_toArray, List.set_cons_zero, List.set_cons_succ]
            refine sched_run (v := ?_) (by rfl) ?_ ?_
            rotate_left
            · (intro w' hS'; obtain ⟨a0, a1, a2, a3, a4, a5, a6⟩ := HLD.out w' hS'; go_simp; try with_reducible rfl)
            try simp only [Act.put, List.setIfInBounds_toArray, List.set_cons_zero, List.set_cons_succ]
            refine sched_call (by rfl) (fun K hK => ?_)
            go_simp
            refine (l1In_w _ _ _ true R1.out _).mono ?_
            rintro e v2 ⟨rfl, hbv1⟩
            have hv2 : Below w1.heap.size w1 v2 := hv1.trans (hbv1.mono hv1.size)
            clear hbv1
            refine hK _ _ hv2 ?_
            try simp only [Act.put, List.setIfInBounds_toArray, List.set_cons_zero, List.set_cons_succ]
            refine sched_run (v := ?_) (by rfl) ?_ ?_
            rotate_left
            · (intro w' hS'; go_simp; try with_reducible rfl)
            try simp only [Act.put, List.setIfInBounds_toArray, List.set_cons_zero, List.set_cons_succ]
            refine sched_run (v := ?_) (by rfl) ?_ ?_
            rotate_left
            · (intro w' hS'; go_simp; try with_reducible rfl)
            try simp only [Act.put, List.setIfInBounds_toArray, List.set_cons_zero, List.set_cons_succ]
            refine sched_done ?_
            go_wp2_with fail
            go_ret
            exact ⟨rfl, B1.out.trans (hv2.mono B1.out.size)⟩
      · have n2 : (o.k == 2) = false := by simpa using hk
        have m2 := hk
        clear hk
        by_cases hk : o.k = 3
        · have HK := Lib.hid hk
          rw [hk] at c0
          cases r0 : isB o.lc o.sk
          · have hF : rangeB o = false := by simp [rangeB, HQ.out, hk, r0]
            rw [hF]
            have R0 := Lib.hid r0
            clear hF hk r0
            go_enter Tryd.func61, Tryd.ntmps61
            go_wp2_with fail
            refine (l1In_w _ _ _ true HQ.out _).mono ?_
            rintro e w1 ⟨rfl, hb1⟩
            obtain ⟨hbb, c0, c1, c2, c3, c4, c5, c6⟩ := H.out.below hb1
            have B1 := Lib.hid hb1; clear hb1
            rw [HK.out] at c0
            go_wp2_with fail
            have hld : ∀ w', Below w1.heap.size w1 w' → w'.cell? ⟨b, off, none⟩ = some (.int .i64 3) ∧ w'.cell? ⟨b, off + 1, none⟩ = some (.int .i64 o.rq) ∧ w'.cell? ⟨b, off + 2, none⟩ = some (.int .i64 o.lc) ∧ w'.cell? ⟨b, off + 3, none⟩ = some (.int .i64 o.tt) ∧ w'.cell? ⟨b, off + 4, none⟩ = some (.int .i64 o.sk) ∧ w'.cell? ⟨b, off + 5, none⟩ = some (.int .i64 o.qt) ∧ w'.cell? ⟨b, off + 6, none⟩ = some (.int .i64 o.hd) := fun w' h => ⟨(h.cell (p := ⟨b, _, none⟩) hbb).trans c0, (h.cell (p := ⟨b, _, none⟩) hbb).trans c1, (h.cell (p := ⟨b, _, none⟩) hbb).trans c2, (h.cell (p := ⟨b, _, none⟩) hbb).trans c3, (h.cell (p := ⟨b, _, none⟩) hbb).trans c4, (h.cell (p := ⟨b, _, none⟩) hbb).trans c5, (h.cell (p := ⟨b, _, none⟩) hbb).trans c6⟩
            have HLD := Lib.hid hld; clear hld
            refine wp_region_sched (fun w' => Below w1.heap.size w1 w') [(0, true), (1, true), (2, true), (3, true), (4, true), (5, true), (6, true), (7, true), (8, false), (9, true), (10, true), (11, true), (12, true), (13, true), (14, false), (15, true), (16, true), (17, true), (18, true), (19, true), (20, true), (21, false), (22, true), (23, true), (24, true), (25, true), (26, true), (27, true), (28, false), (29, true), (30, true)] (by kernel_rfl) (by kernel_rfl) (by kernel_rfl) (by kernel_rfl) (fun _ _ d _ _ h => by cases d <;> exact h) ⟨rfl, rfl, rfl, Nat.le_refl _, fun _ _ => rfl⟩ ?_
            simp only [opsOf, List.filterMap_cons, List.filterMap_nil, Option.map_some, List.getElem?_toArray, List.getElem?_cons_zero, List.getElem?_cons_succ]
            generalize hW0 : ({ heap := w1.heap, tape := w1.tape, drawn := w1.drawn + 1, os := w1.os, output := w1.output } : World) = v0
            have hv0 : Below w1.heap.size w1 v0 := by rw [← hW0]; exact ⟨rfl, rfl, rfl, Nat.le_refl _, fun _ _ => rfl⟩
            clear hW0
            refine sched_run (v := ?_) (by rfl) ?_ ?_
            rotate_left
            · (intro w' hS'; go_simp; try with_reducible rfl)
            try simp only [Act.put, List.setIfInBounds_toArray, List.set_cons_zero, List.set_cons_succ]
            refine sched_run (v := ?_) (by rfl) ?_ ?_
            rotate_left
            · (intro w' hS'; go_simp; try with_reducible rfl)
            try simp only [Act.put, List.setIfInBounds_toArray, List.set_cons_zero, List.set_cons_succ]
            refine sched_run (v := ?_) (by rfl) ?_ ?_
            rotate_left
            · (intro w' hS'; go_simp; try with_reducible rfl)
            try simp only [Act.put, List.setIfInBounds_toArray, List.set_cons_zero, List.set_cons_succ]
            refine sched_run (v := ?_) (by rfl) ?_ ?_
            rotate_left
            · (intro w' hS'; obtain ⟨a0, a1, a2, a3, a4, a5, a6⟩ := HLD.out w' hS'; go_simp; try with_reducible rfl)
            try simp only [Act.put, List.setIfInBounds_toArray, List.set_cons_zero, List.set_cons_succ]
            refine sched_run (v := ?_) (by rfl) ?_ ?_
            rotate_left
            · (intro w' hS'; go_simp; try with_reducible rfl)
            try simp only [Act.put, List.setIfInBounds_toArray, List.set_cons_zero, List.set_cons_succ]
            refine sched_run (v := ?_) (by rfl) ?_ ?_
            rotate_left
            · (intro w' hS'; go_simp; try with_reducible rfl)
            try simp only [Act.put, List.setIfInBounds_toArray, List.set_cons_zero, List.set_cons_succ]
            refine sched_run (v := ?_) (by rfl) ?_ ?_
            rotate_left
            · (intro w' hS'; go_simp; try with_reducible rfl)
            try simp only [Act.put, List.setIfInBounds_toArray, List.set_cons_zero, List.set_cons_succ]
            refine sched_run (v := ?_) (by rfl) ?_ ?_
            rotate_left
            · (intro w' hS'; obtain ⟨a0, a1, a2, a3, a4, a5, a6⟩ := HLD.out w' hS'; go_simp; try with_reducible rfl)
            try simp only [Act.put, List.setIfInBounds_toArray, List.set_cons_zero, List.set_cons_succ]
            refine sched_call (by rfl) (fun K hK => ?_)
            go_simp
            refine (l2Is_w _ _ false R0.out _).mono ?_
            rintro e v1 ⟨rfl, hbv0⟩
            have hv1 : Below w1.heap.size w1 v1 := hv0.trans (hbv0.mono hv0.size)
            clear hbv0
            refine hK _ _ hv1 ?_
            try simp only [Act.put, List.setIfInBounds_toArray, List.set_cons_zero, List.set_cons_succ]
            refine sched_run (v := ?_) (by rfl) ?_ ?_
            rotate_left
            · (intro w' hS'; go_simp; try with_reducible rfl)
            try simp only [Act.put, List.setIfInBounds_toArray, List.set_cons_zero, List.set_cons_succ]
            refine sched_skip (by rfl) ?_
            try simp only [Act.put, List.setIfInBounds_toArray, List.set_cons_zero, List.set_cons_succ]
            refine sched_skip (by rfl) ?_
            try simp only [Act.put, List.setIfInBounds_toArray, List.set_cons_zero, List.set_cons_succ]
            refine sched_skip (by rfl) ?_
            try simp only [Act.put, List.setIfInBounds_toArray, List.set_cons_zero, List.set_cons_succ]
            refine sched_skip (by rfl) ?_
            try simp only [Act.put, List.setIfInBounds_toArray, List.set_cons_zero, List.set_cons_succ]
            refine sched_skip' (by rfl) ?_
            try simp only [Act.put, List.setIfInBounds_toArray, List.set_cons_zero, List.set_cons_succ]
            refine sched_run (v := ?_) (by rfl) ?_ ?_
            rotate_left
            · (intro w' hS'; go_simp; try with_reducible rfl)
            try simp only [Act.put, List.setIfInBounds_toArray, List.set_cons_zero, List.set_cons_succ]
            refine sched_run (v := ?_) (by rfl) ?_ ?_
            rotate_left
            · (intro w' hS'; go_simp; try with_reducible rfl)
            try simp only [Act.put, List.setIfInBounds_toArray, List.set_cons_zero, List.set_cons_succ]
            refine sched_skip (by rfl) ?_
            try simp only [Act.put, List.setIfInBounds_toArray, List.set_cons_zero, List.set_cons_succ]
            refine sched_skip (by rfl) ?_
            try simp only [Act.put, List.setIfInBounds_toArray, List.set_cons_zero, List.set_cons_succ]
            refine sched_skip (by rfl) ?_
            try simp only [Act.put, List.setIfInBounds_toArray, List.set_cons_zero, List.set_cons_succ]
            refine sched_skip (by rfl) ?_
            try simp only [Act.put, List.setIfInBounds_toArray, List.set_cons_zero, List.set_cons_succ]
            refine sched_skip' (by rfl) ?_
            try simp only [Act.put, List.setIfInBounds_toArray, List.set_cons_zero, List.set_cons_succ]
            refine sched_run (v := ?_) (by rfl) ?_ ?_
            rotate_left
            · (intro w' hS'; go_simp; try with_reducible rfl)
            try simp only [Act.put, List.setIfInBounds_toArray, List.set_cons_zero, List.set_cons_succ]
            refine sched_run (v := ?_) (by rfl) ?_ ?_
            rotate_left
            · (intro w' hS'; go_simp; try with_reducible rfl)
            try simp only [Act.put, List.setIfInBounds_toArray, List.set_cons_zero, List.set_cons_succ]
            refine sched_skip (by rfl) ?_
            try simp only [Act.put, List.setIfInBounds_toArray, List.set_cons_zero, List.set_cons_succ]
            refine sched_skip (by rfl) ?_
            try simp only [Act.put, List.setIfInBounds_toArray, List.set_cons_zero, List.set_cons_succ]
            refine sched_skip (by rfl) ?_
            try simp only [Act.put, List.setIfInBounds_toArray, List.set_cons_zero, List.set_cons_succ]
            refine sched_skip (by rfl) ?_
            try simp only [Act.put, List.setIfInBounds_toArray, List.set_cons_zero, List.set_cons_succ]
            refine sched_skip' (by rfl) ?_
            try simp only [Act.put, List.setIfInBounds_toArray, List.set_cons_zero, List.set_cons_succ]
            refine sched_run (v := ?_) (by rfl) ?_ ?_
            rotate_left
            · (intro w' hS'; go_simp; try with_reducible rfl)
            try simp only [Act.put, List.setIfInBounds_toArray, List.set_cons_zero, List.set_cons_succ]
            refine sched_run (v := ?_) (by rfl) ?_ ?_
            rotate_left
            · (intro w' hS'; go_simp; try with_reducible rfl)
            try simp only [Act.put, List.setIfInBounds_toArray, List.set_cons_zero, List.set_cons_succ]
            refine sched_done ?_
            go_wp2_with fail
            go_ret
            exact ⟨rfl, B1.out.trans (hv1.mono B1.out.size)⟩
          · cases r1 : inB o.qt 1 9999
            · have hF : rangeB o = false := by simp [rangeB, HQ.out, hk, r0, r1]
              rw [hF]
              have R0 := Lib.hid r0
              have R1 := Lib.hid r1
              clear hF hk r0 r1
              go_enter Tryd.func61, Tryd.ntmps61
              go_wp2_with fail
              refine (l1In_w _ _ _ true HQ.out _).mono ?_
              rintro e w1 ⟨rfl, hb1⟩
              obtain ⟨hbb, c0, c1, c2, c3, c4, c5, c6⟩ := H.out.below hb1
              have B1 := Lib.hid hb1; clear hb1
              rw [HK.out] at c0
              go_wp2_with fail
              have hld : ∀ w', Below w1.heap.size w1 w' → w'.cell? ⟨b, off, none⟩ = some (.int .i64 3) ∧ w'.cell? ⟨b, off + 1, none⟩ = some (.int .i64 o.rq) ∧ w'.cell? ⟨b, off + 2, none⟩ = some (.int .i64 o.lc) ∧ w'.cell? ⟨b, off + 3, none⟩ = some (.int .i64 o.tt) ∧ w'.cell? ⟨b, off + 4, none⟩ = some (.int .i64 o.sk) ∧ w'.cell? ⟨b, off + 5, none⟩ = some (.int .i64 o.qt) ∧ w'.cell? ⟨b, off + 6, none⟩ = some (.int .i64 o.hd) := fun w' h => ⟨(h.cell (p := ⟨b, _, none⟩) hbb).trans c0, (h.cell (p := ⟨b, _, none⟩) hbb).trans c1, (h.cell (p := ⟨b, _, none⟩) hbb).trans c2, (h.cell (p := ⟨b, _, none⟩) hbb).trans c3, (h.cell (p := ⟨b, _, none⟩) hbb).trans c4, (h.cell (p := ⟨b, _, none⟩) hbb).trans c5, (h.cell (p := ⟨b, _, none⟩) hbb).trans c6⟩
              have HLD := Lib.hid hld; clear hld
              refine wp_region_sched (fun w' => Below w1.heap.size w1 w') [(0, true), (1, true), (2, true), (3, true), (4, true), (5, true), (6, true), (7, true), (8, false), (9, true), (10, true), (11, true), (12, true), (13, true), (14, false), (15, true), (16, true), (17, true), (18, true), (19, true), (20, true), (21, false), (22, true), (23, true), (24, true), (25, true), (26, true), (27, true), (28, false), (29, true), (30, true)] (by kernel_rfl) (by kernel_rfl) (by kernel_rfl) (by kernel_rfl) (fun _ _ d _ _ h => by cases d <;> exact h) ⟨rfl, rfl, rfl, Nat.le_refl _, fun _ _ => rfl⟩ ?_
              simp only [opsOf, List.filterMap_cons, List.filterMap_nil, Option.map_some, List.getElem?_toArray, List.getElem?_cons_zero, List.getElem?_cons_succ]
              generalize hW0 : ({ heap := w1.heap, tape := w1.tape, drawn := w1.drawn + 1, os := w1.os, output := w1.output } : World) = v0
              have hv0 : Below w1.heap.size w1 v0 := by rw [← hW0]; exact ⟨rfl, rfl, rfl, Nat.le_refl _, fun _ _ => rfl⟩
              clear hW0
              refine sched_run (v := ?_) (by rfl) ?_ ?_
              rotate_left
              · (intro w' hS'; go_simp; try with_reducible rfl)
              try simp only [Act.put, List.setIfInBounds_toArray, List.set_cons_zero, List.set_cons_succ]
              refine sched_run (v := ?_) (by rfl) ?_ ?_
              rotate_left
              · (intro w' hS'; go_simp; try with_reducible rfl)
              try simp only [Act.put, List.setIfInBounds_toArray, List.set_cons_zero, List.set_cons_succ]
              refine sched_run (v := ?_) (by rfl) ?_ ?_
              rotate_left
              · (intro w' hS'; go_simp; try with_reducible rfl)
              try simp only [Act.put, List.setIfInBounds_toArray, List.set_cons_zero, List.set_cons_succ]
              refine sched_run (v := ?_) (by rfl) ?_ ?_
              rotate_left
              · (intro w' hS'; obtain ⟨a0, a1, a2, a3, a4, a5, a6⟩ := HLD.out w' hS'; go_simp; try with_reducible rfl)
              try simp only [Act.put, List.setIfInBounds_toArray, List.set_cons_zero, List.set_cons_succ]
              refine sched_run (v := ?_) (by rfl) ?_ ?_
              rotate_left
              · (intro w' hS'; go_simp; try with_reducible rfl)
              try simp only [Act.put, List.setIfInBounds_toArray, List.set_cons_zero, List.set_cons_succ]
              refine sched_run (v := ?_) (by rfl) ?_ ?_
              rotate_left
              · (intro w' hS'; go_simp; try with_reducible rfl)
              try simp only [Act.put, List.setIfInBounds_toArray, List.set_cons_zero, List.set_cons_succ]
              refine sched_run (v := ?_) (by rfl) ?_ ?_
              rotate_left
              · (intro w' hS'; go_simp; try with_reducible rfl)
              try simp only [Act.put, List.setIfInBounds_toArray, List.set_cons_zero, List.set_cons_succ]
              refine sched_run (v := ?_) (by rfl) ?_ ?_
              rotate_left
              · (intro w' hS'; obtain ⟨a0, a1, a2, a3, a4, a5, a6⟩ := HLD.out w' hS'; go_simp; try with_reducible rfl)
              try simp only [Act.put, List.setIfInBounds_toArray, List.set_cons_zero, List.set_cons_succ]
              refine sched_call (by rfl) (fun K hK => ?_)
              go_simp
              refine (l2Is_w _ _ true R0.out _).mono ?_
              rintro e v1 ⟨rfl, hbv0⟩
              have hv1 : Below w1.heap.size w1 v1 := hv0.trans (hbv0.mono hv0.size)
              clear hbv0
              refine hK _ _ hv1 ?_
              try simp only [Act.put, List.setIfInBounds_toArray, List.set_cons_zero, List.set_cons_succ]
              refine sched_run (v := ?_) (by rfl) ?_ ?_
              rotate_left
              · (intro w' hS'; go_simp; try with_reducible rfl)
              try simp only [Act.put, List.setIfInBounds_toArray, List.set_cons_zero, List.set_cons_succ]
              refine sched_run (v := ?_) (by rfl) ?_ ?_
              rotate_left
              · (intro w' hS'; go_simp; try with_reducible rfl)
              try simp only [Act.put, List.setIfInBounds_toArray, List.set_cons_zero, List.set_cons_succ]
              refine sched_run (v := ?_) (by rfl) ?_ ?_
              rotate_left
              · (intro w' hS'; go_simp; try with_reducible rfl)
              try simp only [Act.put, List.setIfInBounds_toArray, List.set_cons_zero, List.set_cons_succ]
              refine sched_run (v := ?_) (by rfl) ?_ ?_
              rotate_left
              · (intro w' hS'; go_simp; try with_reducible rfl)
              try simp only [Act.put, List.setIfInBounds_toArray, List.set_cons_zero, List.set_cons_succ]
              refine sched_run (v := ?_) (by rfl) ?_ ?_
              rotate_left
              · (intro w' hS'; obtain ⟨a0, a1, a2, a3, a4, a5, a6⟩ := HLD.out w' hS'; go_simp; try with_reducible rfl)
              try simp only [Act.put, List.setIfInBounds_toArray, List.set_cons_zero, List.set_cons_succ]
              refine sched_call (by rfl) (fun K hK => ?_)
              go_simp
              refine (l1In_w _ _ _ false R1.out _).mono ?_
              rintro e v2 ⟨rfl, hbv1⟩
              have hv2 : Below w1.heap.size w1 v2 := hv1.trans (hbv1.mono hv1.size)
              clear hbv1
              refine hK _ _ hv2 ?_
              try simp only [Act.put, List.setIfInBounds_toArray, List.set_cons_zero, List.set_cons_succ]
              refine sched_run (v := ?_) (by rfl) ?_ ?_
              rotate_left
              · (intro w' hS'; go_simp; try with_reducible rfl)
              try simp only [Act.put, List.setIfInBounds_toArray, List.set_cons_zero, List.set_cons_succ]
              refine sched_run (v := ?_) (by rfl) ?_ ?_
              rotate_left
              · (intro w' hS'; go_simp; try with_reducible rfl)
              try simp only [Act.put, List.setIfInBounds_toArray, List.set_cons_zero, List.set_cons_succ]
              refine sched_skip (by rfl) ?_
              try simp only [Act.put, List.setIfInBounds_toArray, List.set_cons_zero, List.set_cons_succ]
              refine sched_skip (by rfl) ?_
              try simp only [Act.put, List.setIfInBounds_toArray, List.set_cons_zero, List.set_cons_succ]
              refine sched_skip (by rfl) ?_
              try simp only [Act.put, List.setIfInBounds_toArray, List.set_cons_zero, List.set_cons_succ]
              refine sched_skip (by rfl) ?_
              try simp only [Act.put, List.setIfInBounds_toArray, List.set_cons_zero, List.set_cons_succ]
              refine sched_skip' (by rfl) ?_
              try simp only [Act.put, List.setIfInBounds_toArray, List.set_cons_zero, List.set_cons_succ]
              refine sched_run (v := ?_) (by rfl) ?_ ?_
              rotate_left
              · (intro w' hS'; go_simp; try with_reducible rfl)
              try simp only [Act.put, List.setIfInBounds_toArray, List.set_cons_zero, List.set_cons_succ]
              refine sched_run (v := ?_) (by rfl) ?_ ?_
              rotate_left
              · (intro w' hS'; go_simp; try with_reducible rfl)
              try simp only [Act.put, List.setIfInBounds_toArray, List.set_cons_zero, List.set_cons_succ]
              refine sched_skip (by rfl) ?_
              try simp only [Act.put, List.setIfInBounds_toArray, List.set_cons_zero, List.set_cons_succ]
              refine sched_skip (by rfl) ?_
              try simp only [Act.put, List.setIfInBounds_toArray, List.set_cons_zero, List.set_cons_succ]
              refine sched_skip (by rfl) ?_
              try simp only [Act.put, List.setIfInBounds_toArray, List.set_cons_zero, List.set_cons_succ]
              refine sched_skip (by rfl) ?_
              try simp only [Act.put, List.setIfInBounds_toArray, List.set_cons_zero, List.set_cons_succ]
              refine sched_skip' (by rfl) ?_
              try simp only [Act.put, List.setIfInBounds_toArray, List.set_cons_zero, List.set_cons_succ]
              refine sched_run (v := ?_) (by rfl) ?_ ?_
              rotate_left
              · (intro w' hS'; go_simp; try with_reducible rfl)
              try simp only [Act.put, List.setIfInBounds_toArray, List.set_cons_zero, List.set_cons_succ]
              refine sched_run (v := ?_) (by rfl) ?_ ?_
              rotate_left
              · (intro w' hS'; go_simp; try with_reducible rfl)
              try simp only [Act.put, List.setIfInBounds_toArray, List.set_cons_zero, List.set_cons_succ]
              refine sched_done ?_
              go_wp2_with fail
              go_ret
              exact ⟨rfl, B1.out.trans (hv2.mono B1.out.size)⟩
            · cases r2 : inB o.hd 1 50
              · have hF : rangeB o = false := by simp [rangeB, HQ.out, hk, r0, r1, r2]
                rw [hF]
                have R0 := Lib.hid r0
                have R1 := Lib.hid r1
                have R2 := Lib.hid r2
                clear hF hk r0 r1 r2
                go_enter Tryd.func61, Tryd.ntmps61
                go_wp2_with fail
                refine (l1In_w _ _ _ true HQ.out _).mono ?_
                rintro e w1 ⟨rfl, hb1⟩
                obtain ⟨hbb, c0, c1, c2, c3, c4, c5, c6⟩ := H.out.below hb1
                have B1 := Lib.hid hb1; clear hb1
                rw [HK.out] at c0
                go_wp2_with fail
                have hld : ∀ w', Below w1.heap.size w1 w' → w'.cell? ⟨b, off, none⟩ = some (.int .i64 3) ∧ w'.cell? ⟨b, off + 1, none⟩ = some (.int .i64 o.rq) ∧ w'.cell? ⟨b, off + 2, none⟩ = some (.int .i64 o.lc) ∧ w'.cell? ⟨b, off + 3, none⟩ = some (.int .i64 o.tt) ∧ w'.cell? ⟨b, off + 4, none⟩ = some (.int .i64 o.sk) ∧ w'.cell? ⟨b, off + 5, none⟩ = some (.int .i64 o.qt) ∧ w'.cell? ⟨b, off + 6, none⟩ = some (.int .i64 o.hd) := fun w' h => ⟨(h.cell (p := ⟨b, _, none⟩) hbb).trans c0, (h.cell (p := ⟨b, _, none⟩) hbb).trans c1, (h.cell (p := ⟨b, _, none⟩) hbb).trans c2, (h.cell (p := ⟨b, _, none⟩) hbb).trans c3, (h.cell (p := ⟨b, _, none⟩) hbb).trans c4, (h.cell (p := ⟨b, _, none⟩) hbb).trans c5, (h.cell (p := ⟨b, _, none⟩) hbb).trans c6⟩
                have HLD := Lib.hid hld; clear hld
                refine wp_region_sched (fun w' => Below w1.heap.size w1 w') [(0, true), (1, true), (2, true), (3, true), (4, true), (5, true), (6, true), (7, true), (8, false), (9, true), (10, true), (11, true), (12, true), (13, true), (14, false), (15, true), (16, true), (17, true), (18, true), (19, true), (20, true), (21, false), (22, true), (23, true), (24, true), (25, true), (26, true), (27, true), (28, false), (29, true), (30, true)] (by kernel_rfl) (by kernel_rfl) (by kernel_rfl) (by kernel_rfl) (fun _ _ d _ _ h => by cases d <;> exact h) ⟨rfl, rfl, rfl, Nat.le_refl _, fun _ _ => rfl⟩ ?_
                simp only [opsOf, List.filterMap_cons, List.filterMap_nil, Option.map_some, List.getElem?_toArray, List.getElem?_cons_zero, List.getElem?_cons_succ]
                generalize hW0 : ({ heap := w1.heap, tape := w1.tape, drawn := w1.drawn + 1, os := w1.os, output := w1.output } : World) = v0
                have hv0 : Below w1.heap.size w1 v0 := by rw [← hW0]; exact ⟨rfl, rfl, rfl, Nat.le_refl _, fun _ _ => rfl⟩
                clear hW0
                refine sched_run (v := ?_) (by rfl) ?_ ?_
                rotate_left
                · (intro w' hS'; go_simp; try with_reducible rfl)
                try simp only [Act.put, List.setIfInBounds_toArray, List.set_cons_zero, List.set_cons_succ]
                refine sched_run (v := ?_) (by rfl) ?_ ?_
                rotate_left
                · (intro w' hS'; go_simp; try with_reducible rfl)
                try simp only [Act.put, List.setIfInBounds_toArray, List.set_cons_zero, List.set_cons_succ]
                refine sched_run (v := ?_) (by rfl) ?_ ?_
                rotate_left
                · (intro w' hS'; go_simp; try with_reducible rfl)
                try simp only [Act.put, List.setIfInBounds_toArray, List.set_cons_zero, List.set_cons_succ]
                refine sched_run (v := ?_) (by rfl) ?_ ?_
                rotate_left
                · (intro w' hS'; obtain ⟨a0, a1, a2, a3, a4, a5, a6⟩ := HLD.out w' hS'; go_simp; try with_reducible rfl)
                try simp only [Act.put, List.setIfInBounds_toArray, List.set_cons_zero, List.set_cons_succ]
                refine sched_run (v := ?_) (by rfl) ?_ ?_
                rotate_left
                · (intro w' hS'; go_simp; try with_reducible rfl)
                try simp only [Act.put, List.setIfInBounds_toArray, List.set_cons_zero, List.set_cons_succ]
                refine sched_run (v := ?_) (by rfl) ?_ ?_
                rotate_left
                · (intro w' hS'; go_simp; try with_reducible rfl)
                try simp only [Act.put, List.setIfInBounds_toArray, List.set_cons_zero, List.set_cons_succ]
                refine sched_run (v := ?_) (by rfl) ?_ ?_
                rotate_left
                · (intro w' hS'; go_simp; try with_reducible rfl)
                try simp only [Act.put, List.setIfInBounds_toArray, List.set_cons_zero, List.set_cons_succ]
                refine sched_run (v := ?_) (by rfl) ?_ ?_
                rotate_left
                · (intro w' hS'; obtain ⟨a0, a1, a2, a3, a4, a5, a6⟩ := HLD.out w' hS'; go_simp; try with_reducible rfl)
                try simp only [Act.put, List.setIfInBounds_toArray, List.set_cons_zero, List.set_cons_succ]
                refine sched_call (by rfl) (fun K hK => ?_)
                go_simp
                refine (l2Is_w _ _ true R0.out _).mono ?_
                rintro e v1 ⟨rfl, hbv0⟩
                have hv1 : Below w1.heap.size w1 v1 := hv0.trans (hbv0.mono hv0.size)
                clear hbv0
                refine hK _ _ hv1 ?_
                try simp only [Act.put, List.setIfInBounds_toArray, List.set_cons_zero, List.set_cons_succ]
                refine sched_run (v := ?_) (by rfl) ?_ ?_
                rotate_left
                · (intro w' hS'; go_simp; try with_reducible rfl)
                try simp only [Act.put, List.setIfInBounds_toArray, List.set_cons_zero, List.set_cons_succ]
                refine sched_run (v := ?_) (by rfl) ?_ ?_
                rotate_left
                · (intro w' hS'; go_simp; try with_reducible rfl)
                try simp only [Act.put, List.setIfInBounds_toArray, List.set_cons_zero, List.set_cons_succ]
                refine sched_run (v := ?_) (by rfl) ?_ ?_
                rotate_left
                · (intro w' hS'; go_simp; try with_reducible rfl)
                try simp only [Act.put, List.setIfInBounds_toArray, List.set_cons_zero, List.set_cons_succ]
                refine sched_run (v := ?_) (by rfl) ?_ ?_
                rotate_left
                · (intro w' hS'; go_simp; try with_reducible rfl)
                try simp only [Act.put, List.setIfInBounds_toArray, List.set_cons_zero, List.set_cons_succ]
                refine sched_run (v := ?_) (by rfl) ?_ ?_
                rotate_left
                · (intro w' hS'; obtain ⟨a0, a1, a2, a3, a4, a5, a6⟩ := HLD.out w' hS'; go_simp; try with_reducible rfl)
                try simp only [Act.put, List.setIfInBounds_toArray, List.set_cons_zero, List.set_cons_succ]
                refine sched_call (by rfl) (fun K hK => ?_)
                go_simp
                refine (l1In_w _ _ _ true R1.out _).mono ?_
                rintro e v2 ⟨rfl, hbv1⟩
                have hv2 : Below w1.heap.size w1 v2 := hv1.trans (hbv1.mono hv1.size)
                clear hbv1
                refine hK _ _ hv2 ?_
                try simp only [Act.put, List.setIfInBounds_toArray, List.set_cons_zero, List.set_cons_succ]
                refine sched_run (v := ?_) (by rfl) ?_ ?_
                rotate_left
                · (intro w' hS'; go_simp; try with_reducible rfl)
                try simp only [Act.put, List.setIfInBounds_toArray, List.set_cons_zero, List.set_cons_succ]
                refine sched_run (v := ?_) (by rfl) ?_ ?_
                rotate_left
                · (intro w' hS'; go_simp; try with_reducible rfl)
                try simp only [Act.put, List.setIfInBounds_toArray, List.set_cons_zero, List.set_cons_succ]
                refine sched_run (v := ?_) (by rfl) ?_ ?_
                rotate_left
                · (intro w' hS'; go_simp; try with_reducible rfl)
                try simp only [Act.put, List.setIfInBounds_toArray, List.set_cons_zero, List.set_cons_succ]
                refine sched_run (v := ?_) (by rfl) ?_ ?_
                rotate_left
                · (intro w' hS'; go_simp; try with_reducible rfl)
                try simp only [Act.put, List.setIfInBounds_toArray, List.set_cons_zero, List.set_cons_succ]
                refine sched_run (v := ?_) (by rfl) ?_ ?_
                rotate_left
                · (intro w' hS'; go_simp; try with_reducible rfl)
                try simp only [Act.put, List.setIfInBounds_toArray, List.set_cons_zero, List.set_cons_succ]
                refine sched_run (v := ?_) (by rfl) ?_ ?_
                rotate_left
                · (intro w' hS'; obtain ⟨a0, a1, a2, a3, a4, a5, a6⟩ := HLD.out w' hS'; go_simp; try with_reducible rfl)
                try simp only [Act.put, List.setIfInBounds_toArray, List.set_cons_zero, List.set_cons_succ]
                refine sched_call (by rfl) (fun K hK => ?_)
                go_simp
                refine (l1In_w _ _ _ false R2.out _).mono ?_
                rintro e v3 ⟨rfl, hbv2⟩
                have hv3 : Below w1.heap.size w1 v3 := hv2.trans (hbv2.mono hv2.size)
                clear hbv2
                refine hK _ _ hv3 ?_
                try simp only [Act.put, List.setIfInBounds_toArray, List.set_cons_zero, List.set_cons_succ]
                refine sched_run (v := ?_) (by rfl) ?_ ?_
                rotate_left
                · (intro w' hS'; go_simp; try with_reducible rfl)
                try simp only [Act.put, List.setIfInBounds_toArray, List.set_cons_zero, List.set_cons_succ]
                refine sched_run (v := ?_) (by rfl) ?_ ?_
                rotate_left
                · (intro w' hS'; go_simp; try with_reducible rfl)
                try simp only [Act.put, List.setIfInBounds_toArray, List.set_cons_zero, List.set_cons_succ]
                refine sched_skip (by rfl) ?_
                try simp only [Act.put, List.setIfInBounds_toArray, List.set_cons_zero, List.set_cons_succ]
                refine sched_skip (by rfl) ?_
                try simp only [Act.put, List.setIfInBounds_toArray, List.set_cons_zero, List.set_cons_succ]
                refine sched_skip (by rfl) ?_
                try simp only [Act.put, List.setIfInBounds_toArray, List.set_cons_zero, List.set_cons_succ]
                refine sched_skip (by rfl) ?_
                try simp only [Act.put, List.setIfInBounds_toArray, List.set_cons_zero, List.set_cons_succ]
                refine sched_skip' (by rfl) ?_
                try simp only [Act.put, List.setIfInBounds_toArray, List.set_cons_zero, List.set_cons_succ]
                refine sched_run (v := ?_) (by rfl) ?_ ?_
                rotate_left
                · (intro w' hS'; go_simp; try with_reducible rfl)
                try simp only [Act.put, List.setIfInBounds_toArray, List.set_cons_zero, List.set_cons_succ]
                refine sched_run (v := ?_) (by rfl) ?_ ?_
                rotate_left
                · (intro w' hS'; go_simp; try with_reducible rfl)
                try simp only [Act.put, List.setIfInBounds_toArray, List.set_cons_zero, List.set_cons_succ]
                refine sched_done ?_
                go_wp2_with fail
                go_ret
                exact ⟨rfl, B1.out.trans (hv3.mono B1.out.size)⟩
              · cases r3 : inB o.tt 1 999
                · have hF : rangeB o = false := by simp [rangeB, HQ.out, hk, r0, r1, r2, r3]
                  rw [hF]
                  have R0 := Lib.hid r0
                  have R1 := Lib.hid r1
                  have R2 := Lib.hid r2
                  have R3 := Lib.hid r3
                  clear hF hk r0 r1 r2 r3
                  go_enter Tryd.func61, Tryd.ntmps61
                  go_wp2_with fail
                  refine (l1In_w _ _ _ true HQ.out _).mono ?_
                  rintro e w1 ⟨rfl, hb1⟩
                  obtain ⟨hbb, c0, c1, c2, c3, c4, c5, c6⟩ := H.out.below hb1
                  have B1 := Lib.hid hb1; clear hb1
                  rw [HK.out] at c0
                  go_wp2_with fail
                  have hld : ∀ w', Below w1.heap.size w1 w' → w'.cell? ⟨b, off, none⟩ = some (.int .i64 3) ∧ w'.cell? ⟨b, off + 1, none⟩ = some (.int .i64 o.rq) ∧ w'.cell? ⟨b, off + 2, none⟩ = some (.int .i64 o.lc) ∧ w'.cell? ⟨b, off + 3, none⟩ = some (.int .i64 o.tt) ∧ w'.cell? ⟨b, off + 4, none⟩ = some (.int .i64 o.sk) ∧ w'.cell? ⟨b, off + 5, none⟩ = some (.int .i64 o.qt) ∧ w'.cell? ⟨b, off + 6, none⟩ = some (.int .i64 o.hd) := fun w' h => ⟨(h.cell (p := ⟨b, _, none⟩) hbb).trans c0, (h.cell (p := ⟨b, _, none⟩) hbb).trans c1, (h.cell (p := ⟨b, _, none⟩) hbb).trans c2, (h.cell (p := ⟨b, _, none⟩) hbb).trans c3, (h.cell (p := ⟨b, _, none⟩) hbb).trans c4, (h.cell (p := ⟨b, _, none⟩) hbb).trans c5, (h.cell (p := ⟨b, _, none⟩) hbb).trans c6⟩
                  have HLD := Lib.hid hld; clear hld
                  refine wp_region_sched (fun w' => Below w1.heap.size w1 w') [(0, true), (1, true), (2, true), (3, true), (4, true), (5, true), (6, true), (7, true), (8, false), (9, true), (10, true), (11, true), (12, true), (13, true), (14, false), (15, true), (16, true), (17, true), (18, true), (19, true), (20, true), (21, false), (22, true), (23, true), (24, true), (25, true), (26, true), (27, true), (28, false), (29, true), (30, true)] (by kernel_rfl) (by kernel_rfl) (by kernel_rfl) (by kernel_rfl) (fun _ _ d _ _ h => by cases d <;> exact h) ⟨rfl, rfl, rfl, Nat.le_refl _, fun _ _ => rfl⟩ ?_
                  simp only [opsOf, List.filterMap_cons, List.filterMap_nil, Option.map_some, List.getElem?_toArray, List.getElem?_cons_zero, List.getElem?_cons_succ]
                  generalize hW0 : ({ heap := w1.heap, tape := w1.tape, drawn := w1.drawn + 1, os := w1.os, output := w1.output } : World) = v0
                  have hv0 : Below w1.heap.size w1 v0 := by rw [← hW0]; exact ⟨rfl, rfl, rfl, Nat.le_refl _, fun _ _ => rfl⟩
                  clear hW0
                  refine sched_run (v := ?_) (by rfl) ?_ ?_
                  rotate_left
                  · (intro w' hS'; go_simp; try with_reducible rfl)
                  try simp only [Act.put, List.setIfInBounds_toArray, List.set_cons_zero, List.set_cons_succ]
                  refine sched_run (v := ?_) (by rfl) ?_ ?_
                  rotate_left
                  · (intro w' hS'; go_simp; try with_reducible rfl)
                  try simp only [Act.put, List.setIfInBounds_toArray, List.set_cons_zero, List.set_cons_succ]
                  refine sched_run (v := ?_) (by rfl) ?_ ?_
                  rotate_left
                  · (intro w' hS'; go_simp; try with_reducible rfl)
                  try simp only [Act.put, List.setIfInBounds_toArray, List.set_cons_zero, List.set_cons_succ]
                  refine sched_run (v := ?_) (by rfl) ?_ ?_
                  rotate_left
                  · (intro w' hS'; obtain ⟨a0, a1, a2, a3, a4, a5, a6⟩ := HLD.out w' hS'; go_simp; try with_reducible rfl)
                  try simp only [Act.put, List.setIfInBounds_toArray, List.set_cons_zero, List.set_cons_succ]
                  refine sched_run (v := ?_) (by rfl) ?_ ?_
                  rotate_left
                  · (intro w' hS'; go_simp; try with_reducible rfl)
                  try simp only [Act.put, List.setIfInBounds_toArray, List.set_cons_zero, List.set_cons_succ]
                  refine sched_run (v := ?_) (by rfl) ?_ ?_
                  rotate_left
                  · (intro w' hS'; go_simp; try with_reducible rfl)
                  try simp only [Act.put, List.setIfInBounds_toArray, List.set_cons_zero, List.set_cons_succ]
                  refine sched_run (v := ?_) (by rfl) ?_ ?_
                  rotate_left
                  · (intro w' hS'; go_simp; try with_reducible rfl)
                  try simp only [Act.put, List.setIfInBounds_toArray, List.set_cons_zero, List.set_cons_succ]
                  refine sched_run (v := ?_) (by rfl) ?_ ?_
                  rotate_left
                  · (intro w' hS'; obtain ⟨a0, a1, a2, a3, a4, a5, a6⟩ := HLD.out w' hS'; go_simp; try with_reducible rfl)
                  try simp only [Act.put, List.setIfInBounds_toArray, List.set_cons_zero, List.set_cons_succ]
                  refine sched_call (by rfl) (fun K hK => ?_)
                  go_simp
                  refine (l2Is_w _ _ true R0.out _).mono ?_
                  rintro e v1 ⟨rfl, hbv0⟩
                  have hv1 : Below w1.heap.size w1 v1 := hv0.trans (hbv0.mono hv0.size)
                  clear hbv0
                  refine hK _ _ hv1 ?_
                  try simp only [Act.put, List.setIfInBounds_toArray, List.set_cons_zero, List.set_cons_succ]
                  refine sched_run (v := ?_) (by rfl) ?_ ?_
                  rotate_left
                  · (intro w' hS'; go_simp; try with_reducible rfl)
                  try simp only [Act.put, List.setIfInBounds_toArray, List.set_cons_zero, List.set_cons_succ]
                  refine sched_run (v := ?_) (by rfl) ?_ ?_
                  rotate_left
                  · (intro w' hS'; go_simp; try with_reducible rfl)
                  try simp only [Act.put, List.setIfInBounds_toArray, List.set_cons_zero, List.set_cons_succ]
                  refine sched_run (v := ?_) (by rfl) ?_ ?_
                  rotate_left
                  · (intro w' hS'; go_simp; try with_reducible rfl)
                  try simp only [Act.put, List.setIfInBounds_toArray, List.set_cons_zero, List.set_cons_succ]
                  refine sched_run (v := ?_) (by rfl) ?_ ?_
                  rotate_left
                  · (intro w' hS'; go_simp; try with_reducible rfl)
                  try simp only [Act.put, List.setIfInBounds_toArray, List.set_cons_zero, List.set_cons_succ]
                  refine sched_run (v := ?_) (by rfl) ?_ ?_
                  rotate_left
                  · (intro w' hS'; obtain ⟨a0, a1, a2, a3, a4, a5, a6⟩ := HLD.out w' hS'; go_simp; try with_reducible rfl)
                  try simp only [Act.put, List.setIfInBounds_toArray, List.set_cons_zero, List.set_cons_succ]
                  refine sched_call (by rfl) (fun K hK => ?_)
                  go_simp
                  refine (l1In_w _ _ _ true R1.out _).mono ?_
                  rintro e v2 ⟨rfl, hbv1⟩
                  have hv2 : Below w1.heap.size w1 v2 := hv1.trans (hbv1.mono hv1.size)
                  clear hbv1
                  refine hK _ _ hv2 ?_
                  try simp only [Act.put, List.setIfInBounds_toArray, List.set_cons_zero, List.set_cons_succ]
                  refine sched_run (v := ?_) (by rfl) ?_ ?_
                  rotate_left
                  · (intro w' hS'; go_simp; try with_reducible rfl)
                  try simp only [Act.put, List.setIfInBounds_toArray, List.set_cons_zero, List.set_cons_succ]
                  refine sched_run (v := ?_) (by rfl) ?_ ?_
                  rotate_left
                  · (intro w' hS'; go_simp; try with_reducible rfl)
                  try simp only [Act.put, List.setIfInBounds_toArray, List.set_cons_zero, List.set_cons_succ]
                  refine sched_run (v := ?_) (by rfl) ?_ ?_
                  rotate_left
                  · (intro w' hS'; go_simp; try with_reducible rfl)
                  try simp only [Act.put, List.setIfInBounds_toArray, List.set_cons_zero, List.set_cons_succ]
                  refine sched_run (v := ?_) (by rfl) ?_ ?_
                  rotate_left
                  · (intro w' hS'; go_simp; try with_reducible rfl)
                  try simp only [Act.put, List.setIfInBounds_toArray, List.set_cons_zero, List.set_cons_succ]
                  refine sched_run (v := ?_) (by rfl) ?_ ?_
                  rotate_left
                  · (intro w' hS'; go_simp; try with_reducible rfl)
                  try simp only [Act.put, List.setIfInBounds_toArray, List.set_cons_zero, List.set_cons_succ]
                  refine sched_run (v := ?_) (by rfl) ?_ ?_
                  rotate_left
                  · (intro w' hS'; obtain ⟨a0, a1, a2, a3, a4, a5, a6⟩ := HLD.out w' hS'; go_simp; try with_reducible rfl)
                  try simp only [Act.put, List.setIfInBounds_toArray, List.set_cons_zero, List.set_cons_succ]
                  refine sched_call (by rfl) (fun K hK => ?_)
                  go_simp
                  refine (l1In_w _ _ _ true R2.out _).mono ?_
                  rintro e v3 ⟨rfl, hbv2⟩
                  have hv3 : Below w1.heap.size w1 v3 := hv2.trans (hbv2.mono hv2.size)
                  clear hbv2
                  refine hK _ _ hv3 ?_
                  try simp only [Act.put, List.setIfInBounds_toArray, List.set_cons_zero, List.set_cons_succ]
                  refine sched_run (v := ?_) (by rfl) ?_ ?_
                  rotate_left
                  · (intro w' hS'; go_simp; try with_reducible rfl)
                  try simp only [Act.put, List.setIfInBounds_toArray, List.set_cons_zero, List.set_cons_succ]
                  refine sched_run (v := ?_) (by rfl) ?_ ?_
                  rotate_left
                  · (intro w' hS'; go_simp; try with_reducible rfl)
                  try simp only [Act.put, List.setIfInBounds_toArray, List.set_cons_zero, List.set_cons_succ]
                  refine sched_run (v := ?_) (by rfl) ?_ ?_
                  rotate_left
                  · (intro w' hS'; go_simp; try with_reducible rfl)
                  try simp only [Act.put, List.setIfInBounds_toArray, List.set_cons_zero, List.set_cons_succ]
                  refine sched_run (v := ?_) (by rfl) ?_ ?_
                  rotate_left
                  · (intro w' hS'; go_simp; try with_reducible rfl)
                  try simp only [Act.put, List.setIfInBounds_toArray, List.set_cons_zero, List.set_cons_succ]
                  refine sched_run (v := ?_) (by rfl) ?_ ?_
                  rotate_left
                  · (intro w' hS'; go_simp; try with_reducible rfl)
                  try simp only [Act.put, List.setIfInBounds_toArray, List.set_cons_zero, List.set_cons_succ]
                  refine sched_run (v := ?_) (by rfl) ?_ ?_
                  rotate_left
                  · (intro w' hS'; obtain ⟨a0, a1, a2, a3, a4, a5, a6⟩ := HLD.out w' hS'; go_simp; try with_reducible rfl)
                  try simp only [Act.put, List.setIfInBounds_toArray, List.set_cons_zero, List.set_cons_succ]
                  refine sched_call (by rfl) (fun K hK => ?_)
                  go_simp
                  refine (l1In_w _ _ _ false R3.out _).mono ?_
                  rintro e v4 ⟨rfl, hbv3⟩
                  have hv4 : Below w1.heap.size w1 v4 := hv3.trans (hbv3.mono hv3.size)
                  clear hbv3
                  refine hK _ _ hv4 ?_
                  try simp only [Act.put, List.setIfInBounds_toArray, List.set_cons_zero, List.set_cons_succ]
                  refine sched_run (v := ?_) (by rfl) ?_ ?_
                  rotate_left
                  · (intro w' hS'; go_simp; try with_reducible rfl)
                  try simp only [Act.put, List.setIfInBounds_toArray, List.set_cons_zero, List.set_cons_succ]
                  refine sched_run (v := ?_) (by rfl) ?_ ?_
                  rotate_left
                  · (intro w' hS'; go_simp; try with_reducible rfl)
                  try simp only [Act.put, List.setIfInBounds_toArray, List.set_cons_zero, List.set_cons_succ]
                  refine sched_done ?_
                  go_wp2_with fail
                  go_ret
                  exact ⟨rfl, B1.out.trans (hv4.mono B1.out.size)⟩
                · have hF : rangeB o = true := by simp [rangeB, HQ.out, hk, r0, r1, r2, r3]
                  rw [hF]
                  have R0 := Lib.hid r0
                  have R1 := Lib.hid r1
                  have R2 := Lib.hid r2
                  have R3 := Lib.hid r3
                  clear hF hk r0 r1 r2 r3
                  go_enter Tryd.func61, Tryd.ntmps61
                  go_wp2_with fail
                  refine (l1In_w _ _ _ true HQ.out _).mono ?_
                  rintro e w1 ⟨rfl, hb1⟩
                  obtain ⟨hbb, c0, c1, c2, c3, c4, c5, c6⟩ := H.out.below hb1
                  have B1 := Lib.hid hb1; clear hb1
                  rw [HK.out] at c0
                  go_wp2_with fail
                  have hld : ∀ w', Below w1.heap.size w1 w' → w'.cell? ⟨b, off, none⟩ = some (.int .i64 3) ∧ w'.cell? ⟨b, off + 1, none⟩ = some (.int .i64 o.rq) ∧ w'.cell? ⟨b, off + 2, none⟩ = some (.int .i64 o.lc) ∧ w'.cell? ⟨b, off + 3, none⟩ = some (.int .i64 o.tt) ∧ w'.cell? ⟨b, off + 4, none⟩ = some (.int .i64 o.sk) ∧ w'.cell? ⟨b, off + 5, none⟩ = some (.int .i64 o.qt) ∧ w'.cell? ⟨b, off + 6, none⟩ = some (.int .i64 o.hd) := fun w' h => ⟨(h.cell (p := ⟨b, _, none⟩) hbb).trans c0, (h.cell (p := ⟨b, _, none⟩) hbb).trans c1, (h.cell (p := ⟨b, _, none⟩) hbb).trans c2, (h.cell (p := ⟨b, _, none⟩) hbb).trans c3, (h.cell (p := ⟨b, _, none⟩) hbb).trans c4, (h.cell (p := ⟨b, _, none⟩) hbb).trans c5, (h.cell (p := ⟨b, _, none⟩) hbb).trans c6⟩
                  have HLD := Lib.hid hld; clear hld
                  refine wp_region_sched (fun w' => Below w1.heap.size w1 w') [(0, true), (1, true), (2, true), (3, true), (4, true), (5, true), (6, true), (7, true), (8, false), (9, true), (10, true), (11, true), (12, true), (13, true), (14, false), (15, true), (16, true), (17, true), (18, true), (19, true), (20, true), (21, false), (22, true), (23, true), (24, true), (25, true), (26, true), (27, true), (28, false), (29, true), (30, true)] (by kernel_rfl) (by kernel_rfl) (by kernel_rfl) (by kernel_rfl) (fun _ _ d _ _ h => by cases d <;> exact h) ⟨rfl, rfl, rfl, Nat.le_refl _, fun _ _ => rfl⟩ ?_
                  simp only [opsOf, List.filterMap_cons, List.filterMap_nil, Option.map_some, List.getElem?_toArray, List.getElem?_cons_zero, List.getElem?_cons_succ]
                  generalize hW0 : ({ heap := w1.heap, tape := w1.tape, drawn := w1.drawn + 1, os := w1.os, output := w1.output } : World) = v0
                  have hv0 : Below w1.heap.size w1 v0 := by rw [← hW0]; exact ⟨rfl, rfl, rfl, Nat.le_refl _, fun _ _ => rfl⟩
                  clear hW0
                  refine sched_run (v := ?_) (by rfl) ?_ ?_
                  rotate_left
                  · (intro w' hS'; go_simp; try with_reducible rfl)
                  try simp only [Act.put, List.setIfInBounds_toArray, List.set_cons_zero, List.set_cons_succ]
                  refine sched_run (v := ?_) (by rfl) ?_ ?_
                  rotate_left
                  · (intro w' hS'; go_simp; try with_reducible rfl)
                  try simp only [Act.put, List.setIfInBounds_toArray, List.set_cons_zero, List.set_cons_succ]
                  refine sched_run (v := ?_) (by rfl) ?_ ?_
                  rotate_left
                  · (intro w' hS'; go_simp; try with_reducible rfl)
                  try simp only [Act.put, List.setIfInBounds_toArray, List.set_cons_zero, List.set_cons_succ]
                  refine sched_run (v := ?_) (by rfl) ?_ ?_
                  rotate_left
                  · (intro w' hS'; obtain ⟨a0, a1, a2, a3, a4, a5, a6⟩ := HLD.out w' hS'; go_simp; try with_reducible rfl)
                  try simp only [Act.put, List.setIfInBounds_toArray, List.set_cons_zero, List.set_cons_succ]
                  refine sched_run (v := ?_) (by rfl) ?_ ?_
                  rotate_left
                  · (intro w' hS'; go_simp; try with_reducible rfl)
                  try simp only [Act.put, List.setIfInBounds_toArray, List.set_cons_zero, List.set_cons_succ]
                  refine sched_run (v := ?_) (by rfl) ?_ ?_
                  rotate_left
                  · (intro w' hS'; go_simp; try with_reducible rfl)
                  try simp only [Act.put, List.setIfInBounds_toArray, List.set_cons_zero, List.set_cons_succ]
                  refine sched_run (v := ?_) (by rfl) ?_ ?_
                  rotate_left
                  · (intro w' hS'; go_simp; try with_reducible rfl)
                  try simp only [Act.put, List.setIfInBounds_toArray, List.set_cons_zero, List.set_cons_succ]
                  refine sched_run (v := ?_) (by rfl) ?_ ?_
                  rotate_left
                  · (intro w' hS'; obtain ⟨a0, a1, a2, a3, a4, a5, a6⟩ := HLD.out w' hS'; go_simp; try with_reducible rfl)
                  try simp only [Act.put, List.setIfInBounds_toArray, List.set_cons_zero, List.set_cons_succ]
                  refine sched_call (by rfl) (fun K hK => ?_)
                  go_simp
                  refine (l2Is_w _ _ true R0.out _).mono ?_
                  rintro e v1 ⟨rfl, hbv0⟩
                  have hv1 : Below w1.heap.size w1 v1 := hv0.trans (hbv0.mono hv0.size)
                  clear hbv0
                  refine hK _ _ hv1 ?_
                  try simp only [Act.put, List.setIfInBounds_toArray, List.set_cons_zero, List.set_cons_succ]
                  refine sched_run (v := ?_) (by rfl) ?_ ?_
                  rotate_left
                  · (intro w' hS'; go_simp; try with_reducible rfl)
                  try simp only [Act.put, List.setIfInBounds_toArray, List.set_cons_zero, List.set_cons_succ]
                  refine sched_run (v := ?_) (by rfl) ?_ ?_
                  rotate_left
                  · (intro w' hS'; go_simp; try with_reducible rfl)
                  try simp only [Act.put, List.setIfInBounds_toArray, List.set_cons_zero, List.set_cons_succ]
                  refine sched_run (v := ?_) (by rfl) ?_ ?_
                  rotate_left
                  · (intro w' hS'; go_simp; try with_reducible rfl)
                  try simp only [Act.put, List.setIfInBounds_toArray, List.set_cons_zero, List.set_cons_succ]
                  refine sched_run (v := ?_) (by rfl) ?_ ?_
                  rotate_left
                  · (intro w' hS'; go_simp; try with_reducible rfl)
                  try simp only [Act.put, List.setIfInBounds_toArray, List.set_cons_zero, List.set_cons_succ]
                  refine sched_run (v := ?_) (by rfl) ?_ ?_
                  rotate_left
                  · (intro w' hS'; obtain ⟨a0, a1, a2, a3, a4, a5, a6⟩ := HLD.out w' hS'; go_simp; try with_reducible rfl)
                  try simp only [Act.put, List.setIfInBounds_toArray, List.set_cons_zero, List.set_cons_succ]
                  refine sched_call (by rfl) (fun K hK => ?_)
                  go_simp
                  refine (l1In_w _ _ _ true R1.out _).mono ?_
                  rintro e v2 ⟨rfl, hbv1⟩
                  have hv2 : Below w1.heap.size w1 v2 := hv1.trans (hbv1.mono hv1.size)
                  clear hbv1
                  refine hK _ _ hv2 ?_
                  try simp only [Act.put, List.setIfInBounds_toArray, List.set_cons_zero, List.set_cons_succ]
                  refine sched_run (v := ?_) (by rfl) ?_ ?_
                  rotate_left
                  · (intro w' hS'; go_simp; try with_reducible rfl)
                  try simp only [Act.put, List.setIfInBounds_toArray, List.set_cons_zero, List.set_cons_succ]
                  refine sched_run (v := ?_) (by rfl) ?_ ?_
                  rotate_left
                  · (intro w' hS'; go_simp; try with_reducible rfl)
                  try simp only [Act.put, List.setIfInBounds_toArray, List.set_cons_zero, List.set_cons_succ]
                  refine sched_run (v := ?_) (by rfl) ?_ ?_
                  rotate_left
                  · (intro w' hS'; go_simp; try with_reducible rfl)
                  try simp only [Act.put, List.setIfInBounds_toArray, List.set_cons_zero, List.set_cons_succ]
                  refine sched_run (v := ?_) (by rfl) ?_ ?_
                  rotate_left
                  · (intro w' hS'; go_simp; try with_reducible rfl)
                  try simp only [Act.put, List.setIfInBounds_toArray, List.set_cons_zero, List.set_cons_succ]
                  refine sched_run (v := ?_) (by rfl) ?_ ?_
                  rotate_left
                  · (intro w' hS'; go_simp; try with_reducible rfl)
                  try simp only [Act.put, List.setIfInBounds_toArray, List.set_cons_zero, List.set_cons_succ]
                  refine sched_run (v := ?_) (by rfl) ?_ ?_
                  rotate_left
                  · (intro w' hS'; obtain ⟨a0, a1, a2, a3, a4, a5, a6⟩ := HLD.out w' hS'; go_simp; try with_reducible rfl)
                  try simp only [Act.put, List.setIfInBounds_toArray, List.set_cons_zero, List.set_cons_succ]
                  refine sched_call (by rfl) (fun K hK => ?_)
                  go_simp
                  refine (l1In_w _ _ _ true R2.out _).mono ?_
                  rintro e v3 ⟨rfl, hbv2⟩
                  have hv3 : Below w1.heap.size w1 v3 := hv2.trans (hbv2.mono hv2.size)
                  clear hbv2
                  refine hK _ _ hv3 ?_
                  try simp only [Act.put, List.setIfInBounds_toArray, List.set_cons_zero, List.set_cons_succ]
                  refine sched_run (v := ?_) (by rfl) ?_ ?_
                  rotate_left
                  · (intro w' hS'; go_simp; try with_reducible rfl)
                  try simp only [Act.put, List.setIfInBounds_toArray, List.set_cons_zero, List.set_cons_succ]
                  refine sched_run (v := ?_) (by rfl) ?_ ?_
                  rotate_left
                  · (intro w' hS'; go_simp; try with_reducible rfl)
                  try simp only [Act.put, List.setIfInBounds_toArray, List.set_cons_zero, List.set_cons_succ]
                  refine sched_run (v := ?_) (by rfl) ?_ ?_
                  rotate_left
                  · (intro w' hS'; go_simp; try with_reducible rfl)
                  try simp only [Act.put, List.setIfInBounds_toArray, List.set_cons_zero, List.set_cons_succ]
                  refine sched_run (v := ?_) (by rfl) ?_ ?_
                  rotate_left
                  · (intro w' hS'; go_simp; try with_reducible rfl)
                  try simp only [Act.put, List.setIfInBounds_toArray, List.set_cons_zero, List.set_cons_succ]
                  refine sched_run (v := ?_) (by rfl) ?_ ?_
                  rotate_left
                  · (intro w' hS'; go_simp; try with_reducible rfl)
                  try simp only [Act.put, List.setIfInBounds_toArray, List.set_cons_zero, List.set_cons_succ]
                  refine sched_run (v := ?_) (by rfl) ?_ ?_
                  rotate_left
                  · (intro w' hS'; obtain ⟨a0, a1, a2, a3, a4, a5, a6⟩ := HLD.out w' hS'; go_simp; try with_reducible rfl)
                  try simp only [Act.put, List.setIfInBounds_toArray, List.set_cons_zero, List.set_cons_succ]
                  refine sched_call (by rfl) (fun K hK => ?_)
                  go_simp
                  refine (l1In_w _ _ _ true R3.out _).mono ?_
                  rintro e v4 ⟨rfl, hbv3⟩
                  have hv4 : Below w1.heap.size w1 v4 := hv3.trans (hbv3.mono hv3.size)
                  clear hbv3
                  refine hK _ _ hv4 ?_
                  try simp only [Act.put, List.setIfInBounds_toArray, List.set_cons_zero, List.set_cons_succ]
                  refine sched_run (v := ?_) (by rfl) ?_ ?_
                  rotate_left
                  · (intro w' hS'; go_simp; try with_reducible rfl)
                  try simp only [Act.put, List.setIfInBounds_toArray, List.set_cons_zero, List.set_cons_succ]
                  refine sched_run (v := ?_) (by rfl) ?_ ?_
                  rotate_left
                  · (intro w' hS'; go_simp; try with_reducible rfl)
                  try simp only [Act.put, List.setIfInBounds_toArray, List.set_cons_zero, List.set_cons_succ]
                  refine sched_done ?_
                  go_wp2_with fail
                  go_ret
                  exact ⟨rfl, B1.out.trans (hv4.mono B1.out.size)⟩
        · have n3 : (o.k == 3) = false := by simpa using hk
          have m3 := hk
          clear hk
          by_cases hk : o.k = 6
          · have HK := Lib.hid hk
            rw [hk] at c0
            cases r0 : isB o.lc o.sk
            · have hF : rangeB o = false := by simp [rangeB, HQ.out, hk, r0]
              rw [hF]
              have R0 := Lib.hid r0
              clear hF hk r0
              go_enter Tryd.func61, Tryd.ntmps61
              go_wp2_with fail
              refine (l1In_w _ _ _ true HQ.out _).mono ?_
              rintro e w1 ⟨rfl, hb1⟩
              obtain ⟨hbb, c0, c1, c2, c3, c4, c5, c6⟩ := H.out.below hb1
              have B1 := Lib.hid hb1; clear hb1
              rw [HK.out] at c0
              go_wp2_with fail
              have hld : ∀ w', Below w1.heap.size w1 w' → w'.cell? ⟨b, off, none⟩ = some (.int .i64 6) ∧ w'.cell? ⟨b, off + 1, none⟩ = some (.int .i64 o.rq) ∧ w'.cell? ⟨b, off + 2, none⟩ = some (.int .i64 o.lc) ∧ w'.cell? ⟨b, off + 3, none⟩ = some (.int .i64 o.tt) ∧ w'.cell? ⟨b, off + 4, none⟩ = some (.int .i64 o.sk) ∧ w'.cell? ⟨b, off + 5, none⟩ = some (.int .i64 o.qt) ∧ w'.cell? ⟨b, off + 6, none⟩ = some (.int .i64 o.hd) := fun w' h => ⟨(h.cell (p := ⟨b, _, none⟩) hbb).trans c0, (h.cell (p := ⟨b, _, none⟩) hbb).trans c1, (h.cell (p := ⟨b, _, none⟩) hbb).trans c2, (h.cell (p := ⟨b, _, none⟩) hbb).trans c3, (h.cell (p := ⟨b, _, none⟩) hbb).trans c4, (h.cell (p := ⟨b, _, none⟩) hbb).trans c5, (h.cell (p := ⟨b, _, none⟩) hbb).trans c6⟩
              have HLD := Lib.hid hld; clear hld
              refine wp_region_sched (fun w' => Below w1.heap.size w1 w') [(0, true), (1, true), (2, true), (3, true), (4, true), (5, true), (6, true), (7, true), (8, false), (9, true), (10, true), (11, true), (12, true), (13, true), (14, true), (15, true), (16, true), (17, true), (18, false), (19, true), (20, true), (21, true), (22, true), (23, true), (24, true), (25, false), (26, true), (27, true)] (by kernel_rfl) (by kernel_rfl) (by kernel_rfl) (by kernel_rfl) (fun _ _ d _ _ h => by cases d <;> exact h) ⟨rfl, rfl, rfl, Nat.le_refl _, fun _ _ => rfl⟩ ?_
              simp only [opsOf, List.filterMap_cons, List.filterMap_nil, Option.map_some, List.getElem?_toArray, List.getElem?_cons_zero, List.getElem?_cons_succ]
              generalize hW0 : ({ heap := w1.heap, tape := w1.tape, drawn := w1.drawn + 1, os := w1.os, output := w1.output } : World) = v0
              have hv0 : Below w1.heap.size w1 v0 := by rw [← hW0]; exact ⟨rfl, rfl, rfl, Nat.le_refl _, fun _ _ => rfl⟩
              clear hW0
              refine sched_run (v := ?_) (by rfl) ?_ ?_
              rotate_left
              · (intro w' hS'; go_simp; try with_reducible rfl)
              try simp only [Act.put, List.setIfInBounds_toArray, List.set_cons_zero, List.set_cons_succ]
              refine sched_run (v := ?_) (by rfl) ?_ ?_
              rotate_left
              · (intro w' hS'; go_simp; try with_reducible rfl)
              try simp only [Act.put, List.setIfInBounds_toArray, List.set_cons_zero, List.set_cons_succ]
              refine sched_run (v := ?_) (by rfl) ?_ ?_
              rotate_left
              · (intro w' hS'; go_simp; try with_reducible rfl)
              try simp only [Act.put, List.setIfInBounds_toArray, List.set_cons_zero, List.set_cons_succ]
              refine sched_run (v := ?_) (by rfl) ?_ ?_
              rotate_left
              · (intro w' hS'; obtain ⟨a0, a1, a2, a3, a4, a5, a6⟩ := HLD.out w' hS'; go_simp; try with_reducible rfl)
              try simp only [Act.put, List.setIfInBounds_toArray, List.set_cons_zero, List.set_cons_succ]
              refine sched_run (v := ?_) (by rfl) ?_ ?_
              rotate_left
              · (intro w' hS'; go_simp; try with_reducible rfl)
              try simp only [Act.put, List.setIfInBounds_toArray, List.set_cons_zero, List.set_cons_succ]
              refine sched_run (v := ?_) (by rfl) ?_ ?_
              rotate_left
              · (intro w' hS'; go_simp; try with_reducible rfl)
              try simp only [Act.put, List.setIfInBounds_toArray, List.set_cons_zero, List.set_cons_succ]
              refine sched_run (v := ?_) (by rfl) ?_ ?_
              rotate_left
              · (intro w' hS'; go_simp; try with_reducible rfl)
              try simp only [Act.put, List.setIfInBounds_toArray, List.set_cons_zero, List.set_cons_succ]
              refine sched_run (v := ?_) (by rfl) ?_ ?_
              rotate_left
              · (intro w' hS'; obtain ⟨a0, a1, a2, a3, a4, a5, a6⟩ := HLD.out w' hS'; go_simp; try with_reducible rfl)
              try simp only [Act.put, List.setIfInBounds_toArray, List.set_cons_zero, List.set_cons_succ]
              refine sched_call (by rfl) (fun K hK => ?_)
              go_simp
              refine (l2Is_w _ _ false R0.out _).mono ?_
              rintro e v1 ⟨rfl, hbv0⟩
              have hv1 : Below w1.heap.size w1 v1 := hv0.trans (hbv0.mono hv0.size)
              clear hbv0
              refine hK _ _ hv1 ?_
              try simp only [Act.put, List.setIfInBounds_toArray, List.set_cons_zero, List.set_cons_succ]
              refine sched_run (v := ?_) (by rfl) ?_ ?_
              rotate_left
              · (intro w' hS'; go_simp; try with_reducible rfl)
              try simp only [Act.put, List.setIfInBounds_toArray, List.set_cons_zero, List.set_cons_succ]
              refine sched_skip (by rfl) ?_
              try simp only [Act.put, List.setIfInBounds_toArray, List.set_cons_zero, List.set_cons_succ]
              refine sched_skip (by rfl) ?_
              try simp only [Act.put, List.setIfInBounds_toArray, List.set_cons_zero, List.set_cons_succ]
              refine sched_skip (by rfl) ?_
              try simp only [Act.put, List.setIfInBounds_toArray, List.set_cons_zero, List.set_cons_succ]
              refine sched_skip (by rfl) ?_
              try simp only [Act.put, List.setIfInBounds_toArray, List.set_cons_zero, List.set_cons_succ]
              refine sched_skip (by rfl) ?_
              try simp only [Act.put, List.setIfInBounds_toArray, List.set_cons_zero, List.set_cons_succ]
              refine sched_skip (by rfl) ?_
              try simp only [Act.put, List.setIfInBounds_toArray, List.set_cons_zero, List.set_cons_succ]
              refine sched_skip (by rfl) ?_
              try simp only [Act.put, List.setIfInBounds_toArray, List.set_cons_zero, List.set_cons_succ]
              refine sched_skip (by rfl) ?_
              try simp only [Act.put, List.setIfInBounds_toArray, List.set_cons_zero, List.set_cons_succ]
              refine sched_skip' (by rfl) ?_
              try simp only [Act.put, List.setIfInBounds_toArray, List.set_cons_zero, List.set_cons_succ]
              refine sched_run (v := ?_) (by rfl) ?_ ?_
              rotate_left
              · (intro w' hS'; go_simp; try with_reducible rfl)
              try simp only [Act.put, List.setIfInBounds_toArray, List.set_cons_zero, List.set_cons_succ]
              refine sched_run (v := ?_) (by rfl) ?_ ?_
              rotate_left
              · (intro w' hS'; go_simp; try with_reducible rfl)
              try simp only [Act.put, List.setIfInBounds_toArray, List.set_cons_zero, List.set_cons_succ]
              refine sched_skip (by rfl) ?_
              try simp only [Act.put, List.setIfInBounds_toArray, List.set_cons_zero, List.set_cons_succ]
              refine sched_skip (by rfl) ?_
              try simp only [Act.put, List.setIfInBounds_toArray, List.set_cons_zero, List.set_cons_succ]
              refine sched_skip (by rfl) ?_
              try simp only [Act.put, List.setIfInBounds_toArray, List.set_cons_zero, List.set_cons_succ]
              refine sched_skip (by rfl) ?_
              try simp only [Act.put, List.setIfInBounds_toArray, List.set_cons_zero, List.set_cons_succ]
              refine sched_skip' (by rfl) ?_
              try simp only [Act.put, List.setIfInBounds_toArray, List.set_cons_zero, List.set_cons_succ]
              refine sched_run (v := ?_) (by rfl) ?_ ?_
              rotate_left
              · (intro w' hS'; go_simp; try with_reducible rfl)
              try simp only [Act.put, List.setIfInBounds_toArray, List.set_cons_zero, List.set_cons_succ]
              refine sched_run (v := ?_) (by rfl) ?_ ?_
              rotate_left
              · (intro w' hS'; go_simp; try with_reducible rfl)
              try simp only [Act.put, List.setIfInBounds_toArray, List.set_cons_zero, List.set_cons_succ]
              refine sched_done ?_
              go_wp2_with fail
              go_ret
              exact ⟨rfl, B1.out.trans (hv1.mono B1.out.size)⟩
            · cases r1 : isB o.tt o.sk
              · have hF : rangeB o = false := by simp [rangeB, HQ.out, hk, r0, r1]
                rw [hF]
                have R0 := Lib.hid r0
                have R1 := Lib.hid r1
                clear hF hk r0 r1
                go_enter Tryd.func61, Tryd.ntmps61
                go_wp2_with fail
                refine (l1In_w _ _ _ true HQ.out _).mono ?_
                rintro e w1 ⟨rfl, hb1⟩
                obtain ⟨hbb, c0, c1, c2, c3, c4, c5, c6⟩ := H.out.below hb1
                have B1 := Lib.hid hb1; clear hb1
                rw [HK.out] at c0
                go_wp2_with fail
                have hld : ∀ w', Below w1.heap.size w1 w' → w'.cell? ⟨b, off, none⟩ = some (.int .i64 6) ∧ w'.cell? ⟨b, off + 1, none⟩ = some (.int .i64 o.rq) ∧ w'.cell? ⟨b, off + 2, none⟩ = some (.int .i64 o.lc) ∧ w'.cell? ⟨b, off + 3, none⟩ = some (.int .i64 o.tt) ∧ w'.cell? ⟨b, off + 4, none⟩ = some (.int .i64 o.sk) ∧ w'.cell? ⟨b, off + 5, none⟩ = some (.int .i64 o.qt) ∧ w'.cell? ⟨b, off + 6, none⟩ = some (.int .i64 o.hd) := fun w' h => ⟨(h.cell (p := ⟨b, _, none⟩) hbb).trans c0, (h.cell (p := ⟨b, _, none⟩) hbb).trans c1, (h.cell (p := ⟨b, _, none⟩) hbb).trans c2, (h.cell (p := ⟨b, _, none⟩) hbb).trans c3, (h.cell (p := ⟨b, _, none⟩) hbb).trans c4, (h.cell (p := ⟨b, _, none⟩) hbb).trans c5, (h.cell (p := ⟨b, _, none⟩) hbb).trans c6⟩
                have HLD := Lib.hid hld; clear hld
                refine wp_region_sched (fun w' => Below w1.heap.size w1 w') [(0, true), (1, true), (2, true), (3, true), (4, true), (5, true), (6, true), (7, true), (8, false), (9, true), (10, true), (11, true), (12, true), (13, true), (14, true), (15, true), (16, true), (17, true), (18, false), (19, true), (20, true), (21, true), (22, true), (23, true), (24, true), (25, false), (26, true), (27, true)] (by kernel_rfl) (by kernel_rfl) (by kernel_rfl) (by kernel_rfl) (fun _ _ d _ _ h => by cases d <;> exact h) ⟨rfl, rfl, rfl, Nat.le_refl _, fun _ _ => rfl⟩ ?_
                simp only [opsOf, List.filterMap_cons, List.filterMap_nil, Option.map_some, List.getElem?_toArray, List.getElem?_cons_zero, List.getElem?_cons_succ]
                generalize hW0 : ({ heap := w1.heap, tape := w1.tape, drawn := w1.drawn + 1, os := w1.os, output := w1.output } : World) = v0
                have hv0 : Below w1.heap.size w1 v0 := by rw [← hW0]; exact ⟨rfl, rfl, rfl, Nat.le_refl _, fun _ _ => rfl⟩
                clear hW0
                refine sched_run (v := ?_) (by rfl) ?_ ?_
                rotate_left
                · (intro w' hS'; go_simp; try with_reducible rfl)
                try simp only [Act.put, List.setIfInBounds_toArray, List.set_cons_zero, List.set_cons_succ]
                refine sched_run (v := ?_) (by rfl) ?_ ?_
                rotate_left
                · (intro w' hS'; go_simp; try with_reducible rfl)
                try simp only [Act.put, List.setIfInBounds_toArray, List.set_cons_zero, List.set_cons_succ]
                refine sched_run (v := ?_) (by rfl) ?_ ?_
                rotate_left
                · (intro w' hS'; go_simp; try with_reducible rfl)
                try simp only [Act.put, List.setIfInBounds_toArray, List.set_cons_zero, List.set_cons_succ]
                refine sched_run (v := ?_) (by rfl) ?_ ?_
                rotate_left
                · (intro w' hS'; obtain ⟨a0, a1, a2, a3, a4, a5, a6⟩ := HLD.out w' hS'; go_simp; try with_reducible rfl)
                try simp only [Act.put, List.setIfInBounds_toArray, List.set_cons_zero, List.set_cons_succ]
                refine sched_run (v := ?_) (by rfl) ?_ ?_
                rotate_left
                · (intro w' hS'; go_simp; try with_reducible rfl)
                try simp only [Act.put, List.setIfInBounds_toArray, List.set_cons_zero, List.set_cons_succ]
                refine sched_run (v := ?_) (by rfl) ?_ ?_
                rotate_left
                · (intro w' hS'; go_simp; try with_reducible rfl)
                try simp only [Act.put, List.setIfInBounds_toArray, List.set_cons_zero, List.set_cons_succ]
                refine sched_run (v := ?_) (by rfl) ?_ ?_
                rotate_left
                · (intro w' hS'; go_simp; try with_reducible rfl)
                try simp only [Act.put, List.setIfInBounds_toArray, List.set_cons_zero, List.set_cons_succ]
                refine sched_run (v := ?_) (by rfl) ?_ ?_
                rotate_left
                · (intro w' hS'; obtain ⟨a0, a1, a2, a3, a4, a5, a6⟩ := HLD.out w' hS'; go_simp; try with_reducible rfl)
                try simp only [Act.put, List.setIfInBounds_toArray, List.set_cons_zero, List.set_cons_succ]
                refine sched_call (by rfl) (fun K hK => ?_)
                go_simp
                refine (l2Is_w _ _ true R0.out _).mono ?_
                rintro e v1 ⟨rfl, hbv0⟩
                have hv1 : Below w1.heap.size w1 v1 := hv0.trans (hbv0.mono hv0.size)
                clear hbv0
                refine hK _ _ hv1 ?_
                try simp only [Act.put, List.setIfInBounds_toArray, List.set_cons_zero, List.set_cons_succ]
                refine sched_run (v := ?_) (by rfl) ?_ ?_
                rotate_left
                · (intro w' hS'; go_simp; try with_reducible rfl)
                try simp only [Act.put, List.setIfInBounds_toArray, List.set_cons_zero, List.set_cons_succ]
                refine sched_run (v := ?_) (by rfl) ?_ ?_
                rotate_left
                · (intro w' hS'; go_simp; try with_reducible rfl)
                try simp only [Act.put, List.setIfInBounds_toArray, List.set_cons_zero, List.set_cons_succ]
                refine sched_run (v := ?_) (by rfl) ?_ ?_
                rotate_left
                · (intro w' hS'; go_simp; try with_reducible rfl)
                try simp only [Act.put, List.setIfInBounds_toArray, List.set_cons_zero, List.set_cons_succ]
                refine sched_run (v := ?_) (by rfl) ?_ ?_
                rotate_left
                · (intro w' hS'; go_simp; try with_reducible rfl)
                try simp only [Act.put, List.setIfInBounds_toArray, List.set_cons_zero, List.set_cons_succ]
                refine sched_run (v := ?_) (by rfl) ?_ ?_
                rotate_left
                · (intro w' hS'; obtain ⟨a0, a1, a2, a3, a4, a5, a6⟩ := HLD.out w' hS'; go_simp; try with_reducible rfl)
                try simp only [Act.put, List.setIfInBounds_toArray, List.set_cons_zero, List.set_cons_succ]
                refine sched_run (v := ?_) (by rfl) ?_ ?_
                rotate_left
                · (intro w' hS'; go_simp; try with_reducible rfl)
                try simp only [Act.put, List.setIfInBounds_toArray, List.set_cons_zero, List.set_cons_succ]
                refine sched_run (v := ?_) (by rfl) ?_ ?_
                rotate_left
                · (intro w' hS'; go_simp; try with_reducible rfl)
                try simp only [Act.put, List.setIfInBounds_toArray, List.set_cons_zero, List.set_cons_succ]
                refine sched_run (v := ?_) (by rfl) ?_ ?_
                rotate_left
                · (intro w' hS'; go_simp; try with_reducible rfl)
                try simp only [Act.put, List.setIfInBounds_toArray, List.set_cons_zero, List.set_cons_succ]
                refine sched_run (v := ?_) (by rfl) ?_ ?_
                rotate_left
                · (intro w' hS'; obtain ⟨a0, a1, a2, a3, a4, a5, a6⟩ := HLD.out w' hS'; go_simp; try with_reducible rfl)
                try simp only [Act.put, List.setIfInBounds_toArray, List.set_cons_zero, List.set_cons_succ]
                refine sched_call (by rfl) (fun K hK => ?_)
                go_simp
                refine (l2Is_w _ _ false R1.out _).mono ?_
                rintro e v2 ⟨rfl, hbv1⟩
                have hv2 : Below w1.heap.size w1 v2 := hv1.trans (hbv1.mono hv1.size)
                clear hbv1
                refine hK _ _ hv2 ?_
                try simp only [Act.put, List.setIfInBounds_toArray, List.set_cons_zero, List.set_cons_succ]
                refine sched_run (v := ?_) (by rfl) ?_ ?_
                rotate_left
                · (intro w' hS'; go_simp; try with_reducible rfl)
                try simp only [Act.put, List.setIfInBounds_toArray, List.set_cons_zero, List.set_cons_succ]
                refine sched_run (v := ?_) (by rfl) ?_ ?_
                rotate_left
                · (intro w' hS'; go_simp; try with_reducible rfl)
                try simp only [Act.put, List.setIfInBounds_toArray, List.set_cons_zero, List.set_cons_succ]
                refine sched_skip (by rfl) ?_
                try simp only [Act.put, List.setIfInBounds_toArray, List.set_cons_zero, List.set_cons_succ]
                refine sched_skip (by rfl) ?_
                try simp only [Act.put, List.setIfInBounds_toArray, List.set_cons_zero, List.set_cons_succ]
                refine sched_skip (by rfl) ?_
                try simp only [Act.put, List.setIfInBounds_toArray, List.set_cons_zero, List.set_cons_succ]
                refine sched_skip (by rfl) ?_
                try simp only [Act.put, List.setIfInBounds_toArray, List.set_cons_zero, List.set_cons_succ]
                refine sched_skip' (by rfl) ?_
                try simp only [Act.put, List.setIfInBounds_toArray, List.set_cons_zero, List.set_cons_succ]
                refine sched_run (v := ?_) (by rfl) ?_ ?_
                rotate_left
                · (intro w' hS'; go_simp; try with_reducible rfl)
                try simp only [Act.put, List.setIfInBounds_toArray, List.set_cons_zero, List.set_cons_succ]
                refine sched_run (v := ?_) (by rfl) ?_ ?_
                rotate_left
                · (intro w' hS'; go_simp; try with_reducible rfl)
                try simp only [Act.put, List.setIfInBounds_toArray, List.set_cons_zero, List.set_cons_succ]
                refine sched_done ?_
                go_wp2_with fail
                go_ret
                exact ⟨rfl, B1.out.trans (hv2.mono B1.out.size)⟩
              · cases r2 : inB o.qt 1 9999
                · have hF : rangeB o = false := by simp [rangeB, HQ.out, hk, r0, r1, r2]
                  rw [hF]
                  have R0 := Lib.hid r0
                  have R1 := Lib.hid r1
                  have R2 := Lib.hid r2
                  clear hF hk r0 r1 r2
                  go_enter Tryd.func61, Tryd.ntmps61
                  go_wp2_with fail
                  refine (l1In_w _ _ _ true HQ.out _).mono ?_
                  rintro e w1 ⟨rfl, hb1⟩
                  obtain ⟨hbb, c0, c1, c2, c3, c4, c5, c6⟩ := H.out.below hb1
                  have B1 := Lib.hid hb1; clear hb1
                  rw [HK.out] at c0
                  go_wp2_with fail
                  have hld : ∀ w', Below w1.heap.size w1 w' → w'.cell? ⟨b, off, none⟩ = some (.int .i64 6) ∧ w'.cell? ⟨b, off + 1, none⟩ = some (.int .i64 o.rq) ∧ w'.cell? ⟨b, off + 2, none⟩ = some (.int .i64 o.lc) ∧ w'.cell? ⟨b, off + 3, none⟩ = some (.int .i64 o.tt) ∧ w'.cell? ⟨b, off + 4, none⟩ = some (.int .i64 o.sk) ∧ w'.cell? ⟨b, off + 5, none⟩ = some (.int .i64 o.qt) ∧ w'.cell? ⟨b, off + 6, none⟩ = some (.int .i64 o.hd) := fun w' h => ⟨(h.cell (p := ⟨b, _, none⟩) hbb).trans c0, (h.cell (p := ⟨b, _, none⟩) hbb).trans c1, (h.cell (p := ⟨b, _, none⟩) hbb).trans c2, (h.cell (p := ⟨b, _, none⟩) hbb).trans c3, (h.cell (p := ⟨b, _, none⟩) hbb).trans c4, (h.cell (p := ⟨b, _, none⟩) hbb).trans c5, (h.cell (p := ⟨b, _, none⟩) hbb).trans c6⟩
                  have HLD := Lib.hid hld; clear hld
                  refine wp_region_sched (fun w' => Below w1.heap.size w1 w') [(0, true), (1, true), (2, true), (3, true), (4, true), (5, true), (6, true), (7, true), (8, false), (9, true), (10, true), (11, true), (12, true), (13, true), (14, true), (15, true), (16, true), (17, true), (18, false), (19, true), (20, true), (21, true), (22, true), (23, true), (24, true), (25, false), (26, true), (27, true)] (by kernel_rfl) (by kernel_rfl) (by kernel_rfl) (by kernel_rfl) (fun _ _ d _ _ h => by cases d <;> exact h) ⟨rfl, rfl, rfl, Nat.le_refl _, fun _ _ => rfl⟩ ?_
                  simp only [opsOf, List.filterMap_cons, List.filterMap_nil, Option.map_some, List.getElem?_toArray, List.getElem?_cons_zero, List.getElem?_cons_succ]
                  generalize hW0 : ({ heap := w1.heap, tape := w1.tape, drawn := w1.drawn + 1, os := w1.os, output := w1.output } : World) = v0
                  have hv0 : Below w1.heap.size w1 v0 := by rw [← hW0]; exact ⟨rfl, rfl, rfl, Nat.le_refl _, fun _ _ => rfl⟩
                  clear hW0
                  refine sched_run (v := ?_) (by rfl) ?_ ?_
                  rotate_left
                  · (intro w' hS'; go_simp; try with_reducible rfl)
                  try simp only [Act.put, List.setIfInBounds_toArray, List.set_cons_zero, List.set_cons_succ]
                  refine sched_run (v := ?_) (by rfl) ?_ ?_
                  rotate_left
                  · (intro w' hS'; go_simp; try with_reducible rfl)
                  try simp only [Act.put, List.setIfInBounds_toArray, List.set_cons_zero, List.set_cons_succ]
                  refine sched_run (v := ?_) (by rfl) ?_ ?_
                  rotate_left
                  · (intro w' hS'; go_simp; try with_reducible rfl)
                  try simp only [Act.put, List.setIfInBounds_toArray, List.set_cons_zero, List.set_cons_succ]
                  refine sched_run (v := ?_) (by rfl) ?_ ?_
                  rotate_left
                  · (intro w' hS'; obtain ⟨a0, a1, a2, a3, a4, a5, a6⟩ := HLD.out w' hS'; go_simp; try with_reducible rfl)
                  try simp only [Act.put, List.setIfInBounds_toArray, List.set_cons_zero, List.set_cons_succ]
                  refine sched_run (v := ?_) (by rfl) ?_ ?_
                  rotate_left
                  · (intro w' hS'; go_simp; try with_reducible rfl)
                  try simp only [Act.put, List.setIfInBounds_toArray, List.set_cons_zero, List.set_cons_succ]
                  refine sched_run (v := ?_) (by rfl) ?_ ?_
                  rotate_left
                  · (intro w' hS'; go_simp; try with_reducible rfl)
                  try simp only [Act.put, List.setIfInBounds_toArray, List.set_cons_zero, List.set_cons_succ]
                  refine sched_run (v := ?_) (by rfl) ?_ ?_
                  rotate_left
                  · (intro w' hS'; go_simp; try with_reducible rfl)
                  try simp only [Act.put, List.setIfInBounds_toArray, List.set_cons_zero, List.set_cons_succ]
                  refine sched_run (v := ?_) (by rfl) ?_ ?_
                  rotate_left
                  · (intro w' hS'; obtain ⟨a0, a1, a2, a3, a4, a5, a6⟩ := HLD.out w' hS'; go_simp; try with_reducible rfl)
                  try simp only [Act.put, List.setIfInBounds_toArray, List.set_cons_zero, List.set_cons_succ]
                  refine sched_call (by rfl) (fun K hK => ?_)
                  go_simp
                  refine (l2Is_w _ _ true R0.out _).mono ?_
                  rintro e v1 ⟨rfl, hbv0⟩
                  have hv1 : Below w1.heap.size w1 v1 := hv0.trans (hbv0.mono hv0.size)
                  clear hbv0
                  refine hK _ _ hv1 ?_
                  try simp only [Act.put, List.setIfInBounds_toArray, List.set_cons_zero, List.set_cons_succ]
                  refine sched_run (v := ?_) (by rfl) ?_ ?_
                  rotate_left
                  · (intro w' hS'; go_simp; try with_reducible rfl)
                  try simp only [Act.put, List.setIfInBounds_toArray, List.set_cons_zero, List.set_cons_succ]
                  refine sched_run (v := ?_) (by rfl) ?_ ?_
                  rotate_left
                  · (intro w' hS'; go_simp; try with_reducible rfl)
                  try simp only [Act.put, List.setIfInBounds_toArray, List.set_cons_zero, List.set_cons_succ]
                  refine sched_run (v := ?_) (by rfl) ?_ ?_
                  rotate_left
                  · (intro w' hS'; go_simp; try with_reducible rfl)
                  try simp only [Act.put, List.setIfInBounds_toArray, List.set_cons_zero, List.set_cons_succ]
                  refine sched_run (v := ?_) (by rfl) ?_ ?_
                  rotate_left
                  · (intro w' hS'; go_simp; try with_reducible rfl)
                  try simp only [Act.put, List.setIfInBounds_toArray, List.set_cons_zero, List.set_cons_succ]
                  refine sched_run (v := ?_) (by rfl) ?_ ?_
                  rotate_left
                  · (intro w' hS'; obtain ⟨a0, a1, a2, a3, a4, a5, a6⟩ := HLD.out w' hS'; go_simp; try with_reducible rfl)
                  try simp only [Act.put, List.setIfInBounds_toArray, List.set_cons_zero, List.set_cons_succ]
                  refine sched_run (v := ?_) (by rfl) ?_ ?_
                  rotate_left
                  · (intro w' hS'; go_simp; try with_reducible rfl)
                  try simp only [Act.put, List.setIfInBounds_toArray, List.set_cons_zero, List.set_cons_succ]
                  refine sched_run (v := ?_) (by rfl) ?_ ?_
                  rotate_left
                  · (intro w' hS'; go_simp; try with_reducible rfl)
                  try simp only [Act.put, List.setIfInBounds_toArray, List.set_cons_zero, List.set_cons_succ]
                  refine sched_run (v := ?_) (by rfl) ?_ ?_
                  rotate_left
                  · (intro w' hS'; go_simp; try with_reducible rfl)
                  try simp only [Act.put, List.setIfInBounds_toArray, List.set_cons_zero, List.set_cons_succ]
                  refine sched_run (v := ?_) (by rfl) ?_ ?_
                  rotate_left
                  · (intro w' hS'; obtain ⟨a0, a1, a2, a3, a4, a5, a6⟩ := HLD.out w' hS'; go_simp; try with_reducible rfl)
                  try simp only [Act.put, List.setIfInBounds_toArray, List.set_cons_zero, List.set_cons_succ]
                  refine sched_call (by rfl) (fun K hK => ?_)
                  go_simp
                  refine (l2Is_w _ _ true R1.out _).mono ?_
                  rintro e v2 ⟨rfl, hbv1⟩
                  have hv2 : Below w1.heap.size w1 v2 := hv1.trans (hbv1.mono hv1.size)
                  clear hbv1
                  refine hK _ _ hv2 ?_
                  try simp only [Act.put, List.setIfInBounds_toArray, List.set_cons_zero, List.set_cons_succ]
                  refine sched_run (v := ?_) (by rfl) ?_ ?_
                  rotate_left
                  · (intro w' hS'; go_simp; try with_reducible rfl)
                  try simp only [Act.put, List.setIfInBounds_toArray, List.set_cons_zero, List.set_cons_succ]
                  refine sched_run (v := ?_) (by rfl) ?_ ?_
                  rotate_left
                  · (intro w' hS'; go_simp; try with_reducible rfl)
                  try simp only [Act.put, List.setIfInBounds_toArray, List.set_cons_zero, List.set_cons_succ]
                  refine sched_run (v := ?_) (by rfl) ?_ ?_
                  rotate_left
                  · (intro w' hS'; go_simp; try with_reducible rfl)
                  try simp only [Act.put, List.setIfInBounds_toArray, List.set_cons_zero, List.set_cons_succ]
                  refine sched_run (v := ?_) (by rfl) ?_ ?_
                  rotate_left
                  · (intro w' hS'; go_simp; try with_reducible rfl)
                  try simp only [Act.put, List.setIfInBounds_toArray, List.set_cons_zero, List.set_cons_succ]
                  refine sched_run (v := ?_) (by rfl) ?_ ?_
                  rotate_left
                  · (intro w' hS'; go_simp; try with_reducible rfl)
                  try simp only [Act.put, List.setIfInBounds_toArray, List.set_cons_zero, List.set_cons_succ]
                  refine sched_run (v := ?_) (by rfl) ?_ ?_
                  rotate_left
                  · (intro w' hS'; obtain ⟨a0, a1, a2, a3, a4, a5, a6⟩ := HLD.out w' hS'; go_simp; try with_reducible rfl)
                  try simp only [Act.put, List.setIfInBounds_toArray, List.set_cons_zero, List.set_cons_succ]
                  refine sched_call (by rfl) (fun K hK => ?_)
                  go_simp
                  refine (l1In_w _ _ _ false R2.out _).mono ?_
                  rintro e v3 ⟨rfl, hbv2⟩
                  have hv3 : Below w1.heap.size w1 v3 := hv2.trans (hbv2.mono hv2.size)
                  clear hbv2
                  refine hK _ _ hv3 ?_
                  try simp only [Act.put, List.setIfInBounds_toArray, List.set_cons_zero, List.set_cons_succ]
                  refine sched_run (v := ?_) (by rfl) ?_ ?_
                  rotate_left
                  · (intro w' hS'; go_simp; try with_reducible rfl)
                  try simp only [Act.put, List.setIfInBounds_toArray, List.set_cons_zero, List.set_cons_succ]
                  refine sched_run (v := ?_) (by rfl) ?_ ?_
                  rotate_left
                  · (intro w' hS'; go_simp; try with_reducible rfl)
                  try simp only [Act.put, List.setIfInBounds_toArray, List.set_cons_zero, List.set_cons_succ]
                  refine sched_done ?_
                  go_wp2_with fail
                  go_ret
                  exact ⟨rfl, B1.out.trans (hv3.mono B1.out.size)⟩
                · have hF : rangeB o = true := by simp [rangeB, HQ.out, hk, r0, r1, r2]
                  rw [hF]
                  have R0 := Lib.hid r0
                  have R1 := Lib.hid r1
                  have R2 := Lib.hid r2
                  clear hF hk r0 r1 r2
                  go_enter Tryd.func61, Tryd.ntmps61
                  go_wp2_with fail
                  refine (l1In_w _ _ _ true HQ.out _).mono ?_
                  rintro e w1 ⟨rfl, hb1⟩
                  obtain ⟨hbb, c0, c1, c2, c3, c4, c5, c6⟩ := H.out.below hb1
                  have B1 := Lib.hid hb1; clear hb1
                  rw [HK.out] at c0
                  go_wp2_with fail
                  have hld : ∀ w', Below w1.heap.size w1 w' → w'.cell? ⟨b, off, none⟩ = some (.int .i64 6) ∧ w'.cell? ⟨b, off + 1, none⟩ = some (.int .i64 o.rq) ∧ w'.cell? ⟨b, off + 2, none⟩ = some (.int .i64 o.lc) ∧ w'.cell? ⟨b, off + 3, none⟩ = some (.int .i64 o.tt) ∧ w'.cell? ⟨b, off + 4, none⟩ = some (.int .i64 o.sk) ∧ w'.cell? ⟨b, off + 5, none⟩ = some (.int .i64 o.qt) ∧ w'.cell? ⟨b, off + 6, none⟩ = some (.int .i64 o.hd) := fun w' h => ⟨(h.cell (p := ⟨b, _, none⟩) hbb).trans c0, (h.cell (p := ⟨b, _, none⟩) hbb).trans c1, (h.cell (p := ⟨b, _, none⟩) hbb).trans c2, (h.cell (p := ⟨b, _, none⟩) hbb).trans c3, (h.cell (p := ⟨b, _, none⟩) hbb).trans c4, (h.cell (p := ⟨b, _, none⟩) hbb).trans c5, (h.cell (p := ⟨b, _, none⟩) hbb).trans c6⟩
                  have HLD := Lib.hid hld; clear hld
                  refine wp_region_sched (fun w' => Below w1.heap.size w1 w') [(0, true), (1, true), (2, true), (3, true), (4, true), (5, true), (6, true), (7, true), (8, false), (9, true), (10, true), (11, true), (12, true), (13, true), (14, true), (15, true), (16, true), (17, true), (18, false), (19, true), (20, true), (21, true), (22, true), (23, true), (24, true), (25, false), (26, true), (27, true)] (by kernel_rfl) (by kernel_rfl) (by kernel_rfl) (by kernel_rfl) (fun _ _ d _ _ h => by cases d <;> exact h) ⟨rfl, rfl, rfl, Nat.le_refl _, fun _ _ => rfl⟩ ?_
                  simp only [opsOf, List.filterMap_cons, List.filterMap_nil, Option.map_some, List.getElem?_toArray, List.getElem?_cons_zero, List.getElem?_cons_succ]
                  generalize hW0 : ({ heap := w1.heap, tape := w1.tape, drawn := w1.drawn + 1, os := w1.os, output := w1.output } : World) = v0
                  have hv0 : Below w1.heap.size w1 v0 := by rw [← hW0]; exact ⟨rfl, rfl, rfl, Nat.le_refl _, fun _ _ => rfl⟩
                  clear hW0
                  refine sched_run (v := ?_) (by rfl) ?_ ?_
                  rotate_left
                  · (intro w' hS'; go_simp; try with_reducible rfl)
                  try simp only [Act.put, List.setIfInBounds_toArray, List.set_cons_zero, List.set_cons_succ]
                  refine sched_run (v := ?_) (by rfl) ?_ ?_
                  rotate_left
                  · (intro w' hS'; go_simp; try with_reducible rfl)
                  try simp only [Act.put, List.setIfInBounds_toArray, List.set_cons_zero, List.set_cons_succ]
                  refine sched_run (v := ?_) (by rfl) ?_ ?_
                  rotate_left
                  · (intro w' hS'; go_simp; try with_reducible rfl)
                  try simp only [Act.put, List.setIfInBounds_toArray, List.set_cons_zero, List.set_cons_succ]
                  refine sched_run (v := ?_) (by rfl) ?_ ?_
                  rotate_left
                  · (intro w' hS'; obtain ⟨a0, a1, a2, a3, a4, a5, a6⟩ := HLD.out w' hS'; go_simp; try with_reducible rfl)
                  try simp only [Act.put, List.setIfInBounds_toArray, List.set_cons_zero, List.set_cons_succ]
                  refine sched_run (v := ?_) (by rfl) ?_ ?_
                  rotate_left
                  · (intro w' hS'; go_simp; try with_reducible rfl)
                  try simp only [Act.put, List.setIfInBounds_toArray, List.set_cons_zero, List.set_cons_succ]
                  refine sched_run (v := ?_) (by rfl) ?_ ?_
                  rotate_left
                  · (intro w' hS'; go_simp; try with_reducible rfl)
                  try simp only [Act.put, List.setIfInBounds_toArray, List.set_cons_zero, List.set_cons_succ]
                  refine sched_run (v := ?_) (by rfl) ?_ ?_
                  rotate_left
                  · (intro w' hS'; go_simp; try with_reducible rfl)
                  try simp only [Act.put, List.setIfInBounds_toArray, List.set_cons_zero, List.set_cons_succ]
                  refine sched_run (v := ?_) (by rfl) ?_ ?_
                  rotate_left
                  · (intro w' hS'; obtain ⟨a0, a1, a2, a3, a4, a5, a6⟩ := HLD.out w' hS'; go_simp; try with_reducible rfl)
                  try simp only [Act.put, List.setIfInBounds_toArray, List.set_cons_zero, List.set_cons_succ]
                  refine sched_call (by rfl) (fun K hK => ?_)
                  go_simp
                  refine (l2Is_w _ _ true R0.out _).mono ?_
                  rintro e v1 ⟨rfl, hbv0⟩
                  have hv1 : Below w1.heap.size w1 v1 := hv0.trans (hbv0.mono hv0.size)
                  clear hbv0
                  refine hK _ _ hv1 ?_
                  try simp only [Act.put, List.setIfInBounds_toArray, List.set_cons_zero, List.set_cons_succ]
                  refine sched_run (v := ?_) (by rfl) ?_ ?_
                  rotate_left
                  · (intro w' hS'; go_simp; try with_reducible rfl)
                  try simp only [Act.put, List.setIfInBounds_toArray, List.set_cons_zero, List.set_cons_succ]
                  refine sched_run (v := ?_) (by rfl) ?_ ?_
                  rotate_left
                  · (intro w' hS'; go_simp; try with_reducible rfl)
                  try simp only [Act.put, List.setIfInBounds_toArray, List.set_cons_zero, List.set_cons_succ]
                  refine sched_run (v := ?_) (by rfl) ?_ ?_
                  rotate_left
                  · (intro w' hS'; go_simp; try with_reducible rfl)
                  try simp only [Act.put, List.setIfInBounds_toArray, List.set_cons_zero, List.set_cons_succ]
                  refine sched_run (v := ?_) (by rfl) ?_ ?_
                  rotate_left
                  · (intro w' hS'; go_simp; try with_reducible rfl)
                  try simp only [Act.put, List.setIfInBounds_toArray, List.set_cons_zero, List.set_cons_succ]
                  refine sched_run (v := ?_) (by rfl) ?_ ?_
                  rotate_left
                  · (intro w' hS'; obtain ⟨a0, a1, a2, a3, a4, a5, a6⟩ := HLD.out w' hS'; go_simp; try with_reducible rfl)
                  try simp only [Act.put, List.setIfInBounds_toArray, List.set_cons_zero, List.set_cons_succ]
                  refine sched_run (v := ?_) (by rfl) ?_ ?_
                  rotate_left
                  · (intro w' hS'; go_simp; try with_reducible rfl)
                  try simp only [Act.put, List.setIfInBounds_toArray, List.set_cons_zero, List.set_cons_succ]
                  refine sched_run (v := ?_) (by rfl) ?_ ?_
                  rotate_left
                  · (intro w' hS'; go_simp; try with_reducible rfl)
                  try simp only [Act.put, List.setIfInBounds_toArray, List.set_cons_zero, List.set_cons_succ]
                  refine sched_run (v := ?_) (by rfl) ?_ ?_
                  rotate_left
                  · (intro w' hS'; go_simp; try with_reducible rfl)
                  try simp only [Act.put, List.setIfInBounds_toArray, List.set_cons_zero, List.set_cons_succ]
                  refine sched_run (v := ?_) (by rfl) ?_ ?_
                  rotate_left
                  · (intro w' hS'; obtain ⟨a0, a1, a2, a3, a4, a5, a6⟩ := HLD.out w' hS'; go_simp; try with_reducible rfl)
                  try simp only [Act.put, List.setIfInBounds_toArray, List.set_cons_zero, List.set_cons_succ]
                  refine sched_call (by rfl) (fun K hK => ?_)
                  go_simp
                  refine (l2Is_w _ _ true R1.out _).mono ?_
                  rintro e v2 ⟨rfl, hbv1⟩
                  have hv2 : Below w1.heap.size w1 v2 := hv1.trans (hbv1.mono hv1.size)
                  clear hbv1
                  refine hK _ _ hv2 ?_
                  try simp only [Act.put, List.setIfInBounds_toArray, List.set_cons_zero, List.set_cons_succ]
                  refine sched_run (v := ?_) (by rfl) ?_ ?_
                  rotate_left
                  · (intro w' hS'; go_simp; try with_reducible rfl)
                  try simp only [Act.put, List.setIfInBounds_toArray, List.set_cons_zero, List.set_cons_succ]
                  refine sched_run (v := ?_) (by rfl) ?_ ?_
                  rotate_left
                  · (intro w' hS'; go_simp; try with_reducible rfl)
                  try simp only [Act.put, List.setIfInBounds_toArray, List.set_cons_zero, List.set_cons_succ]
                  refine sched_run (v := ?_) (by rfl) ?_ ?_
                  rotate_left
                  · (intro w' hS'; go_simp; try with_reducible rfl)
                  try simp only [Act.put, List.setIfInBounds_toArray, List.set_cons_zero, List.set_cons_succ]
                  refine sched_run (v := ?_) (by rfl) ?_ ?_
                  rotate_left
                  · (intro w' hS'; go_simp; try with_reducible rfl)
                  try simp only [Act.put, List.setIfInBounds_toArray, List.set_cons_zero, List.set_cons_succ]
                  refine sched_run (v := ?_) (by rfl) ?_ ?_
                  rotate_left
                  · (intro w' hS'; go_simp; try with_reducible rfl)
                  try simp only [Act.put, List.setIfInBounds_toArray, List.set_cons_zero, List.set_cons_succ]
                  refine sched_run (v := ?_) (by rfl) ?_ ?_
                  rotate_left
                  · (intro w' hS'; obtain ⟨a0, a1, a2, a3, a4, a5, a6⟩ := HLD.out w' hS'; go_simp; try with_reducible rfl)
                  try simp only [Act.put, List.setIfInBounds_toArray, List.set_cons_zero, List.set_cons_succ]
                  refine sched_call (by rfl) (fun K hK => ?_)
                  go_simp
                  refine (l1In_w _ _ _ true R2.out _).mono ?_
                  rintro e v3 ⟨rfl, hbv2⟩
                  have hv3 : Below w1.heap.size w1 v3 := hv2.trans (hbv2.mono hv2.size)
                  clear hbv2
                  refine hK _ _ hv3 ?_
                  try simp only [Act.put, List.setIfInBounds_toArray, List.set_cons_zero, List.set_cons_succ]
                  refine sched_run (v := ?_) (by rfl) ?_ ?_
                  rotate_left
                  · (intro w' hS'; go_simp; try with_reducible rfl)
                  try simp only [Act.put, List.setIfInBounds_toArray, List.set_cons_zero, List.set_cons_succ]
                  refine sched_run (v := ?_) (by rfl) ?_ ?_
                  rotate_left
                  · (intro w' hS'; go_simp; try with_reducible rfl)
                  try simp only [Act.put, List.setIfInBounds_toArray, List.set_cons_zero, List.set_cons_succ]
                  refine sched_done ?_
                  go_wp2_with fail
                  go_ret
                  exact ⟨rfl, B1.out.trans (hv3.mono B1.out.size)⟩
          · have n6 : (o.k == 6) = false := by simpa using hk
            have m6 := hk
            clear hk
            by_cases hk : o.k = 7
            · have HK := Lib.hid hk
              rw [hk] at c0
              cases r0 : inB o.qt 1 999
              · have hF : rangeB o = false := by simp [rangeB, HQ.out, hk, r0]
                rw [hF]
                have R0 := Lib.hid r0
                clear hF hk r0
                go_enter Tryd.func61, Tryd.ntmps61
                go_wp2_with fail
                refine (l1In_w _ _ _ true HQ.out _).mono ?_
                rintro e w1 ⟨rfl, hb1⟩
                obtain ⟨hbb, c0, c1, c2, c3, c4, c5, c6⟩ := H.out.below hb1
                have B1 := Lib.hid hb1; clear hb1
                rw [HK.out] at c0
                go_wp2_with fail
                refine (l1In_w _ _ _ false R0.out _).mono ?_
                rintro e w2 ⟨rfl, hb2⟩
                have B2 := Lib.hid (B1.out.trans (hb2.mono B1.out.size)); clear hb2
                go_wp2_with fail
                go_ret
                exact ⟨rfl, B2.out⟩
              · have hF : rangeB o = true := by simp [rangeB, HQ.out, hk, r0]
                rw [hF]
                have R0 := Lib.hid r0
                clear hF hk r0
                go_enter Tryd.func61, Tryd.ntmps61
                go_wp2_with fail
                refine (l1In_w _ _ _ true HQ.out _).mono ?_
                rintro e w1 ⟨rfl, hb1⟩
                obtain ⟨hbb, c0, c1, c2, c3, c4, c5, c6⟩ := H.out.below hb1
                have B1 := Lib.hid hb1; clear hb1
                rw [HK.out] at c0
                go_wp2_with fail
                refine (l1In_w _ _ _ true R0.out _).mono ?_
                rintro e w2 ⟨rfl, hb2⟩
                have B2 := Lib.hid (B1.out.trans (hb2.mono B1.out.size)); clear hb2
                go_wp2_with fail
                go_ret
                exact ⟨rfl, B2.out⟩
            · have n7 : (o.k == 7) = false := by simpa using hk
              have m7 := hk
              clear hk
              cases r0 : inB o.hd 1 50
              · have hF : rangeB o = false := by simp [rangeB, HQ.out, m1, m2, m3, m6, m7, r0]
                rw [hF]
                have R0 := Lib.hid r0
                clear hF m1 m2 m3 m6 m7 r0
                go_enter Tryd.func61, Tryd.ntmps61
                go_wp2_with fail
                refine (l1In_w _ _ _ true HQ.out _).mono ?_
                rintro e w1 ⟨rfl, hb1⟩
                obtain ⟨hbb, c0, c1, c2, c3, c4, c5, c6⟩ := H.out.below hb1
                have B1 := Lib.hid hb1; clear hb1
                go_wp2_with fail
                refine (l1In_w _ _ _ false R0.out _).mono ?_
                rintro e w2 ⟨rfl, hb2⟩
                have B2 := Lib.hid (B1.out.trans (hb2.mono B1.out.size)); clear hb2
                go_wp2_with fail
                go_ret
                exact ⟨rfl, B2.out⟩
              · have hF : rangeB o = true := by simp [rangeB, HQ.out, m1, m2, m3, m6, m7, r0]
                rw [hF]
                have R0 := Lib.hid r0
                clear hF m1 m2 m3 m6 m7 r0
                go_enter Tryd.func61, Tryd.ntmps61
                go_wp2_with fail
                refine (l1In_w _ _ _ true HQ.out _).mono ?_
                rintro e w1 ⟨rfl, hb1⟩
                obtain ⟨hbb, c0, c1, c2, c3, c4, c5, c6⟩ := H.out.below hb1
                have B1 := Lib.hid hb1; clear hb1
                go_wp2_with fail
                refine (l1In_w _ _ _ true R0.out _).mono ?_
                rintro e w2 ⟨rfl, hb2⟩
                have B2 := Lib.hid (B1.out.trans (hb2.mono B1.out.size)); clear hb2
                go_wp2_with fail
                go_ret
                exact ⟨rfl, B2.out⟩

set_option maxRecDepth 100000 in
set_option maxHeartbeats 4000000 in
theorem l3Fault_c (b off : Nat) (o : O) (w : World) (h : OpAt w b off o) :
    Calls Tryd.prog 41 #[.pointer (some ⟨b, off, none⟩)] w fun e w' => e = .returned (.int .i64 (opF o)) ∧ Below w.heap.size w w' := by
  have H := Lib.hid h; clear h
  cases hf : formB o
  · have e : opF o = 1 := by simp [opF, hf]
    rw [e]
    have HF := Lib.hid hf; clear e hf
    go_enter Tryd.func41, Tryd.ntmps41
    go_wp2_with fail
    refine (l3Form_c b off o _ H.out).mono ?_
    rintro e w1 ⟨rfl, hb1⟩
    rw [HF.out]
    have B1 := Lib.hid hb1; clear hb1
    go_wp2_with fail
    go_ret
    exact ⟨rfl, B1.out⟩
  · cases hr : rangeB o
    · have e : opF o = 3 := by simp [opF, hf, hr]
      rw [e]
      have HF := Lib.hid hf; have HR := Lib.hid hr; clear e hf hr
      go_enter Tryd.func41, Tryd.ntmps41
      go_wp2_with fail
      refine (l3Form_c b off o _ H.out).mono ?_
      rintro e w1 ⟨rfl, hb1⟩
      rw [HF.out]
      have B1 := Lib.hid hb1; clear hb1
      go_wp2_with fail
      refine (l3Range_c b off o _ (H.out.below B1.out)).mono ?_
      rintro e w2 ⟨rfl, hb2⟩
      rw [HR.out]
      have B2 := Lib.hid (B1.out.trans (hb2.mono B1.out.size)); clear hb2
      go_wp2_with fail
      go_ret
      exact ⟨rfl, B2.out⟩
    · cases hk : (o.k == 6)
      · have hk6 : ¬ o.k = 6 := by simpa using hk
        have e : opF o = 0 := by simp [opF, hf, hr, hk6]
        rw [e]
        have HF := Lib.hid hf; have HR := Lib.hid hr; clear e hf hr hk6
        go_enter Tryd.func41, Tryd.ntmps41
        go_wp2_with fail
        refine (l3Form_c b off o _ H.out).mono ?_
        rintro e w1 ⟨rfl, hb1⟩
        rw [HF.out]
        have B1 := Lib.hid hb1; clear hb1
        go_wp2_with fail
        refine (l3Range_c b off o _ (H.out.below B1.out)).mono ?_
        rintro e w2 ⟨rfl, hb2⟩
        rw [HR.out]
        have hb2' := B1.out.trans (hb2.mono B1.out.size)
        obtain ⟨hb, c0, c1, c2, c3, c4, c5, c6⟩ := H.out.below hb2'
        have B2 := Lib.hid hb2'; clear hb2 hb2'
        go_wp2_with fail
        have hld : ∀ w', Below w2.heap.size w2 w' → w'.cell? ⟨b, off, none⟩ = some (.int .i64 o.k) ∧ w'.cell? ⟨b, off + 1, none⟩ = some (.int .i64 o.rq) ∧ w'.cell? ⟨b, off + 2, none⟩ = some (.int .i64 o.lc) ∧ w'.cell? ⟨b, off + 3, none⟩ = some (.int .i64 o.tt) ∧ w'.cell? ⟨b, off + 4, none⟩ = some (.int .i64 o.sk) ∧ w'.cell? ⟨b, off + 5, none⟩ = some (.int .i64 o.qt) ∧ w'.cell? ⟨b, off + 6, none⟩ = some (.int .i64 o.hd) := fun w' h => ⟨(h.cell (p := ⟨b, _, none⟩) hb).trans c0, (h.cell (p := ⟨b, _, none⟩) hb).trans c1, (h.cell (p := ⟨b, _, none⟩) hb).trans c2, (h.cell (p := ⟨b, _, none⟩) hb).trans c3, (h.cell (p := ⟨b, _, none⟩) hb).trans c4, (h.cell (p := ⟨b, _, none⟩) hb).trans c5, (h.cell (p := ⟨b, _, none⟩) hb).trans c6⟩
        have HLD := Lib.hid hld; clear hld
        refine wp_region_sched (fun w' => Below w2.heap.size w2 w') [(0, true), (1, true), (2, true), (3, true), (4, true), (5, true), (6, true), (7, true), (8, true), (9, true), (10, true), (11, true), (12, true), (13, true), (14, true), (15, true)] (by kernel_rfl) (by kernel_rfl) (by kernel_rfl) (by kernel_rfl) (fun _ _ d _ _ h => by cases d <;> exact h) ⟨rfl, rfl, rfl, Nat.le_refl _, fun _ _ => rfl⟩ ?_
        simp only [opsOf, List.filterMap_cons, List.filterMap_nil, Option.map_some, List.getElem?_toArray, List.getElem?_cons_zero, List.getElem?_cons_succ]
        generalize hW0 : ({ heap := w2.heap, tape := w2.tape, drawn := w2.drawn + 1, os := w2.os, output := w2.output } : World) = v0
        have hv0 : Below w2.heap.size w2 v0 := by rw [← hW0]; exact ⟨rfl, rfl, rfl, Nat.le_refl _, fun _ _ => rfl⟩
        clear hW0
        refine sched_run (v := ?_) (by rfl) ?_ ?_
        rotate_left
        · (intro w' hS'; go_simp; try with_reducible rfl)
        try simp only [Act.put, List.setIfInBounds_toArray, List.set_cons_zero, List.set_cons_succ]
        refine sched_run (v := ?_) (by rfl) ?_ ?_
        rotate_left
        · (intro w' hS'; go_simp; try with_reducible rfl)
        try simp only [Act.put, List.setIfInBounds_toArray, List.set_cons_zero, List.set_cons_succ]
        refine sched_run (v := ?_) (by rfl) ?_ ?_
        rotate_left
        · (intro w' hS'; go_simp; try with_reducible rfl)
        try simp only [Act.put, List.setIfInBounds_toArray, List.set_cons_zero, List.set_cons_succ]
        refine sched_run (v := ?_) (by rfl) ?_ ?_
        rotate_left
        · (intro w' hS'; obtain ⟨a0, a1, a2, a3, a4, a5, a6⟩ := HLD.out w' hS'; go_simp; try with_reducible rfl)
        try simp only [Act.put, List.setIfInBounds_toArray, List.set_cons_zero, List.set_cons_succ]
        refine sched_run (v := ?_) (by rfl) ?_ ?_
        rotate_left
        · (intro w' hS'; go_simp; try with_reducible rfl)
        try simp only [Act.put, List.setIfInBounds_toArray, List.set_cons_zero, List.set_cons_succ]
        refine sched_run (v := ?_) (by rfl) ?_ ?_
        rotate_left
        · (intro w' hS'; go_simp; try with_reducible rfl)
        try simp only [Act.put, List.setIfInBounds_toArray, List.set_cons_zero, List.set_cons_succ]
        refine sched_skip (by rfl) ?_
        try simp only [Act.put, List.setIfInBounds_toArray, List.set_cons_zero, List.set_cons_succ]
        refine sched_skip (by rfl) ?_
        try simp only [Act.put, List.setIfInBounds_toArray, List.set_cons_zero, List.set_cons_succ]
        refine sched_skip (by rfl) ?_
        try simp only [Act.put, List.setIfInBounds_toArray, List.set_cons_zero, List.set_cons_succ]
        refine sched_skip (by rfl) ?_
        try simp only [Act.put, List.setIfInBounds_toArray, List.set_cons_zero, List.set_cons_succ]
        refine sched_skip (by rfl) ?_
        try simp only [Act.put, List.setIfInBounds_toArray, List.set_cons_zero, List.set_cons_succ]
        refine sched_skip (by rfl) ?_
        try simp only [Act.put, List.setIfInBounds_toArray, List.set_cons_zero, List.set_cons_succ]
        refine sched_skip (by rfl) ?_
        try simp only [Act.put, List.setIfInBounds_toArray, List.set_cons_zero, List.set_cons_succ]
        refine sched_skip (by rfl) ?_
        try simp only [Act.put, List.setIfInBounds_toArray, List.set_cons_zero, List.set_cons_succ]
        refine sched_skip (by rfl) ?_
        try simp only [Act.put, List.setIfInBounds_toArray, List.set_cons_zero, List.set_cons_succ]
        refine sched_run (v := ?_) (by rfl) ?_ ?_
        rotate_left
        · (intro w' hS'; go_simp; try with_reducible rfl)
        try simp only [Act.put, List.setIfInBounds_toArray, List.set_cons_zero, List.set_cons_succ]
        refine sched_done ?_
        go_wp2_with fail
        go_ret
        exact ⟨rfl, B2.out.trans (hv0.mono B2.out.size)⟩
      · have hk6 : o.k = 6 := by simpa using hk
        cases ht : (o.tt == o.lc)
        · have ht' : ¬ o.tt = o.lc := by simpa using ht
          have e : opF o = 0 := by simp [opF, hf, hr, hk6, ht']
          rw [e]
          have HF := Lib.hid hf; have HR := Lib.hid hr; clear e hf hr hk6 ht'
          go_enter Tryd.func41, Tryd.ntmps41
          go_wp2_with fail
          refine (l3Form_c b off o _ H.out).mono ?_
          rintro e w1 ⟨rfl, hb1⟩
          rw [HF.out]
          have B1 := Lib.hid hb1; clear hb1
          go_wp2_with fail
          refine (l3Range_c b off o _ (H.out.below B1.out)).mono ?_
          rintro e w2 ⟨rfl, hb2⟩
          rw [HR.out]
          have hb2' := B1.out.trans (hb2.mono B1.out.size)
          obtain ⟨hb, c0, c1, c2, c3, c4, c5, c6⟩ := H.out.below hb2'
          have B2 := Lib.hid hb2'; clear hb2 hb2'
          go_wp2_with fail
          have hld : ∀ w', Below w2.heap.size w2 w' → w'.cell? ⟨b, off, none⟩ = some (.int .i64 o.k) ∧ w'.cell? ⟨b, off + 1, none⟩ = some (.int .i64 o.rq) ∧ w'.cell? ⟨b, off + 2, none⟩ = some (.int .i64 o.lc) ∧ w'.cell? ⟨b, off + 3, none⟩ = some (.int .i64 o.tt) ∧ w'.cell? ⟨b, off + 4, none⟩ = some (.int .i64 o.sk) ∧ w'.cell? ⟨b, off + 5, none⟩ = some (.int .i64 o.qt) ∧ w'.cell? ⟨b, off + 6, none⟩ = some (.int .i64 o.hd) := fun w' h => ⟨(h.cell (p := ⟨b, _, none⟩) hb).trans c0, (h.cell (p := ⟨b, _, none⟩) hb).trans c1, (h.cell (p := ⟨b, _, none⟩) hb).trans c2, (h.cell (p := ⟨b, _, none⟩) hb).trans c3, (h.cell (p := ⟨b, _, none⟩) hb).trans c4, (h.cell (p := ⟨b, _, none⟩) hb).trans c5, (h.cell (p := ⟨b, _, none⟩) hb).trans c6⟩
          have HLD := Lib.hid hld; clear hld
          refine wp_region_sched (fun w' => Below w2.heap.size w2 w') [(0, true), (1, true), (2, true), (3, true), (4, true), (5, true), (6, true), (7, true), (8, true), (9, true), (10, true), (11, true), (12, true), (13, true), (14, true), (15, true)] (by kernel_rfl) (by kernel_rfl) (by kernel_rfl) (by kernel_rfl) (fun _ _ d _ _ h => by cases d <;> exact h) ⟨rfl, rfl, rfl, Nat.le_refl _, fun _ _ => rfl⟩ ?_
          simp only [opsOf, List.filterMap_cons, List.filterMap_nil, Option.map_some, List.getElem?_toArray, List.getElem?_cons_zero, List.getElem?_cons_succ]
          generalize hW0 : ({ heap := w2.heap, tape := w2.tape, drawn := w2.drawn + 1, os := w2.os, output := w2.output } : World) = v0
          have hv0 : Below w2.heap.size w2 v0 := by rw [← hW0]; exact ⟨rfl, rfl, rfl, Nat.le_refl _, fun _ _ => rfl⟩
          clear hW0
          refine sched_run (v := ?_) (by rfl) ?_ ?_
          rotate_left
          · (intro w' hS'; go_simp; try with_reducible rfl)
          try simp only [Act.put, List.setIfInBounds_toArray, List.set_cons_zero, List.set_cons_succ]
          refine sched_run (v := ?_) (by rfl) ?_ ?_
          rotate_left
          · (intro w' hS'; go_simp; try with_reducible rfl)
          try simp only [Act.put, List.setIfInBounds_toArray, List.set_cons_zero, List.set_cons_succ]
          refine sched_run (v := ?_) (by rfl) ?_ ?_
          rotate_left
          · (intro w' hS'; go_simp; try with_reducible rfl)
          try simp only [Act.put, List.setIfInBounds_toArray, List.set_cons_zero, List.set_cons_succ]
          refine sched_run (v := ?_) (by rfl) ?_ ?_
          rotate_left
          · (intro w' hS'; obtain ⟨a0, a1, a2, a3, a4, a5, a6⟩ := HLD.out w' hS'; go_simp; try with_reducible rfl)
          try simp only [Act.put, List.setIfInBounds_toArray, List.set_cons_zero, List.set_cons_succ]
          refine sched_run (v := ?_) (by rfl) ?_ ?_
          rotate_left
          · (intro w' hS'; go_simp; try with_reducible rfl)
          try simp only [Act.put, List.setIfInBounds_toArray, List.set_cons_zero, List.set_cons_succ]
          refine sched_run (v := ?_) (by rfl) ?_ ?_
          rotate_left
          · (intro w' hS'; go_simp; try with_reducible rfl)
          try simp only [Act.put, List.setIfInBounds_toArray, List.set_cons_zero, List.set_cons_succ]
          refine sched_run (v := ?_) (by rfl) ?_ ?_
          rotate_left
          · (intro w' hS'; go_simp; try with_reducible rfl)
          try simp only [Act.put, List.setIfInBounds_toArray, List.set_cons_zero, List.set_cons_succ]
          refine sched_run (v := ?_) (by rfl) ?_ ?_
          rotate_left
          · (intro w' hS'; go_simp; try with_reducible rfl)
          try simp only [Act.put, List.setIfInBounds_toArray, List.set_cons_zero, List.set_cons_succ]
          refine sched_run (v := ?_) (by rfl) ?_ ?_
          rotate_left
          · (intro w' hS'; go_simp; try with_reducible rfl)
          try simp only [Act.put, List.setIfInBounds_toArray, List.set_cons_zero, List.set_cons_succ]
          refine sched_run (v := ?_) (by rfl) ?_ ?_
          rotate_left
          · (intro w' hS'; obtain ⟨a0, a1, a2, a3, a4, a5, a6⟩ := HLD.out w' hS'; go_simp; try with_reducible rfl)
          try simp only [Act.put, List.setIfInBounds_toArray, List.set_cons_zero, List.set_cons_succ]
          refine sched_run (v := ?_) (by rfl) ?_ ?_
          rotate_left
          · (intro w' hS'; go_simp; try with_reducible rfl)
          try simp only [Act.put, List.setIfInBounds_toArray, List.set_cons_zero, List.set_cons_succ]
          refine sched_run (v := ?_) (by rfl) ?_ ?_
          rotate_left
          · (intro w' hS'; go_simp; try with_reducible rfl)
          try simp only [Act.put, List.setIfInBounds_toArray, List.set_cons_zero, List.set_cons_succ]
          refine sched_run (v := ?_) (by rfl) ?_ ?_
          rotate_left
          · (intro w' hS'; go_simp; try with_reducible rfl)
          try simp only [Act.put, List.setIfInBounds_toArray, List.set_cons_zero, List.set_cons_succ]
          refine sched_run (v := ?_) (by rfl) ?_ ?_
          rotate_left
          · (intro w' hS'; obtain ⟨a0, a1, a2, a3, a4, a5, a6⟩ := HLD.out w' hS'; go_simp; try with_reducible rfl)
          try simp only [Act.put, List.setIfInBounds_toArray, List.set_cons_zero, List.set_cons_succ]
          refine sched_run (v := ?_) (by rfl) ?_ ?_
          rotate_left
          · (intro w' hS'; go_simp; try with_reducible rfl)
          try simp only [Act.put, List.setIfInBounds_toArray, List.set_cons_zero, List.set_cons_succ]
          refine sched_run (v := ?_) (by rfl) ?_ ?_
          rotate_left
          · (intro w' hS'; go_simp; try with_reducible rfl)
          try simp only [Act.put, List.setIfInBounds_toArray, List.set_cons_zero, List.set_cons_succ]
          refine sched_done ?_
          go_wp2_with fail
          go_ret
          exact ⟨rfl, B2.out.trans (hv0.mono B2.out.size)⟩
        · have ht' : o.tt = o.lc := by simpa using ht
          have e : opF o = 6 := by simp [opF, hf, hr, hk6, ht']
          rw [e]
          have HF := Lib.hid hf; have HR := Lib.hid hr; clear e hf hr hk6 ht'
          go_enter Tryd.func41, Tryd.ntmps41
          go_wp2_with fail
          refine (l3Form_c b off o _ H.out).mono ?_
          rintro e w1 ⟨rfl, hb1⟩
          rw [HF.out]
          have B1 := Lib.hid hb1; clear hb1
          go_wp2_with fail
          refine (l3Range_c b off o _ (H.out.below B1.out)).mono ?_
          rintro e w2 ⟨rfl, hb2⟩
          rw [HR.out]
          have hb2' := B1.out.trans (hb2.mono B1.out.size)
          obtain ⟨hb, c0, c1, c2, c3, c4, c5, c6⟩ := H.out.below hb2'
          have B2 := Lib.hid hb2'; clear hb2 hb2'
          go_wp2_with fail
          have hld : ∀ w', Below w2.heap.size w2 w' → w'.cell? ⟨b, off, none⟩ = some (.int .i64 o.k) ∧ w'.cell? ⟨b, off + 1, none⟩ = some (.int .i64 o.rq) ∧ w'.cell? ⟨b, off + 2, none⟩ = some (.int .i64 o.lc) ∧ w'.cell? ⟨b, off + 3, none⟩ = some (.int .i64 o.tt) ∧ w'.cell? ⟨b, off + 4, none⟩ = some (.int .i64 o.sk) ∧ w'.cell? ⟨b, off + 5, none⟩ = some (.int .i64 o.qt) ∧ w'.cell? ⟨b, off + 6, none⟩ = some (.int .i64 o.hd) := fun w' h => ⟨(h.cell (p := ⟨b, _, none⟩) hb).trans c0, (h.cell (p := ⟨b, _, none⟩) hb).trans c1, (h.cell (p := ⟨b, _, none⟩) hb).trans c2, (h.cell (p := ⟨b, _, none⟩) hb).trans c3, (h.cell (p := ⟨b, _, none⟩) hb).trans c4, (h.cell (p := ⟨b, _, none⟩) hb).trans c5, (h.cell (p := ⟨b, _, none⟩) hb).trans c6⟩
          have HLD := Lib.hid hld; clear hld
          refine wp_region_sched (fun w' => Below w2.heap.size w2 w') [(0, true), (1, true), (2, true), (3, true), (4, true), (5, true), (6, true), (7, true), (8, true), (9, true), (10, true), (11, true), (12, true), (13, true), (14, true), (15, true)] (by kernel_rfl) (by kernel_rfl) (by kernel_rfl) (by kernel_rfl) (fun _ _ d _ _ h => by cases d <;> exact h) ⟨rfl, rfl, rfl, Nat.le_refl _, fun _ _ => rfl⟩ ?_
          simp only [opsOf, List.filterMap_cons, List.filterMap_nil, Option.map_some, List.getElem?_toArray, List.getElem?_cons_zero, List.getElem?_cons_succ]
          generalize hW0 : ({ heap := w2.heap, tape := w2.tape, drawn := w2.drawn + 1, os := w2.os, output := w2.output } : World) = v0
          have hv0 : Below w2.heap.size w2 v0 := by rw [← hW0]; exact ⟨rfl, rfl, rfl, Nat.le_refl _, fun _ _ => rfl⟩
          clear hW0
          refine sched_run (v := ?_) (by rfl) ?_ ?_
          rotate_left
          · (intro w' hS'; go_simp; try with_reducible rfl)
          try simp only [Act.put, List.setIfInBounds_toArray, List.set_cons_zero, List.set_cons_succ]
          refine sched_run (v := ?_) (by rfl) ?_ ?_
          rotate_left
          · (intro w' hS'; go_simp; try with_reducible rfl)
          try simp only [Act.put, List.setIfInBounds_toArray, List.set_cons_zero, List.set_cons_succ]
          refine sched_run (v := ?_) (by rfl) ?_ ?_
          rotate_left
          · (intro w' hS'; go_simp; try with_reducible rfl)
          try simp only [Act.put, List.setIfInBounds_toArray, List.set_cons_zero, List.set_cons_succ]
          refine sched_run (v := ?_) (by rfl) ?_ ?_
          rotate_left
          · (intro w' hS'; obtain ⟨a0, a1, a2, a3, a4, a5, a6⟩ := HLD.out w' hS'; go_simp; try with_reducible rfl)
          try simp only [Act.put, List.setIfInBounds_toArray, List.set_cons_zero, List.set_cons_succ]
          refine sched_run (v := ?_) (by rfl) ?_ ?_
          rotate_left
          · (intro w' hS'; go_simp; try with_reducible rfl)
          try simp only [Act.put, List.setIfInBounds_toArray, List.set_cons_zero, List.set_cons_succ]
          refine sched_run (v := ?_) (by rfl) ?_ ?_
          rotate_left
          · (intro w' hS'; go_simp; try with_reducible rfl)
          try simp only [Act.put, List.setIfInBounds_toArray, List.set_cons_zero, List.set_cons_succ]
          refine sched_run (v := ?_) (by rfl) ?_ ?_
          rotate_left
          · (intro w' hS'; go_simp; try with_reducible rfl)
          try simp only [Act.put, List.setIfInBounds_toArray, List.set_cons_zero, List.set_cons_succ]
          refine sched_run (v := ?_) (by rfl) ?_ ?_
          rotate_left
          · (intro w' hS'; go_simp; try with_reducible rfl)
          try simp only [Act.put, List.setIfInBounds_toArray, List.set_cons_zero, List.set_cons_succ]
          refine sched_run (v := ?_) (by rfl) ?_ ?_
          rotate_left
          · (intro w' hS'; go_simp; try with_reducible rfl)
          try simp only [Act.put, List.setIfInBounds_toArray, List.set_cons_zero, List.set_cons_succ]
          refine sched_run (v := ?_) (by rfl) ?_ ?_
          rotate_left
          · (intro w' hS'; obtain ⟨a0, a1, a2, a3, a4, a5, a6⟩ := HLD.out w' hS'; go_simp; try with_reducible rfl)
          try simp only [Act.put, List.setIfInBounds_toArray, List.set_cons_zero, List.set_cons_succ]
          refine sched_run (v := ?_) (by rfl) ?_ ?_
          rotate_left
          · (intro w' hS'; go_simp; try with_reducible rfl)
          try simp only [Act.put, List.setIfInBounds_toArray, List.set_cons_zero, List.set_cons_succ]
          refine sched_run (v := ?_) (by rfl) ?_ ?_
          rotate_left
          · (intro w' hS'; go_simp; try with_reducible rfl)
          try simp only [Act.put, List.setIfInBounds_toArray, List.set_cons_zero, List.set_cons_succ]
          refine sched_run (v := ?_) (by rfl) ?_ ?_
          rotate_left
          · (intro w' hS'; go_simp; try with_reducible rfl)
          try simp only [Act.put, List.setIfInBounds_toArray, List.set_cons_zero, List.set_cons_succ]
          refine sched_run (v := ?_) (by rfl) ?_ ?_
          rotate_left
          · (intro w' hS'; obtain ⟨a0, a1, a2, a3, a4, a5, a6⟩ := HLD.out w' hS'; go_simp; try with_reducible rfl)
          try simp only [Act.put, List.setIfInBounds_toArray, List.set_cons_zero, List.set_cons_succ]
          refine sched_run (v := ?_) (by rfl) ?_ ?_
          rotate_left
          · (intro w' hS'; go_simp; try with_reducible rfl)
          try simp only [Act.put, List.setIfInBounds_toArray, List.set_cons_zero, List.set_cons_succ]
          refine sched_run (v := ?_) (by rfl) ?_ ?_
          rotate_left
          · (intro w' hS'; go_simp; try with_reducible rfl)
          try simp only [Act.put, List.setIfInBounds_toArray, List.set_cons_zero, List.set_cons_succ]
          refine sched_done ?_
          go_wp2_with fail
          go_ret
          exact ⟨rfl, B2.out.trans (hv0.mono B2.out.size)⟩

end Go.Proofs.YtocllaendofndaaDoor
