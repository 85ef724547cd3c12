/-
  The model's functions of chapter 7, first part: the faults of parts. By a maker (gen7.py).
-/
import Derived.Test.YtldimfmhbdhbnaaGreatG43
import Derived.Test.YtldimfmhbdhbnaaGreatG21
import Derived.Test.YtldimfmhbdhbnaaGreatG11
import Derived.Test.YtldimfmhbdhbnaaGreatG23
import Derived.Test.YtldimfmhbdhbnaaGreatG49
import Derived.Test.YtldimfmhbdhbnaaGreatG27
namespace Go.Proofs.YtldimfmhbdhbnaaGreat
open Go.RowKit

theorem l7Part_q (l s Q : Int) (hQ : partI l s = Q) (w : World) (hf : 0 ≤ l ∧ l ≤ 3 ∧ 1 ≤ s ∧ s ≤ 20) :
    Calls Tryz.prog 72 #[.int .i64 l, .int .i64 s] w fun e w' => e = .returned (.int .i64 Q) ∧ Below w.heap.size w w' := by
  subst hQ
  exact l7Part_c l s w hf.1 hf.2.1 hf.2.2.1 hf.2.2.2
theorem l6Nothing_b (b off : Nat) (r : R) (v : Bool) (hv : emptyB r = v) (w : World) (h : RowAt w b off r) :
    Calls Tryz.prog 92 #[.pointer (some ⟨b, off, none⟩)] w fun e w' => e = .returned (.bool v) ∧ Below w.heap.size w w' := by
  subst hv
  exact (l6Nothing_c b off r w h).mono fun e w' ⟨he, hw⟩ => ⟨he, hw ▸ Below.refl _ _⟩

set_option maxRecDepth 100000 in
set_option maxHeartbeats 4000000 in
theorem l7One_c (g o : Nat) (A : Option Addr) (c : Nat) (p : Pt) (at_ : Int) (w : World) (fp : List Nat) (hg0 : w.cell? ⟨g, o, none⟩ = some (.slice A p.rows.length c)) (hg1 : w.cell? ⟨g, o + 1, none⟩ = some (.int .i64 p.mark)) (hgz : g < w.heap.size)
    (ha : Rd w 4 (.slice A p.rows.length c) (rcs p.rows) fp) :
    Calls Tryz.prog 82 #[.pointer (some ⟨g, o, none⟩), .int .i64 at_] w fun e w' => e = .returned (.int .i64 (partF p at_)) ∧ Below w.heap.size w w' := by
  obtain ⟨rs, m⟩ := p
  simp only at hg0 hg1 ha
  have hmax := ha.len_le
  have HA := Lib.hid ha
  clear ha
  cases h2 : inB m 0 999
  case false =>
    rw [partF_mark (p := ⟨rs, m⟩) h2]
    have H2 := Lib.hid h2; clear h2
    go_enter Tryz.func82, Tryz.ntmps82
    go_wp2_with fail
    refine (l1In_c m 0 999 _).mono ?_
    rw [H2.out]
    rintro e w' ⟨rfl, hw⟩
    subst hw
    go_wp2
    go_ret
    exact ⟨rfl, Below.refl _ _⟩
  rw [partF_rows (p := ⟨rs, m⟩) h2]
  have H2 := Lib.hid h2; clear h2
  by_cases h0 : rowsF rs = 0
  case neg =>
    rw [fitF_rows h0]
    generalize hr : rowsF rs = V at h0
    have HR := Lib.hid hr; clear hr
    have t1 : (V != 0) = true := by simpa using h0
    go_enter Tryz.func82, Tryz.ntmps82
    go_wp2_with fail
    refine (l1In_c m 0 999 _).mono ?_
    rw [H2.out]
    rintro e w' ⟨rfl, hw⟩
    subst hw
    go_wp2_with fail
    refine (l2Fault_c A c rs _ fp HA.out).mono ?_
    rintro e w2 ⟨rfl, hw⟩
    rw [HR.out]
    have HW : Hid (Qt w w2) := hw
    clear hw
    go_wp2
    go_ret
    exact ⟨rfl, HW.out.below⟩
  rw [fitF_rest h0]
  generalize hV : restQ (fitB at_) rs 0 = V
  have HV := Lib.hid hV; clear hV
  have HFT := Lib.hid (rowsF_fits h0).1
  have H0 := Lib.hid h0; clear h0
  go_enter Tryz.func82, Tryz.ntmps82
  go_wp2_with fail
  refine (l1In_c m 0 999 _).mono ?_
  rw [H2.out]
  rintro e w' ⟨rfl, hw⟩
  subst hw
  go_wp2_with fail
  refine (l2Fault_c A c rs _ fp HA.out).mono ?_
  rintro e w2 ⟨rfl, hw⟩
  rw [H0.out]
  have HQ0 : Hid (Qt w w2) := hw
  clear hw
  have HB := Lib.hid HQ0.out.below
  go_wp2_with fail
  go_loopw [6] (fun i wr => ∃ k : Nat, k ≤ rs.length ∧ i = .int .i64 k ∧ Hid (Below w.heap.size w wr) ∧ Hid (restQ (fitB at_) rs k = V)) (fun i _ => rs.length - (intOf i).toNat)
  case atStart => exact ⟨0, Nat.zero_le _, rfl, HB, HV⟩
  case round =>
    clear HB HV HQ0
    obtain ⟨k, hk, rfl, HB, HRS⟩ := hrel
    have g0 := (HB.out.cell (p := ⟨g, o, none⟩) hgz).trans hg0
    have gz := Nat.lt_of_lt_of_le hgz HB.out.size
    by_cases hlt : k < rs.length
    · obtain ⟨b, off, rfl, _, hbl, p0, p1, p2, p3⟩ := (HA.out.below' HB.out).row_at hlt
      have hok := @restQ_ok (fitB at_) rs k hlt
      have hbad := @restQ_bad (fitB at_) rs k hlt
      have hf := HFT.out k hlt
      generalize rs[k] = r at *
      have HF : Hid (0 ≤ r.1 ∧ r.1 ≤ 3 ∧ 1 ≤ r.2.1 ∧ r.2.1 ≤ 20) := hf
      have HOK := Lib.hid hok; have HBAD := Lib.hid hbad
      clear hok hbad hf hg0 hg1
      obtain ⟨Q, hq⟩ : ∃ Q, Q = rpart r := ⟨_, rfl⟩
      have HQ : Hid (partI r.1 r.2.1 = Q) := hq.symm
      have HQR := Lib.hid hq; clear hq
      have hi0 : (0 : Int) ≤ (k : Int) := by omega
      have hi1 : (k : Int) < (rs.length : Int) := by omega
      generalize hn : rs.length = n at *
      have HN := Lib.hid hn; clear hn
      by_cases h1 : Q = at_
      case neg =>
        have hfb : fitB at_ r = false := by unfold fitB; rw [← HQR.out]; simp [h1]
        have hs2 : V = 1 := HRS.out.symm.trans (HBAD.out hfb)
        have HS := Lib.hid hs2
        have t1 : (Q != at_) = true := by simpa using h1
        clear hs2 hfb h1
        go_wp2_with fail
        have hld : ∀ w', Below wr.heap.size wr w' → w'.cell? ⟨g, o, none⟩ = some (.slice (some ⟨b, off, none⟩) n c) ∧ w'.cell? ⟨b, off + k * 4, none⟩ = some (.int .i64 r.1) ∧ w'.cell? ⟨b, off + k * 4 + 1, none⟩ = some (.int .i64 r.2.1) ∧ w'.cell? ⟨b, off + k * 4 + 2, none⟩ = some (.int .i64 r.2.2.1) ∧ w'.cell? ⟨b, off + k * 4 + 3, none⟩ = some (.int .i64 r.2.2.2) := fun w' h => ⟨(h.cell (p := ⟨g, o, none⟩) gz).trans g0, (h.cell (p := ⟨b, off + k * 4, none⟩) hbl).trans p0, (h.cell (p := ⟨b, off + k * 4 + 1, none⟩) hbl).trans p1, (h.cell (p := ⟨b, off + k * 4 + 2, none⟩) hbl).trans p2, (h.cell (p := ⟨b, off + k * 4 + 3, none⟩) hbl).trans p3⟩
        have HLD := Lib.hid hld; clear hld
        refine wp_region_sched (fun w' => Below wr.heap.size wr w') [(0, true), (1, true), (2, true), (3, true), (4, true), (5, true), (6, true), (7, true), (8, true), (9, true), (10, true), (11, true), (12, true), (13, true), (14, true), (15, true), (17, true), (16, false), (18, true), (19, true), (20, true), (21, true), (22, true), (23, true), (24, true), (25, true), (26, false), (27, true)] (by kernel_rfl) (by kernel_rfl) (by kernel_rfl) (by kernel_rfl) (fun _ _ d _ _ h => by cases d <;> exact h) ⟨rfl, rfl, rfl, Nat.le_refl _, fun _ _ => rfl⟩ ?_
        simp only [opsOf, List.filterMap_cons, List.filterMap_nil, Option.map_some, List.getElem?_toArray, List.getElem?_cons_zero, List.getElem?_cons_succ]
        generalize hW0 : ({ heap := wr.heap, tape := wr.tape, drawn := wr.drawn + 1, os := wr.os, output := wr.output } : World) = v0
        have hv0 : Below wr.heap.size wr v0 := by rw [← hW0]; exact ⟨rfl, rfl, rfl, Nat.le_refl _, fun _ _ => rfl⟩
        clear hW0
        refine sched_run (v := ?_) (by rfl) ?_ ?_
        rotate_left
        · (intro w' hS'; go_simp; try with_reducible rfl)
        try simp only [Act.put, List.setIfInBounds_toArray, List.set_cons_zero, List.set_cons_succ]
        refine sched_run (v := ?_) (by rfl) ?_ ?_
        rotate_left
        · (intro w' hS'; go_simp; try with_reducible rfl)
        try simp only [Act.put, List.setIfInBounds_toArray, List.set_cons_zero, List.set_cons_succ]
        refine sched_run (v := ?_) (by rfl) ?_ ?_
        rotate_left
        · (intro w' hS'; go_simp; try with_reducible rfl)
        try simp only [Act.put, List.setIfInBounds_toArray, List.set_cons_zero, List.set_cons_succ]
        refine sched_run (v := ?_) (by rfl) ?_ ?_
        rotate_left
        · (intro w' hS'; obtain ⟨g0, r0, r1, r2, r3⟩ := HLD.out w' hS'; go_simp; try with_reducible rfl)
        try simp only [Act.put, List.setIfInBounds_toArray, List.set_cons_zero, List.set_cons_succ]
        refine sched_run (v := ?_) (by rfl) ?_ ?_
        rotate_left
        · (intro w' hS'; go_simp; try with_reducible rfl)
        try simp only [Act.put, List.setIfInBounds_toArray, List.set_cons_zero, List.set_cons_succ]
        refine sched_run (v := ?_) (by rfl) ?_ ?_
        rotate_left
        · (intro w' hS'; go_simp; try with_reducible rfl)
        try simp only [Act.put, List.setIfInBounds_toArray, List.set_cons_zero, List.set_cons_succ]
        refine sched_run (v := ?_) (by rfl) ?_ ?_
        rotate_left
        · (intro w' hS'; go_simp; try with_reducible rfl)
        try simp only [Act.put, List.setIfInBounds_toArray, List.set_cons_zero, List.set_cons_succ]
        refine sched_run (v := ?_) (by rfl) ?_ ?_
        rotate_left
        · (intro w' hS'; obtain ⟨g0, r0, r1, r2, r3⟩ := HLD.out w' hS'; go_simp; try with_reducible rfl)
        try simp only [Act.put, List.setIfInBounds_toArray, List.set_cons_zero, List.set_cons_succ]
        refine sched_run (v := ?_) (by rfl) ?_ ?_
        rotate_left
        · (intro w' hS'; go_simp; try with_reducible rfl)
        try simp only [Act.put, List.setIfInBounds_toArray, List.set_cons_zero, List.set_cons_succ]
        refine sched_run (v := ?_) (by rfl) ?_ ?_
        rotate_left
        · (intro w' hS'; go_simp; try with_reducible rfl)
        try simp only [Act.put, List.setIfInBounds_toArray, List.set_cons_zero, List.set_cons_succ]
        refine sched_run (v := ?_) (by rfl) ?_ ?_
        rotate_left
        · (intro w' hS'; go_simp; try with_reducible rfl)
        try simp only [Act.put, List.setIfInBounds_toArray, List.set_cons_zero, List.set_cons_succ]
        refine sched_run (v := ?_) (by rfl) ?_ ?_
        rotate_left
        · (intro w' hS'; obtain ⟨g0, r0, r1, r2, r3⟩ := HLD.out w' hS'; go_simp; try with_reducible rfl)
        try simp only [Act.put, List.setIfInBounds_toArray, List.set_cons_zero, List.set_cons_succ]
        refine sched_run (v := ?_) (by rfl) ?_ ?_
        rotate_left
        · (intro w' hS'; go_simp; try with_reducible rfl)
        try simp only [Act.put, List.setIfInBounds_toArray, List.set_cons_zero, List.set_cons_succ]
        refine sched_run (v := ?_) (by rfl) ?_ ?_
        rotate_left
        · (intro w' hS'; go_simp; try with_reducible rfl)
        try simp only [Act.put, List.setIfInBounds_toArray, List.set_cons_zero, List.set_cons_succ]
        refine sched_run (v := ?_) (by rfl) ?_ ?_
        rotate_left
        · (intro w' hS'; go_simp; try with_reducible rfl)
        try simp only [Act.put, List.setIfInBounds_toArray, List.set_cons_zero, List.set_cons_succ]
        refine sched_run (v := ?_) (by rfl) ?_ ?_
        rotate_left
        · (intro w' hS'; obtain ⟨g0, r0, r1, r2, r3⟩ := HLD.out w' hS'; go_simp; try with_reducible rfl)
        try simp only [Act.put, List.setIfInBounds_toArray, List.set_cons_zero, List.set_cons_succ]
        refine sched_run (v := ?_) (by rfl) ?_ ?_
        rotate_left
        · (intro w' hS'; go_simp; try with_reducible rfl)
        try simp only [Act.put, List.setIfInBounds_toArray, List.set_cons_zero, List.set_cons_succ]
        refine sched_call (by rfl) (fun K hK => ?_)
        go_simp
        refine (l7Part_q r.1 r.2.1 Q HQ.out _ HF.out).mono ?_
        rintro e v1 ⟨rfl, hbv0⟩
        have hv1 : Below wr.heap.size wr v1 := hv0.trans (hbv0.mono hv0.size)
        clear hbv0
        refine hK _ _ hv1 ?_
        try simp only [Act.put, List.setIfInBounds_toArray, List.set_cons_zero, List.set_cons_succ]
        refine sched_run (v := ?_) (by rfl) ?_ ?_
        rotate_left
        · (intro w' hS'; go_simp; try with_reducible rfl)
        try simp only [Act.put, List.setIfInBounds_toArray, List.set_cons_zero, List.set_cons_succ]
        refine sched_run (v := ?_) (by rfl) ?_ ?_
        rotate_left
        · (intro w' hS'; go_simp; try with_reducible rfl)
        try simp only [Act.put, List.setIfInBounds_toArray, List.set_cons_zero, List.set_cons_succ]
        refine sched_skip (by rfl) ?_
        try simp only [Act.put, List.setIfInBounds_toArray, List.set_cons_zero, List.set_cons_succ]
        refine sched_skip (by rfl) ?_
        try simp only [Act.put, List.setIfInBounds_toArray, List.set_cons_zero, List.set_cons_succ]
        refine sched_skip (by rfl) ?_
        try simp only [Act.put, List.setIfInBounds_toArray, List.set_cons_zero, List.set_cons_succ]
        refine sched_skip (by rfl) ?_
        try simp only [Act.put, List.setIfInBounds_toArray, List.set_cons_zero, List.set_cons_succ]
        refine sched_skip (by rfl) ?_
        try simp only [Act.put, List.setIfInBounds_toArray, List.set_cons_zero, List.set_cons_succ]
        refine sched_skip (by rfl) ?_
        try simp only [Act.put, List.setIfInBounds_toArray, List.set_cons_zero, List.set_cons_succ]
        refine sched_skip' (by rfl) ?_
        try simp only [Act.put, List.setIfInBounds_toArray, List.set_cons_zero, List.set_cons_succ]
        refine sched_run (v := ?_) (by rfl) ?_ ?_
        rotate_left
        · (intro w' hS'; go_simp; try with_reducible rfl)
        try simp only [Act.put, List.setIfInBounds_toArray, List.set_cons_zero, List.set_cons_succ]
        refine sched_done ?_
        go_wp2_with fail
        go_ret
        exact ⟨congrArg (fun z => Ending.returned (Value.int .i64 z)) HS.out.symm, HB.out.trans (hv1.mono HB.out.size)⟩
      have t1 : (Q != at_) = false := by simpa using h1
      cases he : emptyB r
      all_goals
        have HE := Lib.hid he
      · have hfb : fitB at_ r = true := fitB_true.2 ⟨by rw [← HQR.out]; exact h1, he⟩
        have hs2 : restQ (fitB at_) rs (k + 1) = V := (HOK.out hfb).symm.trans HRS.out
        have HS := Lib.hid hs2
        clear hs2 hfb h1 he
        go_wp2_with fail
        have hld : ∀ w', Below wr.heap.size wr w' → w'.cell? ⟨g, o, none⟩ = some (.slice (some ⟨b, off, none⟩) n c) ∧ w'.cell? ⟨b, off + k * 4, none⟩ = some (.int .i64 r.1) ∧ w'.cell? ⟨b, off + k * 4 + 1, none⟩ = some (.int .i64 r.2.1) ∧ w'.cell? ⟨b, off + k * 4 + 2, none⟩ = some (.int .i64 r.2.2.1) ∧ w'.cell? ⟨b, off + k * 4 + 3, none⟩ = some (.int .i64 r.2.2.2) := fun w' h => ⟨(h.cell (p := ⟨g, o, none⟩) gz).trans g0, (h.cell (p := ⟨b, off + k * 4, none⟩) hbl).trans p0, (h.cell (p := ⟨b, off + k * 4 + 1, none⟩) hbl).trans p1, (h.cell (p := ⟨b, off + k * 4 + 2, none⟩) hbl).trans p2, (h.cell (p := ⟨b, off + k * 4 + 3, none⟩) hbl).trans p3⟩
        have HLD := Lib.hid hld; clear hld
        refine wp_region_sched (fun w' => Below wr.heap.size wr w') [(0, true), (1, true), (2, true), (3, true), (4, true), (5, true), (6, true), (7, true), (8, true), (9, true), (10, true), (11, true), (12, true), (13, true), (14, true), (15, true), (17, true), (16, false), (18, true), (19, true), (20, true), (21, true), (22, true), (23, true), (24, true), (25, true), (26, false), (27, true)] (by kernel_rfl) (by kernel_rfl) (by kernel_rfl) (by kernel_rfl) (fun _ _ d _ _ h => by cases d <;> exact h) ⟨rfl, rfl, rfl, Nat.le_refl _, fun _ _ => rfl⟩ ?_
        simp only [opsOf, List.filterMap_cons, List.filterMap_nil, Option.map_some, List.getElem?_toArray, List.getElem?_cons_zero, List.getElem?_cons_succ]
        generalize hW0 : ({ heap := wr.heap, tape := wr.tape, drawn := wr.drawn + 1, os := wr.os, output := wr.output } : World) = v0
        have hv0 : Below wr.heap.size wr v0 := by rw [← hW0]; exact ⟨rfl, rfl, rfl, Nat.le_refl _, fun _ _ => rfl⟩
        clear hW0
        refine sched_run (v := ?_) (by rfl) ?_ ?_
        rotate_left
        · (intro w' hS'; go_simp; try with_reducible rfl)
        try simp only [Act.put, List.setIfInBounds_toArray, List.set_cons_zero, List.set_cons_succ]
        refine sched_run (v := ?_) (by rfl) ?_ ?_
        rotate_left
        · (intro w' hS'; go_simp; try with_reducible rfl)
        try simp only [Act.put, List.setIfInBounds_toArray, List.set_cons_zero, List.set_cons_succ]
        refine sched_run (v := ?_) (by rfl) ?_ ?_
        rotate_left
        · (intro w' hS'; go_simp; try with_reducible rfl)
        try simp only [Act.put, List.setIfInBounds_toArray, List.set_cons_zero, List.set_cons_succ]
        refine sched_run (v := ?_) (by rfl) ?_ ?_
        rotate_left
        · (intro w' hS'; obtain ⟨g0, r0, r1, r2, r3⟩ := HLD.out w' hS'; go_simp; try with_reducible rfl)
        try simp only [Act.put, List.setIfInBounds_toArray, List.set_cons_zero, List.set_cons_succ]
        refine sched_run (v := ?_) (by rfl) ?_ ?_
        rotate_left
        · (intro w' hS'; go_simp; try with_reducible rfl)
        try simp only [Act.put, List.setIfInBounds_toArray, List.set_cons_zero, List.set_cons_succ]
        refine sched_run (v := ?_) (by rfl) ?_ ?_
        rotate_left
        · (intro w' hS'; go_simp; try with_reducible rfl)
        try simp only [Act.put, List.setIfInBounds_toArray, List.set_cons_zero, List.set_cons_succ]
        refine sched_run (v := ?_) (by rfl) ?_ ?_
        rotate_left
        · (intro w' hS'; go_simp; try with_reducible rfl)
        try simp only [Act.put, List.setIfInBounds_toArray, List.set_cons_zero, List.set_cons_succ]
        refine sched_run (v := ?_) (by rfl) ?_ ?_
        rotate_left
        · (intro w' hS'; obtain ⟨g0, r0, r1, r2, r3⟩ := HLD.out w' hS'; go_simp; try with_reducible rfl)
        try simp only [Act.put, List.setIfInBounds_toArray, List.set_cons_zero, List.set_cons_succ]
        refine sched_run (v := ?_) (by rfl) ?_ ?_
        rotate_left
        · (intro w' hS'; go_simp; try with_reducible rfl)
        try simp only [Act.put, List.setIfInBounds_toArray, List.set_cons_zero, List.set_cons_succ]
        refine sched_run (v := ?_) (by rfl) ?_ ?_
        rotate_left
        · (intro w' hS'; go_simp; try with_reducible rfl)
        try simp only [Act.put, List.setIfInBounds_toArray, List.set_cons_zero, List.set_cons_succ]
        refine sched_run (v := ?_) (by rfl) ?_ ?_
        rotate_left
        · (intro w' hS'; go_simp; try with_reducible rfl)
        try simp only [Act.put, List.setIfInBounds_toArray, List.set_cons_zero, List.set_cons_succ]
        refine sched_run (v := ?_) (by rfl) ?_ ?_
        rotate_left
        · (intro w' hS'; obtain ⟨g0, r0, r1, r2, r3⟩ := HLD.out w' hS'; go_simp; try with_reducible rfl)
        try simp only [Act.put, List.setIfInBounds_toArray, List.set_cons_zero, List.set_cons_succ]
        refine sched_run (v := ?_) (by rfl) ?_ ?_
        rotate_left
        · (intro w' hS'; go_simp; try with_reducible rfl)
        try simp only [Act.put, List.setIfInBounds_toArray, List.set_cons_zero, List.set_cons_succ]
        refine sched_run (v := ?_) (by rfl) ?_ ?_
        rotate_left
        · (intro w' hS'; go_simp; try with_reducible rfl)
        try simp only [Act.put, List.setIfInBounds_toArray, List.set_cons_zero, List.set_cons_succ]
        refine sched_run (v := ?_) (by rfl) ?_ ?_
        rotate_left
        · (intro w' hS'; go_simp; try with_reducible rfl)
        try simp only [Act.put, List.setIfInBounds_toArray, List.set_cons_zero, List.set_cons_succ]
        refine sched_run (v := ?_) (by rfl) ?_ ?_
        rotate_left
        · (intro w' hS'; obtain ⟨g0, r0, r1, r2, r3⟩ := HLD.out w' hS'; go_simp; try with_reducible rfl)
        try simp only [Act.put, List.setIfInBounds_toArray, List.set_cons_zero, List.set_cons_succ]
        refine sched_run (v := ?_) (by rfl) ?_ ?_
        rotate_left
        · (intro w' hS'; go_simp; try with_reducible rfl)
        try simp only [Act.put, List.setIfInBounds_toArray, List.set_cons_zero, List.set_cons_succ]
        refine sched_call (by rfl) (fun K hK => ?_)
        go_simp
        refine (l7Part_q r.1 r.2.1 Q HQ.out _ HF.out).mono ?_
        rintro e v1 ⟨rfl, hbv0⟩
        have hv1 : Below wr.heap.size wr v1 := hv0.trans (hbv0.mono hv0.size)
        clear hbv0
        refine hK _ _ hv1 ?_
        try simp only [Act.put, List.setIfInBounds_toArray, List.set_cons_zero, List.set_cons_succ]
        refine sched_run (v := ?_) (by rfl) ?_ ?_
        rotate_left
        · (intro w' hS'; go_simp; try with_reducible rfl)
        try simp only [Act.put, List.setIfInBounds_toArray, List.set_cons_zero, List.set_cons_succ]
        refine sched_run (v := ?_) (by rfl) ?_ ?_
        rotate_left
        · (intro w' hS'; go_simp; try with_reducible rfl)
        try simp only [Act.put, List.setIfInBounds_toArray, List.set_cons_zero, List.set_cons_succ]
        refine sched_run (v := ?_) (by rfl) ?_ ?_
        rotate_left
        · (intro w' hS'; go_simp; try with_reducible rfl)
        try simp only [Act.put, List.setIfInBounds_toArray, List.set_cons_zero, List.set_cons_succ]
        refine sched_run (v := ?_) (by rfl) ?_ ?_
        rotate_left
        · (intro w' hS'; go_simp; try with_reducible rfl)
        try simp only [Act.put, List.setIfInBounds_toArray, List.set_cons_zero, List.set_cons_succ]
        refine sched_run (v := ?_) (by rfl) ?_ ?_
        rotate_left
        · (intro w' hS'; go_simp; try with_reducible rfl)
        try simp only [Act.put, List.setIfInBounds_toArray, List.set_cons_zero, List.set_cons_succ]
        refine sched_run (v := ?_) (by rfl) ?_ ?_
        rotate_left
        · (intro w' hS'; obtain ⟨g0, r0, r1, r2, r3⟩ := HLD.out w' hS'; go_simp; try with_reducible rfl)
        try simp only [Act.put, List.setIfInBounds_toArray, List.set_cons_zero, List.set_cons_succ]
        refine sched_run (v := ?_) (by rfl) ?_ ?_
        rotate_left
        · (intro w' hS'; go_simp; try with_reducible rfl)
        try simp only [Act.put, List.setIfInBounds_toArray, List.set_cons_zero, List.set_cons_succ]
        refine sched_run (v := ?_) (by rfl) ?_ ?_
        rotate_left
        · (intro w' hS'; go_simp; try with_reducible rfl)
        try simp only [Act.put, List.setIfInBounds_toArray, List.set_cons_zero, List.set_cons_succ]
        refine sched_call (by rfl) (fun K hK => ?_)
        go_simp
        refine (l6Nothing_b b (off + k * 4) r _ HE.out _ (HLD.out _ hv1).2).mono ?_
        rintro e v2 ⟨rfl, hbv1⟩
        have hv2 : Below wr.heap.size wr v2 := hv1.trans (hbv1.mono hv1.size)
        clear hbv1
        refine hK _ _ hv2 ?_
        try simp only [Act.put, List.setIfInBounds_toArray, List.set_cons_zero, List.set_cons_succ]
        refine sched_run (v := ?_) (by rfl) ?_ ?_
        rotate_left
        · (intro w' hS'; go_simp; try with_reducible rfl)
        try simp only [Act.put, List.setIfInBounds_toArray, List.set_cons_zero, List.set_cons_succ]
        refine sched_done ?_
        have HB2 := Lib.hid (HB.out.trans (hv2.mono HB.out.size))
        go_wp2_with fail
        exact ⟨⟨k + 1, by omega, by go_num, HB2, HS⟩, by simp [intOf]; omega⟩
      · have hfb : fitB at_ r = false := by unfold fitB; rw [he]; simp
        have hs2 : V = 1 := HRS.out.symm.trans (HBAD.out hfb)
        have HS := Lib.hid hs2
        clear hs2 hfb h1 he
        go_wp2_with fail
        have hld : ∀ w', Below wr.heap.size wr w' → w'.cell? ⟨g, o, none⟩ = some (.slice (some ⟨b, off, none⟩) n c) ∧ w'.cell? ⟨b, off + k * 4, none⟩ = some (.int .i64 r.1) ∧ w'.cell? ⟨b, off + k * 4 + 1, none⟩ = some (.int .i64 r.2.1) ∧ w'.cell? ⟨b, off + k * 4 + 2, none⟩ = some (.int .i64 r.2.2.1) ∧ w'.cell? ⟨b, off + k * 4 + 3, none⟩ = some (.int .i64 r.2.2.2) := fun w' h => ⟨(h.cell (p := ⟨g, o, none⟩) gz).trans g0, (h.cell (p := ⟨b, off + k * 4, none⟩) hbl).trans p0, (h.cell (p := ⟨b, off + k * 4 + 1, none⟩) hbl).trans p1, (h.cell (p := ⟨b, off + k * 4 + 2, none⟩) hbl).trans p2, (h.cell (p := ⟨b, off + k * 4 + 3, none⟩) hbl).trans p3⟩
        have HLD := Lib.hid hld; clear hld
        refine wp_region_sched (fun w' => Below wr.heap.size wr w') [(0, true), (1, true), (2, true), (3, true), (4, true), (5, true), (6, true), (7, true), (8, true), (9, true), (10, true), (11, true), (12, true), (13, true), (14, true), (15, true), (17, true), (16, false), (18, true), (19, true), (20, true), (21, true), (22, true), (23, true), (24, true), (25, true), (26, false), (27, true)] (by kernel_rfl) (by kernel_rfl) (by kernel_rfl) (by kernel_rfl) (fun _ _ d _ _ h => by cases d <;> exact h) ⟨rfl, rfl, rfl, Nat.le_refl _, fun _ _ => rfl⟩ ?_
        simp only [opsOf, List.filterMap_cons, List.filterMap_nil, Option.map_some, List.getElem?_toArray, List.getElem?_cons_zero, List.getElem?_cons_succ]
        generalize hW0 : ({ heap := wr.heap, tape := wr.tape, drawn := wr.drawn + 1, os := wr.os, output := wr.output } : World) = v0
        have hv0 : Below wr.heap.size wr v0 := by rw [← hW0]; exact ⟨rfl, rfl, rfl, Nat.le_refl _, fun _ _ => rfl⟩
        clear hW0
        refine sched_run (v := ?_) (by rfl) ?_ ?_
        rotate_left
        · (intro w' hS'; go_simp; try with_reducible rfl)
        try simp only [Act.put, List.setIfInBounds_toArray, List.set_cons_zero, List.set_cons_succ]
        refine sched_run (v := ?_) (by rfl) ?_ ?_
        rotate_left
        · (intro w' hS'; go_simp; try with_reducible rfl)
        try simp only [Act.put, List.setIfInBounds_toArray, List.set_cons_zero, List.set_cons_succ]
        refine sched_run (v := ?_) (by rfl) ?_ ?_
        rotate_left
        · (intro w' hS'; go_simp; try with_reducible rfl)
        try simp only [Act.put, List.setIfInBounds_toArray, List.set_cons_zero, List.set_cons_succ]
        refine sched_run (v := ?_) (by rfl) ?_ ?_
        rotate_left
        · (intro w' hS'; obtain ⟨g0, r0, r1, r2, r3⟩ := HLD.out w' hS'; go_simp; try with_reducible rfl)
        try simp only [Act.put, List.setIfInBounds_toArray, List.set_cons_zero, List.set_cons_succ]
        refine sched_run (v := ?_) (by rfl) ?_ ?_
        rotate_left
        · (intro w' hS'; go_simp; try with_reducible rfl)
        try simp only [Act.put, List.setIfInBounds_toArray, List.set_cons_zero, List.set_cons_succ]
        refine sched_run (v := ?_) (by rfl) ?_ ?_
        rotate_left
        · (intro w' hS'; go_simp; try with_reducible rfl)
        try simp only [Act.put, List.setIfInBounds_toArray, List.set_cons_zero, List.set_cons_succ]
        refine sched_run (v := ?_) (by rfl) ?_ ?_
        rotate_left
        · (intro w' hS'; go_simp; try with_reducible rfl)
        try simp only [Act.put, List.setIfInBounds_toArray, List.set_cons_zero, List.set_cons_succ]
        refine sched_run (v := ?_) (by rfl) ?_ ?_
        rotate_left
        · (intro w' hS'; obtain ⟨g0, r0, r1, r2, r3⟩ := HLD.out w' hS'; go_simp; try with_reducible rfl)
        try simp only [Act.put, List.setIfInBounds_toArray, List.set_cons_zero, List.set_cons_succ]
        refine sched_run (v := ?_) (by rfl) ?_ ?_
        rotate_left
        · (intro w' hS'; go_simp; try with_reducible rfl)
        try simp only [Act.put, List.setIfInBounds_toArray, List.set_cons_zero, List.set_cons_succ]
        refine sched_run (v := ?_) (by rfl) ?_ ?_
        rotate_left
        · (intro w' hS'; go_simp; try with_reducible rfl)
        try simp only [Act.put, List.setIfInBounds_toArray, List.set_cons_zero, List.set_cons_succ]
        refine sched_run (v := ?_) (by rfl) ?_ ?_
        rotate_left
        · (intro w' hS'; go_simp; try with_reducible rfl)
        try simp only [Act.put, List.setIfInBounds_toArray, List.set_cons_zero, List.set_cons_succ]
        refine sched_run (v := ?_) (by rfl) ?_ ?_
        rotate_left
        · (intro w' hS'; obtain ⟨g0, r0, r1, r2, r3⟩ := HLD.out w' hS'; go_simp; try with_reducible rfl)
        try simp only [Act.put, List.setIfInBounds_toArray, List.set_cons_zero, List.set_cons_succ]
        refine sched_run (v := ?_) (by rfl) ?_ ?_
        rotate_left
        · (intro w' hS'; go_simp; try with_reducible rfl)
        try simp only [Act.put, List.setIfInBounds_toArray, List.set_cons_zero, List.set_cons_succ]
        refine sched_run (v := ?_) (by rfl) ?_ ?_
        rotate_left
        · (intro w' hS'; go_simp; try with_reducible rfl)
        try simp only [Act.put, List.setIfInBounds_toArray, List.set_cons_zero, List.set_cons_succ]
        refine sched_run (v := ?_) (by rfl) ?_ ?_
        rotate_left
        · (intro w' hS'; go_simp; try with_reducible rfl)
        try simp only [Act.put, List.setIfInBounds_toArray, List.set_cons_zero, List.set_cons_succ]
        refine sched_run (v := ?_) (by rfl) ?_ ?_
        rotate_left
        · (intro w' hS'; obtain ⟨g0, r0, r1, r2, r3⟩ := HLD.out w' hS'; go_simp; try with_reducible rfl)
        try simp only [Act.put, List.setIfInBounds_toArray, List.set_cons_zero, List.set_cons_succ]
        refine sched_run (v := ?_) (by rfl) ?_ ?_
        rotate_left
        · (intro w' hS'; go_simp; try with_reducible rfl)
        try simp only [Act.put, List.setIfInBounds_toArray, List.set_cons_zero, List.set_cons_succ]
        refine sched_call (by rfl) (fun K hK => ?_)
        go_simp
        refine (l7Part_q r.1 r.2.1 Q HQ.out _ HF.out).mono ?_
        rintro e v1 ⟨rfl, hbv0⟩
        have hv1 : Below wr.heap.size wr v1 := hv0.trans (hbv0.mono hv0.size)
        clear hbv0
        refine hK _ _ hv1 ?_
        try simp only [Act.put, List.setIfInBounds_toArray, List.set_cons_zero, List.set_cons_succ]
        refine sched_run (v := ?_) (by rfl) ?_ ?_
        rotate_left
        · (intro w' hS'; go_simp; try with_reducible rfl)
        try simp only [Act.put, List.setIfInBounds_toArray, List.set_cons_zero, List.set_cons_succ]
        refine sched_run (v := ?_) (by rfl) ?_ ?_
        rotate_left
        · (intro w' hS'; go_simp; try with_reducible rfl)
        try simp only [Act.put, List.setIfInBounds_toArray, List.set_cons_zero, List.set_cons_succ]
        refine sched_run (v := ?_) (by rfl) ?_ ?_
        rotate_left
        · (intro w' hS'; go_simp; try with_reducible rfl)
        try simp only [Act.put, List.setIfInBounds_toArray, List.set_cons_zero, List.set_cons_succ]
        refine sched_run (v := ?_) (by rfl) ?_ ?_
        rotate_left
        · (intro w' hS'; go_simp; try with_reducible rfl)
        try simp only [Act.put, List.setIfInBounds_toArray, List.set_cons_zero, List.set_cons_succ]
        refine sched_run (v := ?_) (by rfl) ?_ ?_
        rotate_left
        · (intro w' hS'; go_simp; try with_reducible rfl)
        try simp only [Act.put, List.setIfInBounds_toArray, List.set_cons_zero, List.set_cons_succ]
        refine sched_run (v := ?_) (by rfl) ?_ ?_
        rotate_left
        · (intro w' hS'; obtain ⟨g0, r0, r1, r2, r3⟩ := HLD.out w' hS'; go_simp; try with_reducible rfl)
        try simp only [Act.put, List.setIfInBounds_toArray, List.set_cons_zero, List.set_cons_succ]
        refine sched_run (v := ?_) (by rfl) ?_ ?_
        rotate_left
        · (intro w' hS'; go_simp; try with_reducible rfl)
        try simp only [Act.put, List.setIfInBounds_toArray, List.set_cons_zero, List.set_cons_succ]
        refine sched_run (v := ?_) (by rfl) ?_ ?_
        rotate_left
        · (intro w' hS'; go_simp; try with_reducible rfl)
        try simp only [Act.put, List.setIfInBounds_toArray, List.set_cons_zero, List.set_cons_succ]
        refine sched_call (by rfl) (fun K hK => ?_)
        go_simp
        refine (l6Nothing_b b (off + k * 4) r _ HE.out _ (HLD.out _ hv1).2).mono ?_
        rintro e v2 ⟨rfl, hbv1⟩
        have hv2 : Below wr.heap.size wr v2 := hv1.trans (hbv1.mono hv1.size)
        clear hbv1
        refine hK _ _ hv2 ?_
        try simp only [Act.put, List.setIfInBounds_toArray, List.set_cons_zero, List.set_cons_succ]
        refine sched_run (v := ?_) (by rfl) ?_ ?_
        rotate_left
        · (intro w' hS'; go_simp; try with_reducible rfl)
        try simp only [Act.put, List.setIfInBounds_toArray, List.set_cons_zero, List.set_cons_succ]
        refine sched_done ?_
        have HB2 := Lib.hid (HB.out.trans (hv2.mono HB.out.size))
        go_wp2_with fail
        go_ret
        exact ⟨congrArg (fun z => Ending.returned (Value.int .i64 z)) HS.out.symm, HB2.out⟩
    · obtain rfl : k = rs.length := by omega
      have hs2 : V = 0 := HRS.out.symm.trans (restQ_end (fitB at_) rs)
      have HS := Lib.hid hs2; clear hs2 hg0 hg1
      go_wp2
      go_ret
      exact ⟨congrArg (fun z => Ending.returned (Value.int .i64 z)) HS.out.symm, HB.out⟩

set_option maxRecDepth 100000 in
set_option maxHeartbeats 2000000 in
theorem l7Count_c (A : Option Addr) (c : Nat) (l : List Pt) (w : World) (fp : List Nat) (hs : psz l ≤ 4194304) (ha : RdP w (.slice A l.length c) l fp) :
    Calls Tryz.prog 83 #[.slice A l.length c] w fun e w' => e = .returned (.int .i64 (totP l : Nat)) ∧ w = w' := by
  have hmax := ha.len_le.2
  have hT : totP l ≤ 4194304 := by unfold psz at hs; omega
  have HA := Lib.hid ha
  clear ha hs
  go_enter Tryz.func83, Tryz.ntmps83
  go_wp2
  go_loop [3, 4] (fun s i => ∃ k n : Nat, k ≤ l.length ∧ i = .int .i64 k ∧ s = .int .i64 (n : Nat) ∧ Hid (n = totP (l.take k)) ∧ n ≤ 4194304) (fun _ i => l.length - (intOf i).toNat)
  case atStart => exact ⟨0, 0, Nat.zero_le _, rfl, rfl, Lib.hid rfl, by omega⟩
  case round =>
    obtain ⟨k, n, hk, rfl, rfl, hn, hn1⟩ := hrel
    by_cases hlt : k < l.length
    · obtain ⟨b, off, B, d, f, rfl, _, hbl, hc, hc1, hr, _⟩ := partsAt HA.out hlt
      have hm := hr.len_le
      have ht := totP_take l k hlt
      have hle := totP_le l (k + 1)
      rw [← hn.out] at ht
      generalize l[k].rows.length = m at *
      have HT := Lib.hid ht
      clear hr hc1
      have t1 : (n : Int) + (m : Int) ≤ 4194304 := by omega
      have t2 : n + m ≤ 4194304 := by omega
      clear ht hle
      go_wp2
      exact ⟨⟨k + 1, n + m, by omega, by go_num, by go_num, Lib.hid HT.out.symm, t2⟩, by simp [intOf]; omega⟩
    · obtain rfl : k = l.length := by omega
      have h := hn.out
      rw [List.take_length] at h
      have H := Lib.hid h; clear h
      go_wp2
      go_ret
      exact ⟨by rw [H.out]; rfl, rfl⟩
theorem l7Count_q (A : Option Addr) (c : Nat) (l : List Pt) (T : Nat) (hT : totP l = T) (w : World) (fp : List Nat) (hs : psz l ≤ 4194304) (ha : RdP w (.slice A l.length c) l fp) :
    Calls Tryz.prog 83 #[.slice A l.length c] w fun e w' => e = .returned (.int .i64 (T : Nat)) ∧ w = w' := by
  subst hT
  exact l7Count_c A c l w fp hs ha

set_option maxRecDepth 100000 in
set_option maxHeartbeats 4000000 in
theorem l7Fault_c (A : Option Addr) (c : Nat) (l : List Pt) (w : World) (fp : List Nat) (hs : psz l ≤ 4194304) (ha : RdP w (.slice A l.length c) l fp) :
    Calls Tryz.prog 41 #[.slice A l.length c] w fun e w' => e = .returned (.int .i64 (partsF l)) ∧ Below w.heap.size w w' := by
  have hmax := ha.len_le.2
  have HA := Lib.hid ha
  clear ha
  by_cases h1 : l.length = 3
  case neg =>
    rw [partsF_len h1]
    have t1 : ((l.length : Int) != 3) = true := by simp; omega
    clear h1
    go_enter Tryz.func41, Tryz.ntmps41
    go_wp2
    go_ret
    exact ⟨rfl, Below.refl _ _⟩
  have t1 : ((l.length : Int) != 3) = false := by simp; omega
  have hmany := @partsF_many l h1
  have hpart := @partsF_part l h1
  obtain ⟨T, hT⟩ : ∃ T, T = totP l := ⟨_, rfl⟩
  rw [← hT] at hmany
  have HTT := Lib.hid hT.symm
  have HMANY := Lib.hid hmany; have HPART := Lib.hid hpart; have HSZ := Lib.hid hs
  have hT4 : T ≤ 4194304 := by unfold psz at hs; omega
  clear hmany hpart h1 hT hs
  generalize hV : restG l 0 = V at *
  have HV := Lib.hid hV; clear hV
  generalize hP : partsF l = P at *
  have HP := Lib.hid hP; clear hP
  go_enter Tryz.func41, Tryz.ntmps41
  go_wp2_with fail
  go_loopw [3] (fun i wr => ∃ k : Nat, k ≤ l.length ∧ i = .int .i64 k ∧ Hid (Below w.heap.size w wr) ∧ Hid (restG l k = V)) (fun i _ => l.length - (intOf i).toNat)
  case atStart => exact ⟨0, Nat.zero_le _, rfl, Lib.hid (Below.refl _ _), HV⟩
  case round =>
    clear HV
    obtain ⟨k, hk, rfl, HB, HRS⟩ := hrel
    by_cases hlt : k < l.length
    · obtain ⟨b, off, B, d, f, rfl, _, hbl, hc, hc1, hr, _⟩ := partsAt (HA.out.below' HB.out) hlt
      have hok := @restG_ok l k hlt
      have hbad := @restG_bad l k hlt
      generalize l[k] = p at *
      have hcall := l7One_c b (off + k * 2) B d p (k : Int) _ f hc hc1 hbl hr
      obtain ⟨Q, hQ⟩ : ∃ Q, Q = partF p (k : Int) := ⟨_, rfl⟩
      rw [← hQ] at hcall hok hbad
      have HCL := Lib.hid hcall; have HOK := Lib.hid hok; have HBAD := Lib.hid hbad
      clear hok hbad hr hcall hQ hc hc1
      go_wp2_with fail
      refine HCL.out.mono ?_
      rintro e w2 ⟨rfl, hb2⟩
      have HB2 := Lib.hid (HB.out.trans (hb2.mono HB.out.size))
      clear hb2
      by_cases h3 : Q = 0
      · have hs2 : restG l (k + 1) = V := (HOK.out h3).symm.trans HRS.out
        have HS2 := Lib.hid hs2; clear hs2
        subst h3
        go_wp2_with fail
        exact ⟨⟨k + 1, by omega, by go_num, HB2, HS2⟩, by simp [intOf]; omega⟩
      · have hs2 : V = Q := HRS.out.symm.trans (HBAD.out h3)
        have hPV : P = Q := (HPART.out (by rw [hs2]; exact h3)).trans hs2
        have HPV := Lib.hid hPV; clear hPV hs2
        have t2 : (Q != 0) = true := by simpa using h3
        clear h3
        go_wp2_with fail
        go_ret
        exact ⟨congrArg (fun z => Ending.returned (Value.int .i64 z)) HPV.out.symm, HB2.out⟩
    · obtain rfl : k = l.length := by omega
      have hs2 : V = 0 := HRS.out.symm.trans (restG_end l)
      have hPV : P = if 12 < T then 2 else 0 := HMANY.out hs2
      have HPV := Lib.hid hPV
      clear hs2 hPV
      go_wp2_with fail
      refine (l7Count_q A c l T HTT.out _ fp HSZ.out (HA.out.below' HB.out)).mono ?_
      rintro e w2 ⟨rfl, hw⟩
      subst hw
      by_cases h4 : 12 < T
      · have e : P = 2 := by rw [HPV.out, if_pos h4]
        have HE := Lib.hid e; clear e
        go_wp2
        go_ret
        exact ⟨congrArg (fun z => Ending.returned (Value.int .i64 z)) HE.out.symm, HB.out⟩
      · have e : P = 0 := by rw [HPV.out, if_neg h4]
        have HE := Lib.hid e; clear e
        go_wp2
        go_ret
        exact ⟨congrArg (fun z => Ending.returned (Value.int .i64 z)) HE.out.symm, HB.out⟩
end Go.Proofs.YtldimfmhbdhbnaaGreat

/-
  The model's functions of chapter 7, third part: rows laid into parts. By a maker (gen7c.py).
-/
namespace Go.Proofs.YtldimfmhbdhbnaaGreat
open Go.RowKit

theorem psres_none {w w' : World} {code : Int} (hb : Below w.heap.size w w') : PsResPost w code [] (.returned (psv code (.slice none 0 0))) w' := ⟨_, [], rfl, Sl.nil w', NF.nil _, ⟨From.nil _, by simp⟩, hb⟩
/-- The blocks of the answer: two stores into block g. -/
theorem psres_stored {w w1 : World} {g : Nat} {code : Int} {l : List Pt} {v : Value} {fp : List Nat} (hb : Below w.heap.size w w1) (hg : w.heap.size ≤ g) (hr : RdP w1 v l fp) (hn : NF w1 fp) (hf : From (g + 1) fp) (hd : fp.Nodup) :
    PsResPost w code l (.returned (psv code v)) ((w1.setCell ⟨g, 0, none⟩ (.int .i64 code)).setCell ⟨g, 1, none⟩ v) := by
  have hbut := But.two w1 g 0 1 (.int .i64 code) v
  have hx : ∀ b ∈ fp, b ∉ [g] := fun b hm h => by have := hf b hm; simp at h; omega
  exact ⟨_, fp, rfl, hr.but hbut hx, hn.but hbut hr.lt hx, ⟨hf.mono (by omega), hd⟩, hb.trans (hbut.below hb.size (by intro b hb; simp at hb; omega))⟩
/-- Slices and a mark each, in turn. -/
def ilv (vs : List Value) (m : Int) : List Value := (vs.map fun v => [v, Value.int .i64 m]).flatten
theorem ilv_len (vs : List Value) (m : Int) : ∀ u ∈ vs.map fun v => [v, Value.int .i64 m], u.length = 2 := by
  intro u hu
  obtain ⟨v, _, rfl⟩ := List.mem_map.1 hu
  rfl
theorem ilv_get {vs : List Value} {m : Int} {j : Nat} {v : Value} (h : vs[j]? = some v) : (ilv vs m)[j * 2]? = some v ∧ (ilv vs m)[j * 2 + 1]? = some (.int .i64 m) := by
  have hj : (vs.map fun v => [v, Value.int .i64 m])[j]? = some [v, .int .i64 m] := by rw [List.getElem?_map, h]; rfl
  exact ⟨by have := flat_get (ilv_len vs m) hj (show 0 < 2 by omega); exact this, by have := flat_get (ilv_len vs m) hj (show 1 < 2 by omega); exact this⟩
theorem ilv_set {vs : List Value} {m : Int} {j : Nat} (h : j < vs.length) (v : Value) : (ilv vs m).set (j * 2) v = ilv (vs.set j v) m := by
  induction vs generalizing j with
  | nil => simp at h
  | cons a t ih =>
    match j, h with
    | 0, _ => rfl
    | j + 1, h =>
      have e : (j + 1) * 2 = j * 2 + 2 := by omega
      have := ih (j := j) (by simpa using h)
      unfold ilv at this ⊢
      rw [e]
      simp only [List.map_cons, List.flatten_cons, List.cons_append, List.nil_append, List.set_cons_succ, List.set_cons_succ]
      rw [this]
/-- Three parts with no rows, the first k bearing the mark. -/
def mkd (m : Int) (k : Nat) : Array Value := #[.slice none 0 0, .int .i64 (if 0 < k then m else 0), .slice none 0 0, .int .i64 (if 1 < k then m else 0), .slice none 0 0, .int .i64 (if 2 < k then m else 0)]
theorem mkd_zero (m : Int) : madeCells #[.slice none 0 0, .int .i64 0] (3 * 2) = mkd m 0 := by
  rw [madePairs]; rfl
theorem mkd_step (m : Int) (k : Nat) (h : k < 3) : (mkd m k)[k * 2 + 1]? = some (.int .i64 0) ∧ (mkd m k).setIfInBounds (k * 2 + 1) (.int .i64 m) = mkd m (k + 1) := by
  match k, h with
  | 0, _ => exact ⟨rfl, rfl⟩
  | 1, _ => exact ⟨rfl, rfl⟩
  | 2, _ => exact ⟨rfl, rfl⟩
/-- The rows of each part. -/
def laidP (s : List R) : List (List R) := (List.range 3).map fun (i : Nat) => s.filter fun r => decide (rpart r = (i : Int))
theorem laidP_len (s : List R) : (laidP s).length = 3 := by simp [laidP]
theorem laidP_get (s : List R) (i : Nat) (h : i < (laidP s).length) : (laidP s)[i] = s.filter fun r => decide (rpart r = (i : Int)) := by simp [laidP]
theorem laidP_solid (rs : List R) : laidP (solidL rs) = (partsOf rs 0).map Pt.rows := by
  unfold laidP partsOf solidL
  rw [List.map_map]
  refine List.map_congr_left fun i _ => ?_
  rw [List.filter_filter]
  rfl
theorem laidP_step (s : List R) (k : Nat) (h : k < s.length) (j : Nat) (hj : j < (laidP (s.take k)).length) (e : rpart s[k] = (j : Int)) : laidP (s.take (k + 1)) = (laidP (s.take k)).set j ((laidP (s.take k))[j] ++ [s[k]]) := by
  apply List.ext_getElem
  · simp [laidP]
  · intro i h1 h2
    rw [laidP_get]
    rw [List.take_succ_eq_append_getElem h, List.filter_append]
    by_cases hij : j = i
    · subst hij
      rw [List.getElem_set_self, laidP_get]
      simp [e]
    · rw [List.getElem_set_ne hij, laidP_get]
      have : decide (rpart s[k] = (i : Int)) = false := by rw [e]; simp; omega
      simp [this]
/-- Slices of rows with a mark each are parts. -/
theorem ilv_parts {w : World} {g B : Nat} {vs : List Value} {m : Int} {ls : List (List R)} {t tr : TypeId} (hg : w.heap[g]? = some (.cells (ilv vs m).toArray t (0, 0))) (ho : OwnF w B vs ls tr) (hgB : g < B) (hmx : ls.length ≤ maxLen) :
    ∃ fp, RdP w (.slice (some ⟨g, 0, none⟩) (ls.map fun rs => (⟨rs, m⟩ : Pt)).length ls.length) (ls.map fun rs => (⟨rs, m⟩ : Pt)) fp ∧ NF w fp ∧ From g fp ∧ fp.Nodup := by
  obtain ⟨fs, ha3, hn3, hf3, hd3⟩ := ho.reads
  have hall : All3 (partK.P w) (ls.map fun rs => (⟨rs, m⟩ : Pt)) (vs.map fun v => [v, Value.int .i64 m]) fs := by
    have go : ∀ (ls : List (List R)) (vs : List Value) (fs : List (List Nat)), All3 (rowsK.P w) ls (vs.map fun v => [v]) fs → All3 (partK.P w) (ls.map fun rs => (⟨rs, m⟩ : Pt)) (vs.map fun v => [v, Value.int .i64 m]) fs := by
      intro ls
      induction ls with
      | nil =>
        intro vs fs h
        match vs, fs, h with
        | [], [], _ => trivial
      | cons a l ih =>
        intro vs fs h
        match vs, fs, h with
        | v :: vs, f :: fs, h =>
          obtain ⟨⟨v', e, hr⟩, h2⟩ := h
          injection e with e _
          subst e
          exact ⟨⟨_, rfl, hr⟩, ih vs fs h2⟩
    exact go _ _ _ ha3
  have hfl := Kd.flat_of hall
  simp only [List.length_map] at hfl
  have hr0 : Rd w 2 (.slice (some ⟨g, 0, none⟩) (ls.map fun rs => (⟨rs, m⟩ : Pt)).length ls.length) (vs.map fun v => [v, Value.int .i64 m]).flatten [g] ∨ ls = [] := by
    by_cases h0 : ls = []
    · exact .inr h0
    · refine .inl ⟨_, _, _, rfl, by rw [List.length_map]; exact hfl, by rw [List.length_map]; exact hmx, by simp, .inr ⟨g, 0, rfl, rfl, heap_lt hg, fun i u hu => ?_⟩⟩
      rw [Nat.zero_add, cell_of_heap hg, List.getElem?_toArray]
      exact hu
  rcases hr0 with hr0 | h0
  · refine ⟨[g] ++ fs.flatten, ⟨_, _, fs, hr0, hall, rfl⟩, fun x hx i => ?_, fun x hx => ?_, List.nodup_append.2 ⟨by simp, hd3, fun a ha b hb => ?_⟩⟩
    · rcases List.mem_append.1 hx with hx | hx
      · simp at hx; subst hx; exact frozen_of_heap hg
      · exact hn3 x hx i
    · rcases List.mem_append.1 hx with hx | hx
      · simp at hx; omega
      · have := hf3 x hx; omega
    · have := hf3 b hb; simp at ha; omega
  · subst h0
    match vs, fs, hall with
    | [], [], _ => exact ⟨[], ⟨[], [], [], ⟨_, 0, 0, rfl, rfl, by unfold maxLen; omega, by omega, .inl ⟨rfl, rfl⟩⟩, trivial, rfl⟩, NF.nil _, From.nil _, by simp⟩

/-- What l7From makes: three parts that are the call's own. -/
def FromPost (w : World) (rs : List R) (m : Int) (e : Ending) (w' : World) : Prop :=
  ∃ (g B : Nat) (vs : List Value), e = .returned (.slice (some ⟨g, 0, none⟩) 3 3) ∧ w'.heap[g]? = some (.cells (ilv vs m).toArray 100 (0, 0)) ∧ OwnF w' B vs (laidP (solidL rs)) 40 ∧ w.heap.size ≤ g ∧ g < B ∧ Below w.heap.size w w'
theorem laidP_parts (rs : List R) (m : Int) : (laidP (solidL rs)).map (fun rs => (⟨rs, m⟩ : Pt)) = partsOf rs m := by
  rw [laidP_solid]
  unfold partsOf
  rw [List.map_map, List.map_map]
  rfl
theorem FromPost.copy {w w' : World} {rs : List R} {m : Int} {e : Ending} (h : FromPost w rs m e w') : CopySl partK w (partsOf rs m) e w' := by
  obtain ⟨g, B, vs, rfl, HG, ho, hg, hgB, hb⟩ := h
  obtain ⟨fp, k1, k2, k3, k4⟩ := ilv_parts HG ho hgB (by rw [laidP_len]; unfold maxLen; omega)
  rw [laidP_parts] at k1
  have e3 : (partsOf rs m).length = 3 := partsOf_len rs m
  exact ⟨some ⟨g, 0, none⟩, 3, fp, by rw [e3], by rw [laidP_len] at k1; exact k1, k2, k3.mono hg, k4, hb⟩

set_option maxRecDepth 100000 in
set_option maxHeartbeats 8000000 in
theorem l7From_o (A : Option Addr) (c : Nat) (rs : List R) (m : Int) (w : World) (fp : List Nat) (hs : rs.length ≤ 12) (hfit : Fits rs) (ha : Rd w 4 (.slice A rs.length c) (rcs rs) fp) :
    Calls Tryz.prog 31 #[.slice A rs.length c, .int .i64 m] w (FromPost w rs m) := by
  obtain ⟨i0, hi, hz, hsz, hby⟩ := infoRow
  have hmk : ∀ W : World, (Instr.makeSlice 33 (.int .i64 3) (.int .i64 3)).run Tryz.prog W = .ok (.slice (some ⟨W.heap.size, 0, none⟩) 3 3) (W.alloc (.cells (mkd m 0) 100)) := fun W => by
    have h := makePartS 3 (by omega) W
    rw [mkd_zero m] at h
    exact h
  have hsl := solid_len rs rs.length
  rw [List.take_length] at hsl
  have hsf : Hid (∀ k (h : k < (solidL rs).length), (∃ j : Nat, j < 3 ∧ rpart (solidL rs)[k] = j) ∧ 0 ≤ ((solidL rs)[k]).1 ∧ ((solidL rs)[k]).1 ≤ 3 ∧ 1 ≤ ((solidL rs)[k]).2.1 ∧ ((solidL rs)[k]).2.1 ≤ 20) := fun k h => by
    have hm : (solidL rs)[k] ∈ solidL rs := List.getElem_mem h
    unfold solidL at hm
    obtain ⟨i, hi, e⟩ := List.mem_iff_getElem.1 (List.mem_filter.1 hm).1
    have hf := hfit i hi
    rw [e] at hf
    have hb := rpart_bd (solidL rs)[k]
    exact ⟨⟨(rpart (solidL rs)[k]).toNat, by omega, by omega⟩, hf⟩
  have HA := Lib.hid ha
  have HBW := Lib.hid (below_new (w := w) (.cells (mkd m 0) 100))
  have HGW := Lib.hid (heap_new w (.cells (mkd m 0) 100) rfl)
  clear ha hfit
  go_enter Tryz.func31, Tryz.ntmps31
  go_wp2_with fail
  clear hmk
  generalize w.alloc (.cells (mkd m 0) 100) = W0 at *
  go_loopw [6] (fun i wr => ∃ k : Nat, k ≤ 3 ∧ i = .int .i64 k ∧ Hid (Below w.heap.size w wr) ∧ Hid (wr.heap[w.heap.size]? = some (.cells (mkd m k) 100 (0, 0)))) (fun i _ => 3 - (intOf i).toNat)
  case atStart => exact ⟨0, Nat.zero_le _, rfl, HBW, HGW⟩
  case round =>
    clear HBW HGW
    obtain ⟨k, hk, rfl, HB, HG⟩ := hrel
    by_cases hlt : k < 3
    · obtain ⟨s1, s2⟩ := mkd_step m k hlt
      have c1 : wr.cell? ⟨w.heap.size, k * 2 + 1, none⟩ = some (.int .i64 0) := by rw [cell_of_heap HG.out]; exact s1
      have f1 : wr.frozen? ⟨w.heap.size, k * 2 + 1, none⟩ = false := frozen_of_heap HG.out
      have hz1 := heap_lt HG.out
      have hk0 : (0 : Int) ≤ (k : Int) := by omega
      have hk3 : (k : Int) < 3 := by omega
      have HST : Hid ((wr.setCell ⟨w.heap.size, k * 2 + 1, none⟩ (.int .i64 m)).heap[w.heap.size]? = some (.cells (mkd m (k + 1)) 100 (0, 0))) := by
        have h := heap_set1 (i := k * 2 + 1) (v := .int .i64 m) HG.out
        rw [s2] at h; exact h
      have HB2 : Hid (Below w.heap.size w (wr.setCell ⟨w.heap.size, k * 2 + 1, none⟩ (.int .i64 m))) := HB.out.setCell (Nat.le_refl _) _
      clear s1 s2
      go_wp2
      exact ⟨⟨k + 1, by omega, by go_num, HB2, HST⟩, by simp [intOf]; omega⟩
    · obtain rfl : k = 3 := by omega
      have HG3 : Hid (wr.heap[w.heap.size]? = some (.cells (ilv [.slice none 0 0, .slice none 0 0, .slice none 0 0] m).toArray 100 (0, 0))) := HG.out
      clear HG
      go_wp2_with fail
      refine (l6Solid_c A c rs wr fp (by omega) (HA.out.below' HB.out)).mono ?_
      rintro e X ⟨v1, f1, rfl, hr1, hn1, hf1, hb1, _⟩
      obtain ⟨A1, c1, rfl⟩ := hr1.rows_form
      have HB1 := Lib.hid (HB.out.trans (hb1.mono HB.out.size))
      have H1 := Lib.hid ((hb1.block _ (heap_lt HG3.out)).trans HG3.out)
      have HF1 : Hid (∀ x ∈ f1, x ∉ [w.heap.size]) := fun x hx he => by have := hf1 x hx; have := heap_lt HG3.out; simp at he; omega
      have HRS := Lib.hid hr1
      have HZX := Lib.hid (heap_lt H1.out)
      clear hr1 hn1 hf1 hb1 HG3 HB
      obtain ⟨S, hS⟩ : ∃ S, S = solidL rs := ⟨_, rfl⟩
      rw [← hS] at hsf hsl HRS ⊢
      have HS := Lib.hid hS; clear hS
      have hmax := HRS.out.len_le
      go_wp2_with fail
      go_loopw [8] (fun i wr => ∃ k : Nat, k ≤ S.length ∧ i = .int .i64 k ∧ ∃ vs : List Value, Hid (OwnF wr X.heap.size vs (laidP (S.take k)) 40) ∧ Hid (wr.heap[w.heap.size]? = some (.cells (ilv vs m).toArray 100 (0, 0))) ∧ Hid (But [w.heap.size] X wr)) (fun i _ => S.length - (intOf i).toNat)
      case atStart =>
        refine ⟨0, Nat.zero_le _, rfl, [.slice none 0 0, .slice none 0 0, .slice none 0 0], Lib.hid ⟨by simp [laidP], fun j hj => ?_, fun i j vi vj g _ h1 _ h2 => ?_⟩, H1, Lib.hid (But.refl _ _)⟩
        · rw [laidP_len] at hj
          refine ⟨.slice none 0 0, 0, ?_, ?_⟩
          · match j, hj with
            | 0, _ => rfl
            | 1, _ => rfl
            | 2, _ => rfl
          · rw [laidP_get]
            exact World.ownsRow_nil _ _ _ _
        · have := List.mem_of_getElem? h1
          simp only [List.mem_cons, List.not_mem_nil, or_false, or_self] at this
          rw [this] at h2
          simp [Value.ownBlock] at h2
      case round =>
        clear H1
        obtain ⟨k, hk, rfl, vs, HO, HG, HBT⟩ := hrel
        by_cases hlt : k < S.length
        · obtain ⟨b, off, hA, hfb, hbl, p0, p1, p2, p3⟩ := (HRS.out.but HBT.out HF1.out).row_at hlt
          subst hA
          obtain ⟨⟨j, hj, hje⟩, hfit⟩ := hsf.out k hlt
          have hjl : j < (laidP (S.take k)).length := by rw [laidP_len]; exact hj
          have hrc : ∀ w', But [w.heap.size] X w' → w'.cell? ⟨b, off + k * 4, none⟩ = some (.int .i64 S[k].1) ∧ w'.cell? ⟨b, off + k * 4 + 1, none⟩ = some (.int .i64 S[k].2.1) ∧ w'.cell? ⟨b, off + k * 4 + 2, none⟩ = some (.int .i64 S[k].2.2.1) ∧ w'.cell? ⟨b, off + k * 4 + 3, none⟩ = some (.int .i64 S[k].2.2.2) := fun w' h => by
            obtain ⟨b', off', e, _, _, x0, x1, x2, x3⟩ := (HRS.out.but h HF1.out).row_at hlt
            injection e with e; injection e with e1 e2 _; subst e1 e2
            exact ⟨x0, x1, x2, x3⟩
          have HRC := Lib.hid hrc
          clear hrc hfb
          have hst := laidP_step S k hlt j hjl hje
          have HST := Lib.hid hst
          clear hst
          generalize S[k] = r at *
          have HF := Lib.hid hfit
          have HQ : Hid (partI r.1 r.2.1 = (j : Int)) := hje
          obtain ⟨vj, nj, hvj, hown⟩ := HO.out.own j hjl
          have HVJ := Lib.hid hvj
          have hnj : nj ≤ 1000 := by
            have h1 := hown.1
            rw [rcs_length, laidP_get] at h1
            have h2 := List.length_filter_le (fun r : R => decide (rpart r = (j : Int))) (S.take k)
            rw [List.length_take] at h2
            omega
          have HNJ := Lib.hid hnj; have HNJL := Lib.hid hown.1
          clear hnj hje hfit
          have hvl : vs.length = 3 := by rw [HO.out.len, laidP_len]
          have HVL := Lib.hid hvl
          have hk0 : (0 : Int) ≤ (k : Int) := by omega
          have hkl : (k : Int) < (S.length : Int) := by omega
          have j0 : (0 : Int) ≤ (j : Int) := by omega
          have j3 : (j : Int) < 3 := by omega
          clear hvj hown hvl
          go_wp2_with fail
          have hld : ∀ w', Below wr.heap.size wr w' → w'.cell? ⟨b, off + k * 4, none⟩ = some (.int .i64 r.1) ∧ w'.cell? ⟨b, off + k * 4 + 1, none⟩ = some (.int .i64 r.2.1) := fun w' h => ⟨(h.cell (p := ⟨b, off + k * 4, none⟩) hbl).trans p0, (h.cell (p := ⟨b, off + k * 4 + 1, none⟩) hbl).trans p1⟩
          have HLD := Lib.hid hld; clear hld
          refine wp_region_sched (fun w' => Below wr.heap.size wr w') [(0, true), (1, true), (2, true), (3, true), (4, true), (5, true), (6, true), (7, true), (8, true), (9, true), (10, false), (11, true)] (by kernel_rfl) (by kernel_rfl) (by kernel_rfl) (by kernel_rfl) (fun _ _ d _ _ h => by cases d <;> exact h) ⟨rfl, rfl, rfl, Nat.le_refl _, fun _ _ => rfl⟩ ?_
          simp only [opsOf, List.filterMap_cons, List.filterMap_nil, Option.map_some, List.getElem?_toArray, List.getElem?_cons_zero, List.getElem?_cons_succ]
          generalize hW0 : ({ heap := wr.heap, tape := wr.tape, drawn := wr.drawn + 1, os := wr.os, output := wr.output } : World) = v0
          have hv0 : Below wr.heap.size wr v0 := by rw [← hW0]; exact ⟨rfl, rfl, rfl, Nat.le_refl _, fun _ _ => rfl⟩
          clear hW0
          refine sched_run (v := ?_) (by rfl) ?_ ?_
          rotate_left
          · (intro w' hS'; go_simp; try with_reducible rfl)
          try simp only [Act.put, List.setIfInBounds_toArray, List.set_cons_zero, List.set_cons_succ]
          refine sched_run (v := ?_) (by rfl) ?_ ?_
          rotate_left
          · (intro w' hS'; go_simp; try with_reducible rfl)
          try simp only [Act.put, List.setIfInBounds_toArray, List.set_cons_zero, List.set_cons_succ]
          refine sched_run (v := ?_) (by rfl) ?_ ?_
          rotate_left
          · (intro w' hS'; go_simp; try with_reducible rfl)
          try simp only [Act.put, List.setIfInBounds_toArray, List.set_cons_zero, List.set_cons_succ]
          refine sched_run (v := ?_) (by rfl) ?_ ?_
          rotate_left
          · (intro w' hS'; go_simp; try with_reducible rfl)
          try simp only [Act.put, List.setIfInBounds_toArray, List.set_cons_zero, List.set_cons_succ]
          refine sched_run (v := ?_) (by rfl) ?_ ?_
          rotate_left
          · (intro w' hS'; obtain ⟨r0, r1⟩ := HLD.out w' hS'; go_simp; try with_reducible rfl)
          try simp only [Act.put, List.setIfInBounds_toArray, List.set_cons_zero, List.set_cons_succ]
          refine sched_run (v := ?_) (by rfl) ?_ ?_
          rotate_left
          · (intro w' hS'; go_simp; try with_reducible rfl)
          try simp only [Act.put, List.setIfInBounds_toArray, List.set_cons_zero, List.set_cons_succ]
          refine sched_run (v := ?_) (by rfl) ?_ ?_
          rotate_left
          · (intro w' hS'; go_simp; try with_reducible rfl)
          try simp only [Act.put, List.setIfInBounds_toArray, List.set_cons_zero, List.set_cons_succ]
          refine sched_run (v := ?_) (by rfl) ?_ ?_
          rotate_left
          · (intro w' hS'; go_simp; try with_reducible rfl)
          try simp only [Act.put, List.setIfInBounds_toArray, List.set_cons_zero, List.set_cons_succ]
          refine sched_run (v := ?_) (by rfl) ?_ ?_
          rotate_left
          · (intro w' hS'; go_simp; try with_reducible rfl)
          try simp only [Act.put, List.setIfInBounds_toArray, List.set_cons_zero, List.set_cons_succ]
          refine sched_run (v := ?_) (by rfl) ?_ ?_
          rotate_left
          · (intro w' hS'; obtain ⟨r0, r1⟩ := HLD.out w' hS'; go_simp; try with_reducible rfl)
          try simp only [Act.put, List.setIfInBounds_toArray, List.set_cons_zero, List.set_cons_succ]
          refine sched_call (by rfl) (fun K hK => ?_)
          go_simp
          refine (l7Part_q r.1 r.2.1 (j : Int) HQ.out _ HF.out).mono ?_
          rintro e v1 ⟨rfl, hbv0⟩
          have hv1 : Below wr.heap.size wr v1 := hv0.trans (hbv0.mono hv0.size)
          clear hbv0
          refine hK _ _ hv1 ?_
          try simp only [Act.put, List.setIfInBounds_toArray, List.set_cons_zero, List.set_cons_succ]
          refine sched_run (v := ?_) (by rfl) ?_ ?_
          rotate_left
          · (intro w' hS'; go_simp; try with_reducible rfl)
          try simp only [Act.put, List.setIfInBounds_toArray, List.set_cons_zero, List.set_cons_succ]
          refine sched_done ?_
          have HBT1 : Hid (But [w.heap.size] X v1) := HBT.out.trans (But.of_below hv1 _)
          have HG1 : Hid (v1.heap[w.heap.size]? = some (.cells (ilv vs m).toArray 100 (0, 0))) := (hv1.block _ (heap_lt HG.out)).trans HG.out
          have HO1 : Hid (OwnF v1 X.heap.size vs (laidP (S.take k)) 40) := HO.out.kept fun v n xs h => own_below h hv1
          clear hv1 hv0 p0 p1 p2 p3 hbl HLD HO HG HBT
          have q0 : v1.cell? ⟨w.heap.size, j * 2, none⟩ = some vj := by rw [cell_of_heap HG1.out, List.getElem?_toArray]; exact (ilv_get HVJ.out).1
          have qf : v1.frozen? ⟨w.heap.size, j * 2, none⟩ = false := frozen_of_heap HG1.out
          have hqz := heap_lt HG1.out
          have HLE := HRC
          obtain ⟨p0, p1, p2, p3⟩ := HRC.out _ HBT1.out
          go_wp2_with fail
          clear p0 p1 p2 p3
          refine wp_region_stps (fun w' => But [w.heap.size] X w') [.run 0, .run 1, .run 2, .run 3, .run 4, .run 5, .run 7, .run 8, .run 9, .run 10, .two 6 11, .one 12, .run 13, .run 14, .one 15] (by kernel_rfl) (by kernel_rfl) (by kernel_rfl) (by kernel_rfl) (fun _ _ d _ _ h => by cases d <;> exact h) (HBT1.out.drewN 1) ?_
          simp only [stpsOf, stpOf, List.filterMap_cons, List.filterMap_nil, Option.map_some, Option.bind_some, List.getElem?_toArray, List.getElem?_cons_zero, List.getElem?_cons_succ]
          generalize hW0 : ({ heap := v1.heap, tape := v1.tape, drawn := v1.drawn + 1, os := v1.os, output := v1.output } : World) = x0
          have HBT0 : Hid (But [w.heap.size] X x0) := by rw [← hW0]; exact HBT1.out.drewN 1
          have HG0 : Hid (x0.heap[w.heap.size]? = some (.cells (ilv vs m).toArray 100 (0, 0))) := by rw [← hW0]; exact HG1.out
          have HO0 : Hid (OwnF x0 X.heap.size vs (laidP (S.take k)) 40) := by rw [← hW0]; exact HO1.out.kept fun v n xs h => h
          obtain ⟨vj2, nj2, hvj2, hown2⟩ := HO0.out.own j hjl
          obtain rfl : vj = vj2 := by have h := HVJ.out; rw [hvj2] at h; injection h with h; exact h.symm
          have hnn : nj = nj2 := by have h1 := HNJL.out; have h2 := hown2.1; omega
          subst hnn
          have HOJ0 : Hid (x0.ownsRow X.heap.size 40 4 vj nj (rcs (laidP (S.take k))[j])) := hown2
          have q00 : x0.cell? ⟨w.heap.size, j * 2, none⟩ = some vj := by rw [← hW0]; exact q0
          clear hW0 q0 qf hqz HBT1 HG1 HO1 hvj2 hown2
          refine stp_run (v := ?_) (by rfl) ?_ ?_
          rotate_left
          · (intro w' hS'; go_simp; try with_reducible rfl)
          try simp only [Act.put, List.setIfInBounds_toArray, List.set_cons_zero, List.set_cons_succ]
          refine stp_run (v := ?_) (by rfl) ?_ ?_
          rotate_left
          · (intro w' hS'; go_simp; try with_reducible rfl)
          try simp only [Act.put, List.setIfInBounds_toArray, List.set_cons_zero, List.set_cons_succ]
          refine stp_run (v := ?_) (by rfl) ?_ ?_
          rotate_left
          · (intro w' hS'; go_simp; try with_reducible rfl)
          try simp only [Act.put, List.setIfInBounds_toArray, List.set_cons_zero, List.set_cons_succ]
          refine stp_run (v := ?_) (by rfl) ?_ ?_
          rotate_left
          · (intro w' hS'; go_simp; try with_reducible rfl)
          try simp only [Act.put, List.setIfInBounds_toArray, List.set_cons_zero, List.set_cons_succ]
          refine stp_run (v := ?_) (by rfl) ?_ ?_
          rotate_left
          · (intro w' hS'; go_simp; try with_reducible rfl)
          try simp only [Act.put, List.setIfInBounds_toArray, List.set_cons_zero, List.set_cons_succ]
          refine stp_run (v := ?_) (by rfl) ?_ ?_
          rotate_left
          · (intro w' hS'; go_simp; try with_reducible rfl)
          try simp only [Act.put, List.setIfInBounds_toArray, List.set_cons_zero, List.set_cons_succ]
          refine stp_run (v := ?_) (by rfl) ?_ ?_
          rotate_left
          · (intro w' hS'; go_simp; try with_reducible rfl)
          try simp only [Act.put, List.setIfInBounds_toArray, List.set_cons_zero, List.set_cons_succ]
          refine stp_run (v := ?_) (by rfl) ?_ ?_
          rotate_left
          · (intro w' hS'; go_simp; try with_reducible rfl)
          try simp only [Act.put, List.setIfInBounds_toArray, List.set_cons_zero, List.set_cons_succ]
          refine stp_run (v := ?_) (by rfl) ?_ ?_
          rotate_left
          · (intro w' hS'; go_simp; try with_reducible rfl)
          try simp only [Act.put, List.setIfInBounds_toArray, List.set_cons_zero, List.set_cons_succ]
          refine stp_run (v := ?_) (by rfl) ?_ ?_
          rotate_left
          · (intro w' hS'; obtain ⟨l1, l2, l3, l4⟩ := HLE.out w' hS'; go_simp; try with_reducible rfl)
          try simp only [Act.put, List.setIfInBounds_toArray, List.set_cons_zero, List.set_cons_succ]
          refine stp_two (by rfl) (by rfl) (fun K hK => ?_) (fun K hK => ?_)
          · go_simp
            refine hK _ _ HBT0.out (by rfl) (fun K' hK' => ?_)
            go_simp
            refine hK' _ _ (HBT0.out.alloc _) ?_
            try simp only [Act.put, List.setIfInBounds_toArray, List.set_cons_zero, List.set_cons_succ]
            refine stp_one (by rfl) (fun K2 hK2 => ?_)
            refine wp_append_o (.tmp 47) (.tmp 52) 24 rfl X.heap.size 40 i0 (rv (0, 0, 0, 0)) 4 32 Tryz.underlying24 hi hz hsz hby rfl (by decide) vj nj _ rfl (HOJ0.out.alloc _) ⟨x0.heap.size, 0, none⟩ 1 1 (rc r) rfl rfl (rc_new r) (rc_one _) ?c1 ?c2 ?c3 (by omega) ?_
            case c1 => have := HNJ.out; unfold maxLen; omega
            case c2 => have := HNJ.out; omega
            case c3 => have := HBT0.out.size; simp; omega
            intro v2 w2 hown2 hgrow2 hwh
            have hb2 : But [w.heap.size] X w2 := but_grown (HBT0.out.alloc (.cells #[.int .i64 r.1, .int .i64 r.2.1, .int .i64 r.2.2.1, .int .i64 r.2.2.2] 40)) hgrow2 (fun g hg => own_base' (HOJ0.out.alloc (.cells #[.int .i64 r.1, .int .i64 r.2.1, .int .i64 r.2.2.1, .int .i64 r.2.2.2] 40)) hg)
            have hg2 : w2.heap[w.heap.size]? = some (.cells (ilv vs m).toArray 100 (0, 0)) := (hgrow2.block _ (Nat.lt_of_lt_of_le (heap_lt HG0.out) (by simp)) (fun e => by have := own_base' HOJ0.out e.symm; have := HZX.out; omega)).trans (heap_old HG0.out)
            have ho2 := OwnF.step (HO0.out.kept fun v n xs h => h.alloc (.cells #[.int .i64 r.1, .int .i64 r.2.1, .int .i64 r.2.2.1, .int .i64 r.2.2.2] 40)) hjl HVJ.out (l' := (laidP (S.take k))[j] ++ [r]) (n := nj + 1) (by rw [rcs_append]; exact hown2) hgrow2 hwh
            rw [← HST.out] at ho2
            have q2 : w2.cell? ⟨w.heap.size, j * 2, none⟩ = some vj := by rw [cell_of_heap hg2, List.getElem?_toArray]; exact (ilv_get HVJ.out).1
            have qf2 : w2.frozen? ⟨w.heap.size, j * 2, none⟩ = false := frozen_of_heap hg2
            have qz2 := heap_lt hg2
            obtain ⟨gv, cv, hv2⟩ : ∃ g cap, v2 = .slice (some ⟨g, 0, none⟩) (nj + 1) cap := by
              rcases hown2.2 with ⟨_, h⟩ | ⟨g, cap, cur, h, _⟩
              · omega
              · exact ⟨g, cap, h⟩
            subst hv2
            have HB2 := Lib.hid hb2; have HG2 := Lib.hid hg2; have HO2 := Lib.hid ho2
            clear hb2 hg2 ho2 hown2 hgrow2 hwh
            refine hK2 _ _ HB2.out ?_
            try simp only [Act.put, List.setIfInBounds_toArray, List.set_cons_zero, List.set_cons_succ]
            refine stp_run (v := ?_) (by rfl) ?_ ?_
            rotate_left
            · (intro w' hS'; go_simp; try with_reducible rfl)
            try simp only [Act.put, List.setIfInBounds_toArray, List.set_cons_zero, List.set_cons_succ]
            refine stp_run (v := ?_) (by rfl) ?_ ?_
            rotate_left
            · (intro w' hS'; go_simp; try with_reducible rfl)
            try simp only [Act.put, List.setIfInBounds_toArray, List.set_cons_zero, List.set_cons_succ]
            refine stp_one (by rfl) (fun K3 hK3 => ?_)
            go_simp
            have hb3 := HB2.out.setCell (p := ⟨w.heap.size, j * 2, none⟩) (by simp) (.slice (some ⟨gv, 0, none⟩) (nj + 1) cv)
            refine hK3 _ _ hb3 ?_
            refine stp_done ?_
            have hg3 := heap_set1 (i := j * 2) (v := .slice (some ⟨gv, 0, none⟩) (nj + 1) cv) HG2.out
            rw [List.setIfInBounds_toArray, ilv_set (by have := HVL.out; omega)] at hg3
            have ho3 := HO2.out.kept (w' := w2.setCell ⟨w.heap.size, j * 2, none⟩ (.slice (some ⟨gv, 0, none⟩) (nj + 1) cv)) fun v n xs h => h.kept (row := some w.heap.size) ⟨rfl, rfl, rfl, by simp [World.setCell], fun x _ hx => Below.heap_setCell _ _ _ _ (fun e => hx (by rw [e]))⟩ (by
              cases hv : v.ownBlock with
              | none => exact .inl rfl
              | some g => exact .inr fun e => by have := own_base' h hv; injection e with e; have := HZX.out; omega)
            have HG3 := Lib.hid hg3; have HO3 := Lib.hid ho3; have HB3 := Lib.hid hb3
            clear hg3 ho3 hb3
            go_wp2_with fail
            exact ⟨⟨k + 1, by omega, by go_num, _, HO3, HG3, HB3⟩, by simp [intOf]; omega⟩
          · go_simp
            have q01 : (x0.alloc (.cells #[.int .i64 r.1, .int .i64 r.2.1, .int .i64 r.2.2.1, .int .i64 r.2.2.2] 40)).cell? ⟨w.heap.size, j * 2, none⟩ = some vj := (Below.cell (w := x0) (below_new _) (heap_lt HG0.out)).trans q00
            refine hK _ _ (HBT0.out.alloc _) (by rfl) (fun K' hK' => ?_)
            go_simp
            refine hK' _ _ (HBT0.out.alloc _) ?_
            try simp only [Act.put, List.setIfInBounds_toArray, List.set_cons_zero, List.set_cons_succ]
            refine stp_one (by rfl) (fun K2 hK2 => ?_)
            refine wp_append_o (.tmp 47) (.tmp 52) 24 rfl X.heap.size 40 i0 (rv (0, 0, 0, 0)) 4 32 Tryz.underlying24 hi hz hsz hby rfl (by decide) vj nj _ rfl (HOJ0.out.alloc _) ⟨x0.heap.size, 0, none⟩ 1 1 (rc r) rfl rfl (rc_new r) (rc_one _) ?c1 ?c2 ?c3 (by omega) ?_
            case c1 => have := HNJ.out; unfold maxLen; omega
            case c2 => have := HNJ.out; omega
            case c3 => have := HBT0.out.size; simp; omega
            intro v2 w2 hown2 hgrow2 hwh
            have hb2 : But [w.heap.size] X w2 := but_grown (HBT0.out.alloc (.cells #[.int .i64 r.1, .int .i64 r.2.1, .int .i64 r.2.2.1, .int .i64 r.2.2.2] 40)) hgrow2 (fun g hg => own_base' (HOJ0.out.alloc (.cells #[.int .i64 r.1, .int .i64 r.2.1, .int .i64 r.2.2.1, .int .i64 r.2.2.2] 40)) hg)
            have hg2 : w2.heap[w.heap.size]? = some (.cells (ilv vs m).toArray 100 (0, 0)) := (hgrow2.block _ (Nat.lt_of_lt_of_le (heap_lt HG0.out) (by simp)) (fun e => by have := own_base' HOJ0.out e.symm; have := HZX.out; omega)).trans (heap_old HG0.out)
            have ho2 := OwnF.step (HO0.out.kept fun v n xs h => h.alloc (.cells #[.int .i64 r.1, .int .i64 r.2.1, .int .i64 r.2.2.1, .int .i64 r.2.2.2] 40)) hjl HVJ.out (l' := (laidP (S.take k))[j] ++ [r]) (n := nj + 1) (by rw [rcs_append]; exact hown2) hgrow2 hwh
            rw [← HST.out] at ho2
            have q2 : w2.cell? ⟨w.heap.size, j * 2, none⟩ = some vj := by rw [cell_of_heap hg2, List.getElem?_toArray]; exact (ilv_get HVJ.out).1
            have qf2 : w2.frozen? ⟨w.heap.size, j * 2, none⟩ = false := frozen_of_heap hg2
            have qz2 := heap_lt hg2
            obtain ⟨gv, cv, hv2⟩ : ∃ g cap, v2 = .slice (some ⟨g, 0, none⟩) (nj + 1) cap := by
              rcases hown2.2 with ⟨_, h⟩ | ⟨g, cap, cur, h, _⟩
              · omega
              · exact ⟨g, cap, h⟩
            subst hv2
            have HB2 := Lib.hid hb2; have HG2 := Lib.hid hg2; have HO2 := Lib.hid ho2
            clear hb2 hg2 ho2 hown2 hgrow2 hwh
            refine hK2 _ _ HB2.out ?_
            try simp only [Act.put, List.setIfInBounds_toArray, List.set_cons_zero, List.set_cons_succ]
            refine stp_run (v := ?_) (by rfl) ?_ ?_
            rotate_left
            · (intro w' hS'; go_simp; try with_reducible rfl)
            try simp only [Act.put, List.setIfInBounds_toArray, List.set_cons_zero, List.set_cons_succ]
            refine stp_run (v := ?_) (by rfl) ?_ ?_
            rotate_left
            · (intro w' hS'; go_simp; try with_reducible rfl)
            try simp only [Act.put, List.setIfInBounds_toArray, List.set_cons_zero, List.set_cons_succ]
            refine stp_one (by rfl) (fun K3 hK3 => ?_)
            go_simp
            have hb3 := HB2.out.setCell (p := ⟨w.heap.size, j * 2, none⟩) (by simp) (.slice (some ⟨gv, 0, none⟩) (nj + 1) cv)
            refine hK3 _ _ hb3 ?_
            refine stp_done ?_
            have hg3 := heap_set1 (i := j * 2) (v := .slice (some ⟨gv, 0, none⟩) (nj + 1) cv) HG2.out
            rw [List.setIfInBounds_toArray, ilv_set (by have := HVL.out; omega)] at hg3
            have ho3 := HO2.out.kept (w' := w2.setCell ⟨w.heap.size, j * 2, none⟩ (.slice (some ⟨gv, 0, none⟩) (nj + 1) cv)) fun v n xs h => h.kept (row := some w.heap.size) ⟨rfl, rfl, rfl, by simp [World.setCell], fun x _ hx => Below.heap_setCell _ _ _ _ (fun e => hx (by rw [e]))⟩ (by
              cases hv : v.ownBlock with
              | none => exact .inl rfl
              | some g => exact .inr fun e => by have := own_base' h hv; injection e with e; have := HZX.out; omega)
            have HG3 := Lib.hid hg3; have HO3 := Lib.hid ho3; have HB3 := Lib.hid hb3
            clear hg3 ho3 hb3
            go_wp2_with fail
            exact ⟨⟨k + 1, by omega, by go_num, _, HO3, HG3, HB3⟩, by simp [intOf]; omega⟩
        · obtain rfl : k = S.length := by omega
          have ho := HO.out
          rw [List.take_length, HS.out] at ho
          have hb3 : Below w.heap.size w wr := HB1.out.trans (HBT.out.below HB1.out.size (by intro x hx; simp at hx; omega))
          have HX := Lib.hid (And.intro ho hb3)
          clear ho hb3
          go_wp2
          go_ret
          exact ⟨w.heap.size, X.heap.size, vs, rfl, HG.out, HX.out.1, Nat.le_refl _, HZX.out, HX.out.2⟩
theorem l7From_c (A : Option Addr) (c : Nat) (rs : List R) (m : Int) (w : World) (fp : List Nat) (hs : rs.length ≤ 12) (hfit : Fits rs) (ha : Rd w 4 (.slice A rs.length c) (rcs rs) fp) :
    Calls Tryz.prog 31 #[.slice A rs.length c, .int .i64 m] w (CopySl partK w (partsOf rs m)) :=
  (l7From_o A c rs m w fp hs hfit ha).mono fun _ _ h => h.copy

end Go.Proofs.YtldimfmhbdhbnaaGreat
