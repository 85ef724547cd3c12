/-
  The model's functions of chapter 7, first part: the faults of parts. By a maker (gen7.py).
-/
import Derived.Test.YtldimfmhbdhbnaaSum7
import Derived.Test.YtldimfmhbdhbnaaG21
import Derived.Test.YtldimfmhbdhbnaaG11
import Derived.Test.YtldimfmhbdhbnaaG23
namespace Go.Proofs.Ytldimfmhbdhbnaa
open Go.RowKit

theorem l7Part_q (l s Q : Int) (hQ : partI l s = Q) (w : World) (hf : 0 ≤ l ∧ l ≤ 3 ∧ 1 ≤ s ∧ s ≤ 20) :
    Calls Try.prog 136 #[.int .i64 l, .int .i64 s] w fun e w' => e = .returned (.int .i64 Q) ∧ Below w.heap.size w w' := by
  subst hQ
  exact l7Part_c l s w hf.1 hf.2.1 hf.2.2.1 hf.2.2.2
theorem l6Nothing_b (b off : Nat) (r : R) (v : Bool) (hv : emptyB r = v) (w : World) (h : RowAt w b off r) :
    Calls Try.prog 113 #[.pointer (some ⟨b, off, none⟩)] w fun e w' => e = .returned (.bool v) ∧ Below w.heap.size w w' := by
  subst hv
  exact (l6Nothing_c b off r w h).mono fun e w' ⟨he, hw⟩ => ⟨he, hw ▸ Below.refl _ _⟩

set_option maxRecDepth 100000 in
set_option maxHeartbeats 4000000 in
theorem l7One_c (g o : Nat) (A : Option Addr) (c : Nat) (p : Pt) (at_ : Int) (w : World) (fp : List Nat) (hg0 : w.cell? ⟨g, o, none⟩ = some (.slice A p.rows.length c)) (hg1 : w.cell? ⟨g, o + 1, none⟩ = some (.int .i64 p.mark)) (hgz : g < w.heap.size)
    (ha : Rd w 4 (.slice A p.rows.length c) (rcs p.rows) fp) :
    Calls Try.prog 120 #[.pointer (some ⟨g, o, none⟩), .int .i64 at_] w fun e w' => e = .returned (.int .i64 (partF p at_)) ∧ Below w.heap.size w w' := by
  obtain ⟨rs, m⟩ := p
  simp only at hg0 hg1 ha
  have hmax := ha.len_le
  have HA := Lib.hid ha
  clear ha
  cases h2 : inB m 0 999
  case false =>
    rw [partF_mark (p := ⟨rs, m⟩) h2]
    have H2 := Lib.hid h2; clear h2
    go_enter Try.func120, Try.ntmps120
    go_wp2_with fail
    refine (l1In_c m 0 999 _).mono ?_
    rw [H2.out]
    rintro e w' ⟨rfl, hw⟩
    subst hw
    go_wp2
    go_ret
    exact ⟨rfl, Below.refl _ _⟩
  rw [partF_rows (p := ⟨rs, m⟩) h2]
  have H2 := Lib.hid h2; clear h2
  by_cases h0 : rowsF rs = 0
  case neg =>
    rw [fitF_rows h0]
    generalize hr : rowsF rs = V at h0
    have HR := Lib.hid hr; clear hr
    have t1 : (V != 0) = true := by simpa using h0
    go_enter Try.func120, Try.ntmps120
    go_wp2_with fail
    refine (l1In_c m 0 999 _).mono ?_
    rw [H2.out]
    rintro e w' ⟨rfl, hw⟩
    subst hw
    go_wp2_with fail
    refine (l2Fault_c A c rs _ fp HA.out).mono ?_
    rintro e w2 ⟨rfl, hw⟩
    rw [HR.out]
    have HW : Hid (Qt w w2) := hw
    clear hw
    go_wp2
    go_ret
    exact ⟨rfl, HW.out.below⟩
  rw [fitF_rest h0]
  generalize hV : restQ (fitB at_) rs 0 = V
  have HV := Lib.hid hV; clear hV
  have HFT := Lib.hid (rowsF_fits h0).1
  have H0 := Lib.hid h0; clear h0
  go_enter Try.func120, Try.ntmps120
  go_wp2_with fail
  refine (l1In_c m 0 999 _).mono ?_
  rw [H2.out]
  rintro e w' ⟨rfl, hw⟩
  subst hw
  go_wp2_with fail
  refine (l2Fault_c A c rs _ fp HA.out).mono ?_
  rintro e w2 ⟨rfl, hw⟩
  rw [H0.out]
  have HQ0 : Hid (Qt w w2) := hw
  clear hw
  have HB := Lib.hid HQ0.out.below
  go_wp2_with fail
  go_loopw [6] (fun i wr => ∃ k : Nat, k ≤ rs.length ∧ i = .int .i64 k ∧ Hid (Below w.heap.size w wr) ∧ Hid (restQ (fitB at_) rs k = V)) (fun i _ => rs.length - (intOf i).toNat)
  case atStart => exact ⟨0, Nat.zero_le _, rfl, HB, HV⟩
  case round =>
    clear HB HV HQ0
    obtain ⟨k, hk, rfl, HB, HRS⟩ := hrel
    have g0 := (HB.out.cell (p := ⟨g, o, none⟩) hgz).trans hg0
    have gz := Nat.lt_of_lt_of_le hgz HB.out.size
    by_cases hlt : k < rs.length
    · obtain ⟨b, off, rfl, _, hbl, p0, p1, p2, p3⟩ := (HA.out.below' HB.out).row_at hlt
      have hok := @restQ_ok (fitB at_) rs k hlt
      have hbad := @restQ_bad (fitB at_) rs k hlt
      have hf := HFT.out k hlt
      generalize rs[k] = r at *
      have HF : Hid (0 ≤ r.1 ∧ r.1 ≤ 3 ∧ 1 ≤ r.2.1 ∧ r.2.1 ≤ 20) := hf
      have HOK := Lib.hid hok; have HBAD := Lib.hid hbad
      clear hok hbad hf hg0 hg1
      obtain ⟨Q, hq⟩ : ∃ Q, Q = rpart r := ⟨_, rfl⟩
      have HQ : Hid (partI r.1 r.2.1 = Q) := hq.symm
      have HQR := Lib.hid hq; clear hq
      have hi0 : (0 : Int) ≤ (k : Int) := by omega
      have hi1 : (k : Int) < (rs.length : Int) := by omega
      generalize hn : rs.length = n at *
      have HN := Lib.hid hn; clear hn
      by_cases h1 : Q = at_
      case neg =>
        have hfb : fitB at_ r = false := by unfold fitB; rw [← HQR.out]; simp [h1]
        have hs2 : V = 1 := HRS.out.symm.trans (HBAD.out hfb)
        have HS := Lib.hid hs2
        have t1 : (Q != at_) = true := by simpa using h1
        clear hs2 hfb h1
        go_wp2_with fail
        have hld : ∀ w', Below wr.heap.size wr w' → w'.cell? ⟨g, o, none⟩ = some (.slice (some ⟨b, off, none⟩) n c) ∧ w'.cell? ⟨b, off + k * 4, none⟩ = some (.int .i64 r.1) ∧ w'.cell? ⟨b, off + k * 4 + 1, none⟩ = some (.int .i64 r.2.1) ∧ w'.cell? ⟨b, off + k * 4 + 2, none⟩ = some (.int .i64 r.2.2.1) ∧ w'.cell? ⟨b, off + k * 4 + 3, none⟩ = some (.int .i64 r.2.2.2) := fun w' h => ⟨(h.cell (p := ⟨g, o, none⟩) gz).trans g0, (h.cell (p := ⟨b, off + k * 4, none⟩) hbl).trans p0, (h.cell (p := ⟨b, off + k * 4 + 1, none⟩) hbl).trans p1, (h.cell (p := ⟨b, off + k * 4 + 2, none⟩) hbl).trans p2, (h.cell (p := ⟨b, off + k * 4 + 3, none⟩) hbl).trans p3⟩
        have HLD := Lib.hid hld; clear hld
        refine wp_region_sched (fun w' => Below wr.heap.size wr w') [(0, true), (1, true), (2, true), (3, true), (4, true), (5, true), (6, true), (7, true), (8, true), (9, true), (10, true), (11, true), (12, true), (13, true), (14, true), (15, true), (17, true), (16, false), (18, true), (19, true), (20, true), (21, true), (22, true), (23, true), (24, true), (25, true), (26, false), (27, true)] (by kernel_rfl) (by kernel_rfl) (by kernel_rfl) (by kernel_rfl) (fun _ _ d _ _ h => by cases d <;> exact h) ⟨rfl, rfl, rfl, Nat.le_refl _, fun _ _ => rfl⟩ ?_
        simp only [opsOf, List.filterMap_cons, List.filterMap_nil, Option.map_some, List.getElem?_toArray, List.getElem?_cons_zero, List.getElem?_cons_succ]
        generalize hW0 : ({ heap := wr.heap, tape := wr.tape, drawn := wr.drawn + 1, os := wr.os, output := wr.output } : World) = v0
        have hv0 : Below wr.heap.size wr v0 := by rw [← hW0]; exact ⟨rfl, rfl, rfl, Nat.le_refl _, fun _ _ => rfl⟩
        clear hW0
        refine sched_run (v := ?_) (by rfl) ?_ ?_
        rotate_left
        · (intro w' hS'; go_simp; try with_reducible rfl)
        try simp only [Act.put, List.setIfInBounds_toArray, List.set_cons_zero, List.set_cons_succ]
        refine sched_run (v := ?_) (by rfl) ?_ ?_
        rotate_left
        · (intro w' hS'; go_simp; try with_reducible rfl)
        try simp only [Act.put, List.setIfInBounds_toArray, List.set_cons_zero, List.set_cons_succ]
        refine sched_run (v := ?_) (by rfl) ?_ ?_
        rotate_left
        · (intro w' hS'; go_simp; try with_reducible rfl)
        try simp only [Act.put, List.setIfInBounds_toArray, List.set_cons_zero, List.set_cons_succ]
        refine sched_run (v := ?_) (by rfl) ?_ ?_
        rotate_left
        · (intro w' hS'; obtain ⟨g0, r0, r1, r2, r3⟩ := HLD.out w' hS'; go_simp; try with_reducible rfl)
        try simp only [Act.put, List.setIfInBounds_toArray, List.set_cons_zero, List.set_cons_succ]
        refine sched_run (v := ?_) (by rfl) ?_ ?_
        rotate_left
        · (intro w' hS'; go_simp; try with_reducible rfl)
        try simp only [Act.put, List.setIfInBounds_toArray, List.set_cons_zero, List.set_cons_succ]
        refine sched_run (v := ?_) (by rfl) ?_ ?_
        rotate_left
        · (intro w' hS'; go_simp; try with_reducible rfl)
        try simp only [Act.put, List.setIfInBounds_toArray, List.set_cons_zero, List.set_cons_succ]
        refine sched_run (v := ?_) (by rfl) ?_ ?_
        rotate_left
        · (intro w' hS'; go_simp; try with_reducible rfl)
        try simp only [Act.put, List.setIfInBounds_toArray, List.set_cons_zero, List.set_cons_succ]
        refine sched_run (v := ?_) (by rfl) ?_ ?_
        rotate_left
        · (intro w' hS'; obtain ⟨g0, r0, r1, r2, r3⟩ := HLD.out w' hS'; go_simp; try with_reducible rfl)
        try simp only [Act.put, List.setIfInBounds_toArray, List.set_cons_zero, List.set_cons_succ]
        refine sched_run (v := ?_) (by rfl) ?_ ?_
        rotate_left
        · (intro w' hS'; go_simp; try with_reducible rfl)
        try simp only [Act.put, List.setIfInBounds_toArray, List.set_cons_zero, List.set_cons_succ]
        refine sched_run (v := ?_) (by rfl) ?_ ?_
        rotate_left
        · (intro w' hS'; go_simp; try with_reducible rfl)
        try simp only [Act.put, List.setIfInBounds_toArray, List.set_cons_zero, List.set_cons_succ]
        refine sched_run (v := ?_) (by rfl) ?_ ?_
        rotate_left
        · (intro w' hS'; go_simp; try with_reducible rfl)
        try simp only [Act.put, List.setIfInBounds_toArray, List.set_cons_zero, List.set_cons_succ]
        refine sched_run (v := ?_) (by rfl) ?_ ?_
        rotate_left
        · (intro w' hS'; obtain ⟨g0, r0, r1, r2, r3⟩ := HLD.out w' hS'; go_simp; try with_reducible rfl)
        try simp only [Act.put, List.setIfInBounds_toArray, List.set_cons_zero, List.set_cons_succ]
        refine sched_run (v := ?_) (by rfl) ?_ ?_
        rotate_left
        · (intro w' hS'; go_simp; try with_reducible rfl)
        try simp only [Act.put, List.setIfInBounds_toArray, List.set_cons_zero, List.set_cons_succ]
        refine sched_run (v := ?_) (by rfl) ?_ ?_
        rotate_left
        · (intro w' hS'; go_simp; try with_reducible rfl)
        try simp only [Act.put, List.setIfInBounds_toArray, List.set_cons_zero, List.set_cons_succ]
        refine sched_run (v := ?_) (by rfl) ?_ ?_
        rotate_left
        · (intro w' hS'; go_simp; try with_reducible rfl)
        try simp only [Act.put, List.setIfInBounds_toArray, List.set_cons_zero, List.set_cons_succ]
        refine sched_run (v := ?_) (by rfl) ?_ ?_
        rotate_left
        · (intro w' hS'; obtain ⟨g0, r0, r1, r2, r3⟩ := HLD.out w' hS'; go_simp; try with_reducible rfl)
        try simp only [Act.put, List.setIfInBounds_toArray, List.set_cons_zero, List.set_cons_succ]
        refine sched_run (v := ?_) (by rfl) ?_ ?_
        rotate_left
        · (intro w' hS'; go_simp; try with_reducible rfl)
        try simp only [Act.put, List.setIfInBounds_toArray, List.set_cons_zero, List.set_cons_succ]
        refine sched_call (by rfl) (fun K hK => ?_)
        go_simp
        refine (l7Part_q r.1 r.2.1 Q HQ.out _ HF.out).mono ?_
        rintro e v1 ⟨rfl, hbv0⟩
        have hv1 : Below wr.heap.size wr v1 := hv0.trans (hbv0.mono hv0.size)
        clear hbv0
        refine hK _ _ hv1 ?_
        try simp only [Act.put, List.setIfInBounds_toArray, List.set_cons_zero, List.set_cons_succ]
        refine sched_run (v := ?_) (by rfl) ?_ ?_
        rotate_left
        · (intro w' hS'; go_simp; try with_reducible rfl)
        try simp only [Act.put, List.setIfInBounds_toArray, List.set_cons_zero, List.set_cons_succ]
        refine sched_run (v := ?_) (by rfl) ?_ ?_
        rotate_left
        · (intro w' hS'; go_simp; try with_reducible rfl)
        try simp only [Act.put, List.setIfInBounds_toArray, List.set_cons_zero, List.set_cons_succ]
        refine sched_skip (by rfl) ?_
        try simp only [Act.put, List.setIfInBounds_toArray, List.set_cons_zero, List.set_cons_succ]
        refine sched_skip (by rfl) ?_
        try simp only [Act.put, List.setIfInBounds_toArray, List.set_cons_zero, List.set_cons_succ]
        refine sched_skip (by rfl) ?_
        try simp only [Act.put, List.setIfInBounds_toArray, List.set_cons_zero, List.set_cons_succ]
        refine sched_skip (by rfl) ?_
        try simp only [Act.put, List.setIfInBounds_toArray, List.set_cons_zero, List.set_cons_succ]
        refine sched_skip (by rfl) ?_
        try simp only [Act.put, List.setIfInBounds_toArray, List.set_cons_zero, List.set_cons_succ]
        refine sched_skip (by rfl) ?_
        try simp only [Act.put, List.setIfInBounds_toArray, List.set_cons_zero, List.set_cons_succ]
        refine sched_skip' (by rfl) ?_
        try simp only [Act.put, List.setIfInBounds_toArray, List.set_cons_zero, List.set_cons_succ]
        refine sched_run (v := ?_) (by rfl) ?_ ?_
        rotate_left
        · (intro w' hS'; go_simp; try with_reducible rfl)
        try simp only [Act.put, List.setIfInBounds_toArray, List.set_cons_zero, List.set_cons_succ]
        refine sched_done ?_
        go_wp2_with fail
        go_ret
        exact ⟨congrArg (fun z => Ending.returned (Value.int .i64 z)) HS.out.symm, HB.out.trans (hv1.mono HB.out.size)⟩
      have t1 : (Q != at_) = false := by simpa using h1
      cases he : emptyB r
      all_goals
        have HE := Lib.hid he
      · have hfb : fitB at_ r = true := fitB_true.2 ⟨by rw [← HQR.out]; exact h1, he⟩
        have hs2 : restQ (fitB at_) rs (k + 1) = V := (HOK.out hfb).symm.trans HRS.out
        have HS := Lib.hid hs2
        clear hs2 hfb h1 he
        go_wp2_with fail
        have hld : ∀ w', Below wr.heap.size wr w' → w'.cell? ⟨g, o, none⟩ = some (.slice (some ⟨b, off, none⟩) n c) ∧ w'.cell? ⟨b, off + k * 4, none⟩ = some (.int .i64 r.1) ∧ w'.cell? ⟨b, off + k * 4 + 1, none⟩ = some (.int .i64 r.2.1) ∧ w'.cell? ⟨b, off + k * 4 + 2, none⟩ = some (.int .i64 r.2.2.1) ∧ w'.cell? ⟨b, off + k * 4 + 3, none⟩ = some (.int .i64 r.2.2.2) := fun w' h => ⟨(h.cell (p := ⟨g, o, none⟩) gz).trans g0, (h.cell (p := ⟨b, off + k * 4, none⟩) hbl).trans p0, (h.cell (p := ⟨b, off + k * 4 + 1, none⟩) hbl).trans p1, (h.cell (p := ⟨b, off + k * 4 + 2, none⟩) hbl).trans p2, (h.cell (p := ⟨b, off + k * 4 + 3, none⟩) hbl).trans p3⟩
        have HLD := Lib.hid hld; clear hld
        refine wp_region_sched (fun w' => Below wr.heap.size wr w') [(0, true), (1, true), (2, true), (3, true), (4, true), (5, true), (6, true), (7, true), (8, true), (9, true), (10, true), (11, true), (12, true), (13, true), (14, true), (15, true), (17, true), (16, false), (18, true), (19, true), (20, true), (21, true), (22, true), (23, true), (24, true), (25, true), (26, false), (27, true)] (by kernel_rfl) (by kernel_rfl) (by kernel_rfl) (by kernel_rfl) (fun _ _ d _ _ h => by cases d <;> exact h) ⟨rfl, rfl, rfl, Nat.le_refl _, fun _ _ => rfl⟩ ?_
        simp only [opsOf, List.filterMap_cons, List.filterMap_nil, Option.map_some, List.getElem?_toArray, List.getElem?_cons_zero, List.getElem?_cons_succ]
        generalize hW0 : ({ heap := wr.heap, tape := wr.tape, drawn := wr.drawn + 1, os := wr.os, output := wr.output } : World) = v0
        have hv0 : Below wr.heap.size wr v0 := by rw [← hW0]; exact ⟨rfl, rfl, rfl, Nat.le_refl _, fun _ _ => rfl⟩
        clear hW0
        refine sched_run (v := ?_) (by rfl) ?_ ?_
        rotate_left
        · (intro w' hS'; go_simp; try with_reducible rfl)
        try simp only [Act.put, List.setIfInBounds_toArray, List.set_cons_zero, List.set_cons_succ]
        refine sched_run (v := ?_) (by rfl) ?_ ?_
        rotate_left
        · (intro w' hS'; go_simp; try with_reducible rfl)
        try simp only [Act.put, List.setIfInBounds_toArray, List.set_cons_zero, List.set_cons_succ]
        refine sched_run (v := ?_) (by rfl) ?_ ?_
        rotate_left
        · (intro w' hS'; go_simp; try with_reducible rfl)
        try simp only [Act.put, List.setIfInBounds_toArray, List.set_cons_zero, List.set_cons_succ]
        refine sched_run (v := ?_) (by rfl) ?_ ?_
        rotate_left
        · (intro w' hS'; obtain ⟨g0, r0, r1, r2, r3⟩ := HLD.out w' hS'; go_simp; try with_reducible rfl)
        try simp only [Act.put, List.setIfInBounds_toArray, List.set_cons_zero, List.set_cons_succ]
        refine sched_run (v := ?_) (by rfl) ?_ ?_
        rotate_left
        · (intro w' hS'; go_simp; try with_reducible rfl)
        try simp only [Act.put, List.setIfInBounds_toArray, List.set_cons_zero, List.set_cons_succ]
        refine sched_run (v := ?_) (by rfl) ?_ ?_
        rotate_left
        · (intro w' hS'; go_simp; try with_reducible rfl)
        try simp only [Act.put, List.setIfInBounds_toArray, List.set_cons_zero, List.set_cons_succ]
        refine sched_run (v := ?_) (by rfl) ?_ ?_
        rotate_left
        · (intro w' hS'; go_simp; try with_reducible rfl)
        try simp only [Act.put, List.setIfInBounds_toArray, List.set_cons_zero, List.set_cons_succ]
        refine sched_run (v := ?_) (by rfl) ?_ ?_
        rotate_left
        · (intro w' hS'; obtain ⟨g0, r0, r1, r2, r3⟩ := HLD.out w' hS'; go_simp; try with_reducible rfl)
        try simp only [Act.put, List.setIfInBounds_toArray, List.set_cons_zero, List.set_cons_succ]
        refine sched_run (v := ?_) (by rfl) ?_ ?_
        rotate_left
        · (intro w' hS'; go_simp; try with_reducible rfl)
        try simp only [Act.put, List.setIfInBounds_toArray, List.set_cons_zero, List.set_cons_succ]
        refine sched_run (v := ?_) (by rfl) ?_ ?_
        rotate_left
        · (intro w' hS'; go_simp; try with_reducible rfl)
        try simp only [Act.put, List.setIfInBounds_toArray, List.set_cons_zero, List.set_cons_succ]
        refine sched_run (v := ?_) (by rfl) ?_ ?_
        rotate_left
        · (intro w' hS'; go_simp; try with_reducible rfl)
        try simp only [Act.put, List.setIfInBounds_toArray, List.set_cons_zero, List.set_cons_succ]
        refine sched_run (v := ?_) (by rfl) ?_ ?_
        rotate_left
        · (intro w' hS'; obtain ⟨g0, r0, r1, r2, r3⟩ := HLD.out w' hS'; go_simp; try with_reducible rfl)
        try simp only [Act.put, List.setIfInBounds_toArray, List.set_cons_zero, List.set_cons_succ]
        refine sched_run (v := ?_) (by rfl) ?_ ?_
        rotate_left
        · (intro w' hS'; go_simp; try with_reducible rfl)
        try simp only [Act.put, List.setIfInBounds_toArray, List.set_cons_zero, List.set_cons_succ]
        refine sched_run (v := ?_) (by rfl) ?_ ?_
        rotate_left
        · (intro w' hS'; go_simp; try with_reducible rfl)
        try simp only [Act.put, List.setIfInBounds_toArray, List.set_cons_zero, List.set_cons_succ]
        refine sched_run (v := ?_) (by rfl) ?_ ?_
        rotate_left
        · (intro w' hS'; go_simp; try with_reducible rfl)
        try simp only [Act.put, List.setIfInBounds_toArray, List.set_cons_zero, List.set_cons_succ]
        refine sched_run (v := ?_) (by rfl) ?_ ?_
        rotate_left
        · (intro w' hS'; obtain ⟨g0, r0, r1, r2, r3⟩ := HLD.out w' hS'; go_simp; try with_reducible rfl)
        try simp only [Act.put, List.setIfInBounds_toArray, List.set_cons_zero, List.set_cons_succ]
        refine sched_run (v := ?_) (by rfl) ?_ ?_
        rotate_left
        · (intro w' hS'; go_simp; try with_reducible rfl)
        try simp only [Act.put, List.setIfInBounds_toArray, List.set_cons_zero, List.set_cons_succ]
        refine sched_call (by rfl) (fun K hK => ?_)
        go_simp
        refine (l7Part_q r.1 r.2.1 Q HQ.out _ HF.out).mono ?_
        rintro e v1 ⟨rfl, hbv0⟩
        have hv1 : Below wr.heap.size wr v1 := hv0.trans (hbv0.mono hv0.size)
        clear hbv0
        refine hK _ _ hv1 ?_
        try simp only [Act.put, List.setIfInBounds_toArray, List.set_cons_zero, List.set_cons_succ]
        refine sched_run (v := ?_) (by rfl) ?_ ?_
        rotate_left
        · (intro w' hS'; go_simp; try with_reducible rfl)
        try simp only [Act.put, List.setIfInBounds_toArray, List.set_cons_zero, List.set_cons_succ]
        refine sched_run (v := ?_) (by rfl) ?_ ?_
        rotate_left
        · (intro w' hS'; go_simp; try with_reducible rfl)
        try simp only [Act.put, List.setIfInBounds_toArray, List.set_cons_zero, List.set_cons_succ]
        refine sched_run (v := ?_) (by rfl) ?_ ?_
        rotate_left
        · (intro w' hS'; go_simp; try with_reducible rfl)
        try simp only [Act.put, List.setIfInBounds_toArray, List.set_cons_zero, List.set_cons_succ]
        refine sched_run (v := ?_) (by rfl) ?_ ?_
        rotate_left
        · (intro w' hS'; go_simp; try with_reducible rfl)
        try simp only [Act.put, List.setIfInBounds_toArray, List.set_cons_zero, List.set_cons_succ]
        refine sched_run (v := ?_) (by rfl) ?_ ?_
        rotate_left
        · (intro w' hS'; go_simp; try with_reducible rfl)
        try simp only [Act.put, List.setIfInBounds_toArray, List.set_cons_zero, List.set_cons_succ]
        refine sched_run (v := ?_) (by rfl) ?_ ?_
        rotate_left
        · (intro w' hS'; obtain ⟨g0, r0, r1, r2, r3⟩ := HLD.out w' hS'; go_simp; try with_reducible rfl)
        try simp only [Act.put, List.setIfInBounds_toArray, List.set_cons_zero, List.set_cons_succ]
        refine sched_run (v := ?_) (by rfl) ?_ ?_
        rotate_left
        · (intro w' hS'; go_simp; try with_reducible rfl)
        try simp only [Act.put, List.setIfInBounds_toArray, List.set_cons_zero, List.set_cons_succ]
        refine sched_run (v := ?_) (by rfl) ?_ ?_
        rotate_left
        · (intro w' hS'; go_simp; try with_reducible rfl)
        try simp only [Act.put, List.setIfInBounds_toArray, List.set_cons_zero, List.set_cons_succ]
        refine sched_call (by rfl) (fun K hK => ?_)
        go_simp
        refine (l6Nothing_b b (off + k * 4) r _ HE.out _ (HLD.out _ hv1).2).mono ?_
        rintro e v2 ⟨rfl, hbv1⟩
        have hv2 : Below wr.heap.size wr v2 := hv1.trans (hbv1.mono hv1.size)
        clear hbv1
        refine hK _ _ hv2 ?_
        try simp only [Act.put, List.setIfInBounds_toArray, List.set_cons_zero, List.set_cons_succ]
        refine sched_run (v := ?_) (by rfl) ?_ ?_
        rotate_left
        · (intro w' hS'; go_simp; try with_reducible rfl)
        try simp only [Act.put, List.setIfInBounds_toArray, List.set_cons_zero, List.set_cons_succ]
        refine sched_done ?_
        have HB2 := Lib.hid (HB.out.trans (hv2.mono HB.out.size))
        go_wp2_with fail
        exact ⟨⟨k + 1, by omega, by go_num, HB2, HS⟩, by simp [intOf]; omega⟩
      · have hfb : fitB at_ r = false := by unfold fitB; rw [he]; simp
        have hs2 : V = 1 := HRS.out.symm.trans (HBAD.out hfb)
        have HS := Lib.hid hs2
        clear hs2 hfb h1 he
        go_wp2_with fail
        have hld : ∀ w', Below wr.heap.size wr w' → w'.cell? ⟨g, o, none⟩ = some (.slice (some ⟨b, off, none⟩) n c) ∧ w'.cell? ⟨b, off + k * 4, none⟩ = some (.int .i64 r.1) ∧ w'.cell? ⟨b, off + k * 4 + 1, none⟩ = some (.int .i64 r.2.1) ∧ w'.cell? ⟨b, off + k * 4 + 2, none⟩ = some (.int .i64 r.2.2.1) ∧ w'.cell? ⟨b, off + k * 4 + 3, none⟩ = some (.int .i64 r.2.2.2) := fun w' h => ⟨(h.cell (p := ⟨g, o, none⟩) gz).trans g0, (h.cell (p := ⟨b, off + k * 4, none⟩) hbl).trans p0, (h.cell (p := ⟨b, off + k * 4 + 1, none⟩) hbl).trans p1, (h.cell (p := ⟨b, off + k * 4 + 2, none⟩) hbl).trans p2, (h.cell (p := ⟨b, off + k * 4 + 3, none⟩) hbl).trans p3⟩
        have HLD := Lib.hid hld; clear hld
        refine wp_region_sched (fun w' => Below wr.heap.size wr w') [(0, true), (1, true), (2, true), (3, true), (4, true), (5, true), (6, true), (7, true), (8, true), (9, true), (10, true), (11, true), (12, true), (13, true), (14, true), (15, true), (17, true), (16, false), (18, true), (19, true), (20, true), (21, true), (22, true), (23, true), (24, true), (25, true), (26, false), (27, true)] (by kernel_rfl) (by kernel_rfl) (by kernel_rfl) (by kernel_rfl) (fun _ _ d _ _ h => by cases d <;> exact h) ⟨rfl, rfl, rfl, Nat.le_refl _, fun _ _ => rfl⟩ ?_
        simp only [opsOf, List.filterMap_cons, List.filterMap_nil, Option.map_some, List.getElem?_toArray, List.getElem?_cons_zero, List.getElem?_cons_succ]
        generalize hW0 : ({ heap := wr.heap, tape := wr.tape, drawn := wr.drawn + 1, os := wr.os, output := wr.output } : World) = v0
        have hv0 : Below wr.heap.size wr v0 := by rw [← hW0]; exact ⟨rfl, rfl, rfl, Nat.le_refl _, fun _ _ => rfl⟩
        clear hW0
        refine sched_run (v := ?_) (by rfl) ?_ ?_
        rotate_left
        · (intro w' hS'; go_simp; try with_reducible rfl)
        try simp only [Act.put, List.setIfInBounds_toArray, List.set_cons_zero, List.set_cons_succ]
        refine sched_run (v := ?_) (by rfl) ?_ ?_
        rotate_left
        · (intro w' hS'; go_simp; try with_reducible rfl)
        try simp only [Act.put, List.setIfInBounds_toArray, List.set_cons_zero, List.set_cons_succ]
        refine sched_run (v := ?_) (by rfl) ?_ ?_
        rotate_left
        · (intro w' hS'; go_simp; try with_reducible rfl)
        try simp only [Act.put, List.setIfInBounds_toArray, List.set_cons_zero, List.set_cons_succ]
        refine sched_run (v := ?_) (by rfl) ?_ ?_
        rotate_left
        · (intro w' hS'; obtain ⟨g0, r0, r1, r2, r3⟩ := HLD.out w' hS'; go_simp; try with_reducible rfl)
        try simp only [Act.put, List.setIfInBounds_toArray, List.set_cons_zero, List.set_cons_succ]
        refine sched_run (v := ?_) (by rfl) ?_ ?_
        rotate_left
        · (intro w' hS'; go_simp; try with_reducible rfl)
        try simp only [Act.put, List.setIfInBounds_toArray, List.set_cons_zero, List.set_cons_succ]
        refine sched_run (v := ?_) (by rfl) ?_ ?_
        rotate_left
        · (intro w' hS'; go_simp; try with_reducible rfl)
        try simp only [Act.put, List.setIfInBounds_toArray, List.set_cons_zero, List.set_cons_succ]
        refine sched_run (v := ?_) (by rfl) ?_ ?_
        rotate_left
        · (intro w' hS'; go_simp; try with_reducible rfl)
        try simp only [Act.put, List.setIfInBounds_toArray, List.set_cons_zero, List.set_cons_succ]
        refine sched_run (v := ?_) (by rfl) ?_ ?_
        rotate_left
        · (intro w' hS'; obtain ⟨g0, r0, r1, r2, r3⟩ := HLD.out w' hS'; go_simp; try with_reducible rfl)
        try simp only [Act.put, List.setIfInBounds_toArray, List.set_cons_zero, List.set_cons_succ]
        refine sched_run (v := ?_) (by rfl) ?_ ?_
        rotate_left
        · (intro w' hS'; go_simp; try with_reducible rfl)
        try simp only [Act.put, List.setIfInBounds_toArray, List.set_cons_zero, List.set_cons_succ]
        refine sched_run (v := ?_) (by rfl) ?_ ?_
        rotate_left
        · (intro w' hS'; go_simp; try with_reducible rfl)
        try simp only [Act.put, List.setIfInBounds_toArray, List.set_cons_zero, List.set_cons_succ]
        refine sched_run (v := ?_) (by rfl) ?_ ?_
        rotate_left
        · (intro w' hS'; go_simp; try with_reducible rfl)
        try simp only [Act.put, List.setIfInBounds_toArray, List.set_cons_zero, List.set_cons_succ]
        refine sched_run (v := ?_) (by rfl) ?_ ?_
        rotate_left
        · (intro w' hS'; obtain ⟨g0, r0, r1, r2, r3⟩ := HLD.out w' hS'; go_simp; try with_reducible rfl)
        try simp only [Act.put, List.setIfInBounds_toArray, List.set_cons_zero, List.set_cons_succ]
        refine sched_run (v := ?_) (by rfl) ?_ ?_
        rotate_left
        · (intro w' hS'; go_simp; try with_reducible rfl)
        try simp only [Act.put, List.setIfInBounds_toArray, List.set_cons_zero, List.set_cons_succ]
        refine sched_run (v := ?_) (by rfl) ?_ ?_
        rotate_left
        · (intro w' hS'; go_simp; try with_reducible rfl)
        try simp only [Act.put, List.setIfInBounds_toArray, List.set_cons_zero, List.set_cons_succ]
        refine sched_run (v := ?_) (by rfl) ?_ ?_
        rotate_left
        · (intro w' hS'; go_simp; try with_reducible rfl)
        try simp only [Act.put, List.setIfInBounds_toArray, List.set_cons_zero, List.set_cons_succ]
        refine sched_run (v := ?_) (by rfl) ?_ ?_
        rotate_left
        · (intro w' hS'; obtain ⟨g0, r0, r1, r2, r3⟩ := HLD.out w' hS'; go_simp; try with_reducible rfl)
        try simp only [Act.put, List.setIfInBounds_toArray, List.set_cons_zero, List.set_cons_succ]
        refine sched_run (v := ?_) (by rfl) ?_ ?_
        rotate_left
        · (intro w' hS'; go_simp; try with_reducible rfl)
        try simp only [Act.put, List.setIfInBounds_toArray, List.set_cons_zero, List.set_cons_succ]
        refine sched_call (by rfl) (fun K hK => ?_)
        go_simp
        refine (l7Part_q r.1 r.2.1 Q HQ.out _ HF.out).mono ?_
        rintro e v1 ⟨rfl, hbv0⟩
        have hv1 : Below wr.heap.size wr v1 := hv0.trans (hbv0.mono hv0.size)
        clear hbv0
        refine hK _ _ hv1 ?_
        try simp only [Act.put, List.setIfInBounds_toArray, List.set_cons_zero, List.set_cons_succ]
        refine sched_run (v := ?_) (by rfl) ?_ ?_
        rotate_left
        · (intro w' hS'; go_simp; try with_reducible rfl)
        try simp only [Act.put, List.setIfInBounds_toArray, List.set_cons_zero, List.set_cons_succ]
        refine sched_run (v := ?_) (by rfl) ?_ ?_
        rotate_left
        · (intro w' hS'; go_simp; try with_reducible rfl)
        try simp only [Act.put, List.setIfInBounds_toArray, List.set_cons_zero, List.set_cons_succ]
        refine sched_run (v := ?_) (by rfl) ?_ ?_
        rotate_left
        · (intro w' hS'; go_simp; try with_reducible rfl)
        try simp only [Act.put, List.setIfInBounds_toArray, List.set_cons_zero, List.set_cons_succ]
        refine sched_run (v := ?_) (by rfl) ?_ ?_
        rotate_left
        · (intro w' hS'; go_simp; try with_reducible rfl)
        try simp only [Act.put, List.setIfInBounds_toArray, List.set_cons_zero, List.set_cons_succ]
        refine sched_run (v := ?_) (by rfl) ?_ ?_
        rotate_left
        · (intro w' hS'; go_simp; try with_reducible rfl)
        try simp only [Act.put, List.setIfInBounds_toArray, List.set_cons_zero, List.set_cons_succ]
        refine sched_run (v := ?_) (by rfl) ?_ ?_
        rotate_left
        · (intro w' hS'; obtain ⟨g0, r0, r1, r2, r3⟩ := HLD.out w' hS'; go_simp; try with_reducible rfl)
        try simp only [Act.put, List.setIfInBounds_toArray, List.set_cons_zero, List.set_cons_succ]
        refine sched_run (v := ?_) (by rfl) ?_ ?_
        rotate_left
        · (intro w' hS'; go_simp; try with_reducible rfl)
        try simp only [Act.put, List.setIfInBounds_toArray, List.set_cons_zero, List.set_cons_succ]
        refine sched_run (v := ?_) (by rfl) ?_ ?_
        rotate_left
        · (intro w' hS'; go_simp; try with_reducible rfl)
        try simp only [Act.put, List.setIfInBounds_toArray, List.set_cons_zero, List.set_cons_succ]
        refine sched_call (by rfl) (fun K hK => ?_)
        go_simp
        refine (l6Nothing_b b (off + k * 4) r _ HE.out _ (HLD.out _ hv1).2).mono ?_
        rintro e v2 ⟨rfl, hbv1⟩
        have hv2 : Below wr.heap.size wr v2 := hv1.trans (hbv1.mono hv1.size)
        clear hbv1
        refine hK _ _ hv2 ?_
        try simp only [Act.put, List.setIfInBounds_toArray, List.set_cons_zero, List.set_cons_succ]
        refine sched_run (v := ?_) (by rfl) ?_ ?_
        rotate_left
        · (intro w' hS'; go_simp; try with_reducible rfl)
        try simp only [Act.put, List.setIfInBounds_toArray, List.set_cons_zero, List.set_cons_succ]
        refine sched_done ?_
        have HB2 := Lib.hid (HB.out.trans (hv2.mono HB.out.size))
        go_wp2_with fail
        go_ret
        exact ⟨congrArg (fun z => Ending.returned (Value.int .i64 z)) HS.out.symm, HB2.out⟩
    · obtain rfl : k = rs.length := by omega
      have hs2 : V = 0 := HRS.out.symm.trans (restQ_end (fitB at_) rs)
      have HS := Lib.hid hs2; clear hs2 hg0 hg1
      go_wp2
      go_ret
      exact ⟨congrArg (fun z => Ending.returned (Value.int .i64 z)) HS.out.symm, HB.out⟩

set_option maxRecDepth 100000 in
set_option maxHeartbeats 2000000 in
theorem l7Count_c (A : Option Addr) (c : Nat) (l : List Pt) (w : World) (fp : List Nat) (hs : psz l ≤ 4194304) (ha : RdP w (.slice A l.length c) l fp) :
    Calls Try.prog 121 #[.slice A l.length c] w fun e w' => e = .returned (.int .i64 (totP l : Nat)) ∧ w = w' := by
  have hmax := ha.len_le.2
  have hT : totP l ≤ 4194304 := by unfold psz at hs; omega
  have HA := Lib.hid ha
  clear ha hs
  go_enter Try.func121, Try.ntmps121
  go_wp2
  go_loop [3, 4] (fun s i => ∃ k n : Nat, k ≤ l.length ∧ i = .int .i64 k ∧ s = .int .i64 (n : Nat) ∧ Hid (n = totP (l.take k)) ∧ n ≤ 4194304) (fun _ i => l.length - (intOf i).toNat)
  case atStart => exact ⟨0, 0, Nat.zero_le _, rfl, rfl, Lib.hid rfl, by omega⟩
  case round =>
    obtain ⟨k, n, hk, rfl, rfl, hn, hn1⟩ := hrel
    by_cases hlt : k < l.length
    · obtain ⟨b, off, B, d, f, rfl, _, hbl, hc, hc1, hr, _⟩ := partsAt HA.out hlt
      have hm := hr.len_le
      have ht := totP_take l k hlt
      have hle := totP_le l (k + 1)
      rw [← hn.out] at ht
      generalize l[k].rows.length = m at *
      have HT := Lib.hid ht
      clear hr hc1
      have t1 : (n : Int) + (m : Int) ≤ 4194304 := by omega
      have t2 : n + m ≤ 4194304 := by omega
      clear ht hle
      go_wp2
      exact ⟨⟨k + 1, n + m, by omega, by go_num, by go_num, Lib.hid HT.out.symm, t2⟩, by simp [intOf]; omega⟩
    · obtain rfl : k = l.length := by omega
      have h := hn.out
      rw [List.take_length] at h
      have H := Lib.hid h; clear h
      go_wp2
      go_ret
      exact ⟨by rw [H.out]; rfl, rfl⟩
theorem l7Count_q (A : Option Addr) (c : Nat) (l : List Pt) (T : Nat) (hT : totP l = T) (w : World) (fp : List Nat) (hs : psz l ≤ 4194304) (ha : RdP w (.slice A l.length c) l fp) :
    Calls Try.prog 121 #[.slice A l.length c] w fun e w' => e = .returned (.int .i64 (T : Nat)) ∧ w = w' := by
  subst hT
  exact l7Count_c A c l w fp hs ha

set_option maxRecDepth 100000 in
set_option maxHeartbeats 4000000 in
theorem l7Fault_c (A : Option Addr) (c : Nat) (l : List Pt) (w : World) (fp : List Nat) (hs : psz l ≤ 4194304) (ha : RdP w (.slice A l.length c) l fp) :
    Calls Try.prog 82 #[.slice A l.length c] w fun e w' => e = .returned (.int .i64 (partsF l)) ∧ Below w.heap.size w w' := by
  have hmax := ha.len_le.2
  have HA := Lib.hid ha
  clear ha
  by_cases h1 : l.length = 3
  case neg =>
    rw [partsF_len h1]
    have t1 : ((l.length : Int) != 3) = true := by simp; omega
    clear h1
    go_enter Try.func82, Try.ntmps82
    go_wp2
    go_ret
    exact ⟨rfl, Below.refl _ _⟩
  have t1 : ((l.length : Int) != 3) = false := by simp; omega
  have hmany := @partsF_many l h1
  have hpart := @partsF_part l h1
  obtain ⟨T, hT⟩ : ∃ T, T = totP l := ⟨_, rfl⟩
  rw [← hT] at hmany
  have HTT := Lib.hid hT.symm
  have HMANY := Lib.hid hmany; have HPART := Lib.hid hpart; have HSZ := Lib.hid hs
  have hT4 : T ≤ 4194304 := by unfold psz at hs; omega
  clear hmany hpart h1 hT hs
  generalize hV : restG l 0 = V at *
  have HV := Lib.hid hV; clear hV
  generalize hP : partsF l = P at *
  have HP := Lib.hid hP; clear hP
  go_enter Try.func82, Try.ntmps82
  go_wp2_with fail
  go_loopw [3] (fun i wr => ∃ k : Nat, k ≤ l.length ∧ i = .int .i64 k ∧ Hid (Below w.heap.size w wr) ∧ Hid (restG l k = V)) (fun i _ => l.length - (intOf i).toNat)
  case atStart => exact ⟨0, Nat.zero_le _, rfl, Lib.hid (Below.refl _ _), HV⟩
  case round =>
    clear HV
    obtain ⟨k, hk, rfl, HB, HRS⟩ := hrel
    by_cases hlt : k < l.length
    · obtain ⟨b, off, B, d, f, rfl, _, hbl, hc, hc1, hr, _⟩ := partsAt (HA.out.below' HB.out) hlt
      have hok := @restG_ok l k hlt
      have hbad := @restG_bad l k hlt
      generalize l[k] = p at *
      have hcall := l7One_c b (off + k * 2) B d p (k : Int) _ f hc hc1 hbl hr
      obtain ⟨Q, hQ⟩ : ∃ Q, Q = partF p (k : Int) := ⟨_, rfl⟩
      rw [← hQ] at hcall hok hbad
      have HCL := Lib.hid hcall; have HOK := Lib.hid hok; have HBAD := Lib.hid hbad
      clear hok hbad hr hcall hQ hc hc1
      go_wp2_with fail
      refine HCL.out.mono ?_
      rintro e w2 ⟨rfl, hb2⟩
      have HB2 := Lib.hid (HB.out.trans (hb2.mono HB.out.size))
      clear hb2
      by_cases h3 : Q = 0
      · have hs2 : restG l (k + 1) = V := (HOK.out h3).symm.trans HRS.out
        have HS2 := Lib.hid hs2; clear hs2
        subst h3
        go_wp2_with fail
        exact ⟨⟨k + 1, by omega, by go_num, HB2, HS2⟩, by simp [intOf]; omega⟩
      · have hs2 : V = Q := HRS.out.symm.trans (HBAD.out h3)
        have hPV : P = Q := (HPART.out (by rw [hs2]; exact h3)).trans hs2
        have HPV := Lib.hid hPV; clear hPV hs2
        have t2 : (Q != 0) = true := by simpa using h3
        clear h3
        go_wp2_with fail
        go_ret
        exact ⟨congrArg (fun z => Ending.returned (Value.int .i64 z)) HPV.out.symm, HB2.out⟩
    · obtain rfl : k = l.length := by omega
      have hs2 : V = 0 := HRS.out.symm.trans (restG_end l)
      have hPV : P = if 12 < T then 2 else 0 := HMANY.out hs2
      have HPV := Lib.hid hPV
      clear hs2 hPV
      go_wp2_with fail
      refine (l7Count_q A c l T HTT.out _ fp HSZ.out (HA.out.below' HB.out)).mono ?_
      rintro e w2 ⟨rfl, hw⟩
      subst hw
      by_cases h4 : 12 < T
      · have e : P = 2 := by rw [HPV.out, if_pos h4]
        have HE := Lib.hid e; clear e
        go_wp2
        go_ret
        exact ⟨congrArg (fun z => Ending.returned (Value.int .i64 z)) HE.out.symm, HB.out⟩
      · have e : P = 0 := by rw [HPV.out, if_neg h4]
        have HE := Lib.hid e; clear e
        go_wp2
        go_ret
        exact ⟨congrArg (fun z => Ending.returned (Value.int .i64 z)) HE.out.symm, HB.out⟩
end Go.Proofs.Ytldimfmhbdhbnaa
