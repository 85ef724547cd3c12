/- The law FnPlaces answers true for every slice of bytes: the walk. By a maker (fnplaces.py). -/
import Derived.Test.YtldimfmhbdhbnaaG38
import Derived.Test.YtldimfmhbdhbnaaDraw8a
import Derived.Test.YtldimfmhbdhbnaaG39
import Derived.Test.YtldimfmhbdhbnaaImpl2b
import Derived.Test.YtldimfmhbdhbnaaG31
import Derived.Test.YtldimfmhbdhbnaaImpl6e
import Derived.Test.YtldimfmhbdhbnaaG35
import Derived.Test.YtldimfmhbdhbnaaG36
import Derived.Test.YtldimfmhbdhbnaaG37
import Derived.Test.YtldimfmhbdhbnaaG23
namespace Go.Proofs.Ytldimfmhbdhbnaa
open Go.RowKit

theorem fldPr0 (x y z : Value) (w : World) : (Instr.field 31 (.agg #[x, y, z]) 0).run Try.prog w = .ok x w := by kernel_rfl
theorem fldPr1 (x y z : Value) (w : World) : (Instr.field 31 (.agg #[x, y, z]) 1).run Try.prog w = .ok (.agg #[y, z]) w := by kernel_rfl
theorem fldRs1 (x y : Value) (w : World) : (Instr.field 41 (.agg #[x, y]) 1).run Try.prog w = .ok y w := by kernel_rfl
theorem fldIr0 (x y : Value) (w : World) : (Instr.field 46 (.agg #[x, y]) 0).run Try.prog w = .ok x w := by kernel_rfl
theorem two_kept {w w' : World} {g : Nat} {u v : Value} {t : TypeId} (h : Below w.heap.size w w') (hg : w.heap[g]? = some (.cells #[u, v] t (0, 0))) :
    w'.cell? ⟨g, 0, none⟩ = some u ∧ w'.cell? ⟨g, 1, none⟩ = some v := by
  have := (h.block _ (heap_lt hg)).trans hg
  exact ⟨cell_of_heap this, cell_of_heap this⟩
theorem three_kept {w w' : World} {g : Nat} {u v x : Value} {t : TypeId} (h : Below w.heap.size w w') (hg : w.heap[g]? = some (.cells #[u, v, x] t (0, 0))) :
    w'.cell? ⟨g, 0, none⟩ = some u ∧ w'.cell? ⟨g, 1, none⟩ = some v ∧ w'.cell? ⟨g, 2, none⟩ = some x := by
  have := (h.block _ (heap_lt hg)).trans hg
  exact ⟨cell_of_heap this, cell_of_heap this, cell_of_heap this⟩
theorem four_kept {w w' : World} {g : Nat} {u v x y : Value} {t : TypeId} (h : Below w.heap.size w w') (hg : w.heap[g]? = some (.cells #[u, v, x, y] t (0, 0))) :
    w'.cell? ⟨g, 0, none⟩ = some u ∧ w'.cell? ⟨g, 1, none⟩ = some v ∧ w'.cell? ⟨g, 2, none⟩ = some x ∧ w'.cell? ⟨g, 3, none⟩ = some y := by
  have := (h.block _ (heap_lt hg)).trans hg
  exact ⟨cell_of_heap this, cell_of_heap this, cell_of_heap this, cell_of_heap this⟩
theorem wfs_of_rowsF {L : List R} (h : rowsF L = 0) : ∀ x ∈ L, WfR x := fun x hx => wf_of_rowF ((rowsF_rising h).1.above x hx).1
theorem wf_near {v : Int} (h : -20001 ≤ v ∧ v ≤ 20001) : (Lit.int .i64 v).wf = true := by
  have e1 : IntKind.i64.min = -9223372036854775808 := rfl
  have e2 : IntKind.i64.max = 9223372036854775807 := rfl
  simp only [Lit.wf, Bool.and_eq_true, decide_eq_true_eq]; omega
theorem wfF_right {p : Pl} (h : placesF p = 0) : WfF p.fs := fun f hf x hx => wf_of_rowF (flat_rows h x (List.mem_flatten.2 ⟨f, hf, hx⟩)).1
theorem mark_right {p : Pl} (h : placesF p = 0) : (Lit.int .i64 p.mark).wf = true := by have := placesF_zero h; exact wf_near (by omega)
theorem riL_rowsF {p : Pl} (h : placesF p = 0) : rowsF (riL p) = 0 := by unfold riL; rw [if_pos h]; exact flat_rowsF h
/-- What stands: the rows, and the places made of them; the drawn places and row; the written places. -/
structure PA (rs : List R) (A1 : Option Addr) (c1 : Nat) (f1 : List Nat) (C1 : Int) (P : Pl) (AP : Option Addr) (cP : Nat) (fP : List Nat) (gp : Nat) (W : World) : Prop where
  rr : Rd W 4 (.slice A1 rs.length c1) (rcs rs) f1
  pp : PlAt W P (.slice AP P.fs.length cP) fP
  bp : W.heap[gp]? = some (.cells #[.int .i64 C1, .slice AP P.fs.length cP, .int .i64 P.mark] 31 (0, 0))
structure PB (q : Pl) (Al : Option Addr) (cl : Nat) (fl : List Nat) (gq : Nat) (r : R) (gr : Nat) (W : World) : Prop where
  ll : PlAt W q (.slice Al q.fs.length cl) fl
  bq : W.heap[gq]? = some (.cells #[.slice Al q.fs.length cl, .int .i64 q.mark] 29 (0, 0))
  br : W.heap[gr]? = some (.cells #[.int .i64 r.1, .int .i64 r.2.1, .int .i64 r.2.2.1, .int .i64 r.2.2.2] 34 (0, 0))
structure PC (C2 : Int) (Q : Pl) (AQ : Option Addr) (cQ : Nat) (fQ : List Nat) (gw : Nat) (W : World) : Prop where
  qq : PlAt W Q (.slice AQ Q.fs.length cQ) fQ
  bw : W.heap[gw]? = some (.cells #[.int .i64 C2, .slice AQ Q.fs.length cQ, .int .i64 Q.mark] 31 (0, 0))
theorem PA.below' {rs : List R} {A1 : Option Addr} {c1 : Nat} {f1 : List Nat} {C1 : Int} {P : Pl} {AP : Option Addr} {cP : Nat} {fP : List Nat} {gp : Nat} {W W' : World} (h : PA rs A1 c1 f1 C1 P AP cP fP gp W) (hb : Below W.heap.size W W') : PA rs A1 c1 f1 C1 P AP cP fP gp W' :=
  ⟨h.rr.below' hb, h.pp.below' hb, (hb.block _ (heap_lt h.bp)).trans h.bp⟩
theorem PB.below' {q : Pl} {Al : Option Addr} {cl : Nat} {fl : List Nat} {gq : Nat} {r : R} {gr : Nat} {W W' : World} (h : PB q Al cl fl gq r gr W) (hb : Below W.heap.size W W') : PB q Al cl fl gq r gr W' :=
  ⟨h.ll.below' hb, (hb.block _ (heap_lt h.bq)).trans h.bq, (hb.block _ (heap_lt h.br)).trans h.br⟩
theorem PC.below' {C2 : Int} {Q : Pl} {AQ : Option Addr} {cQ : Nat} {fQ : List Nat} {gw : Nat} {W W' : World} (h : PC C2 Q AQ cQ fQ gw W) (hb : Below W.heap.size W W') : PC C2 Q AQ cQ fQ gw W' :=
  ⟨h.qq.below' hb, (hb.block _ (heap_lt h.bw)).trans h.bw⟩

set_option maxRecDepth 100000 in
set_option maxHeartbeats 16000000 in
theorem lawPlaces_c (a : Option Addr) (len cap : Nat) (z : List Int) (w : World) (h0 : IsRow .u8 w a len cap z) :
    Calls Try.prog 3 #[.slice a len cap] w fun e w' => e = .returned (.bool true) ∧ Below w.heap.size w w' := by
  have hlen := h0.len
  have hby := h0.byt
  obtain ⟨fp, hr⟩ := h0.rd
  clear h0
  generalize z.take len = zs at *
  subst hlen
  clear z
  have hmax := hr.len_le
  by_cases hbig : 1048576 < zs.length
  · have HBD := Lib.hid (show decide (1048576 < zs.length) = true by simp [hbig])
    go_enter Try.func3, Try.ntmps3
    go_wp2_with fail
    refine (bigCode_c _ _ _ _ hmax).mono ?_
    rintro e w1 ⟨rfl, rfl⟩
    rw [HBD.out]
    go_wp2
    go_ret
    exact ⟨rfl, Below.refl _ _⟩
  · have hs : zs.length ≤ 1048576 := by omega
    have HBD := Lib.hid (show decide (1048576 < zs.length) = false by simp [hs])
    have HCR := Lib.hid hr; have HBY := Lib.hid hby
    clear hr hby hbig
    go_enter Try.func3, Try.ntmps3
    go_wp2_with fail
    refine (bigCode_c _ _ _ _ hmax).mono ?_
    rintro e w0 ⟨rfl, rfl⟩
    rw [HBD.out]
    go_wp2_with fail
    refine (drawPlacesOf_c a cap zs w fp HCR.out HBY.out hs).mono ?_
    rintro e w1 ⟨rs, A1, c1, f1, m1, rfl, hr1, hmr, hl1, hm1, hb1⟩
    have HR1 := Lib.hid hr1; have HMR := Lib.hid hmr; have N1 := Lib.hid hb1
    clear hr1 hmr hb1
    go_wp2_with fail
    refine (implPlacesOf_a A1 c1 rs m1 _ f1 (by omega) (fun q hq => (HMR.out q hq).wf) (wf_mild hm1) HR1.out).mono ?_
    have hszP := poL_sz rs m1
    generalize hC1 : poC rs m1 = C1 at *
    generalize hP : poL rs m1 = P at *
    have HC1 := Lib.hid hC1; have HP := Lib.hid hP
    clear hC1 hP
    rintro e w2 ⟨vP, fP, rfl, hrP, _, _, hb2⟩
    obtain ⟨AP, cP, rfl⟩ := hrP.form
    have N2 := Lib.hid (below_more (N1.out.trans (hb2.mono N1.out.size)) (.cells #[.int .i64 C1, .slice AP P.fs.length cP, .int .i64 P.mark] 31))
    have HA := Lib.hid (show PA rs A1 c1 f1 C1 P AP cP fP w2.heap.size (w2.alloc (.cells #[.int .i64 C1, .slice AP P.fs.length cP, .int .i64 P.mark] 31)) from ⟨(HR1.out.below' hb2).alloc _, hrP.alloc _, heap_new w2 _ rfl⟩)
    clear hrP hb2 HR1 N1
    go_wp2_with fail
    generalize w2.alloc (.cells #[.int .i64 C1, .slice AP P.fs.length cP, .int .i64 P.mark] 31) = W2 at *
    generalize w2.heap.size = gp at *
    refine (drawWritePlace_c a cap zs _ fp (HCR.out.below' N2.out) HBY.out hs).mono ?_
    rintro e w3 ⟨q, vl, fl, r, m, rfl, hrl, _, _, hml, hmk, hszl, hmr, hm, hb3⟩
    obtain ⟨Al, cl, rfl⟩ := hrl.form
    have N3 := Lib.hid (below_more (below_more (N2.out.trans (hb3.mono N2.out.size)) (.cells #[.slice Al q.fs.length cl, .int .i64 q.mark] 29)) (.cells #[.int .i64 r.1, .int .i64 r.2.1, .int .i64 r.2.2.1, .int .i64 r.2.2.2] 34))
    have HA3 := Lib.hid (((HA.out.below' hb3).below' (below_new (.cells #[.slice Al q.fs.length cl, .int .i64 q.mark] 29))).below' (below_new (.cells #[.int .i64 r.1, .int .i64 r.2.1, .int .i64 r.2.2.1, .int .i64 r.2.2.2] 34)))
    have HB3 := Lib.hid (show PB q Al cl fl w3.heap.size r (w3.heap.size + 1) ((w3.alloc (.cells #[.slice Al q.fs.length cl, .int .i64 q.mark] 29)).alloc (.cells #[.int .i64 r.1, .int .i64 r.2.1, .int .i64 r.2.2.1, .int .i64 r.2.2.2] 34)) from ⟨(hrl.alloc _).alloc _, heap_old (heap_new w3 _ rfl), heap_new _ _ (by simp)⟩)
    have HML := Lib.hid hml; have HMW := Lib.hid hmr
    clear hrl hml hmr hb3 HA N2
    go_wp2_with fail
    generalize (w3.alloc (.cells #[.slice Al q.fs.length cl, .int .i64 q.mark] 29)).alloc (.cells #[.int .i64 r.1, .int .i64 r.2.1, .int .i64 r.2.2.1, .int .i64 r.2.2.2] 34) = W3 at *
    generalize hgr : w3.heap.size + 1 = gr at *
    clear hgr
    generalize w3.heap.size = gq at *
    obtain ⟨b0, b1, b2, b3, _, _, _, _, hzb⟩ := four_at HB3.out.br
    obtain ⟨y0, y1, _, _, hzy⟩ := two_at HB3.out.bq
    go_wp2_with fail
    have hszQ := wpL_sz q r m
    have HWL := Lib.hid (show WfF q.fs from fun f hf x hx => (HML.out f hf x hx).wf)
    have HWM := Lib.hid (wf_mild hmk)
    have HWm := Lib.hid (wf_near hm)
    refine (implWritePlace_a q (.slice Al q.fs.length cl) r m _ fl (by omega) HWM.out HWL.out HMW.out.wf HWm.out HB3.out.ll).mono ?_
    generalize hC2 : wpC q r m = C2 at *
    generalize hQ : wpL q r m = Q at *
    have HC2 := Lib.hid hC2; have HQ := Lib.hid hQ
    clear hC2 hQ
    rintro e w4 ⟨vQ, fQ, rfl, hrQ, _, _, hb4⟩
    obtain ⟨AQ, cQ, rfl⟩ := hrQ.form
    have N4 := Lib.hid (below_more (N3.out.trans (hb4.mono N3.out.size)) (.cells #[.int .i64 C2, .slice AQ Q.fs.length cQ, .int .i64 Q.mark] 31))
    have HA4 := Lib.hid ((HA3.out.below' hb4).below' (below_new (.cells #[.int .i64 C2, .slice AQ Q.fs.length cQ, .int .i64 Q.mark] 31)))
    have HB4 := Lib.hid ((HB3.out.below' hb4).below' (below_new (.cells #[.int .i64 C2, .slice AQ Q.fs.length cQ, .int .i64 Q.mark] 31)))
    have HC4 := Lib.hid (show PC C2 Q AQ cQ fQ w4.heap.size (w4.alloc (.cells #[.int .i64 C2, .slice AQ Q.fs.length cQ, .int .i64 Q.mark] 31)) from ⟨hrQ.alloc _, heap_new w4 _ rfl⟩)
    clear hrQ hb4 HA3 HB3 N3 b0 b1 b2 b3 hzb y0 y1 hzy
    go_wp2_with fail
    generalize w4.alloc (.cells #[.int .i64 C2, .slice AQ Q.fs.length cQ, .int .i64 Q.mark] 31) = W at *
    generalize w4.heap.size = gw at *
    have q0 := fldPr0; have q1 := fldPr1; have q2 := fldRs1
    have HA := HA4; have HC := HC4; have HN := N4; have PBX := HB4
    clear HA4 HB4 HC4 N4
    have hszq : plsz q ≤ 1048576 := by omega
    by_cases hc2 : C2 = 0
    · obtain ⟨hQ0, hQM, hQC, hQI, hq0, hr0⟩ := wp_right (HC2.out.trans hc2)
      rw [HQ.out] at hQ0 hQM hQI
      have hmkb : (Q.mark != m) = false := by rw [hQM]; simp
      have HQ0 := Lib.hid hQ0; have HQW := Lib.hid (wfF_right hQ0); have HQM := Lib.hid (mark_right hQ0)
      have hl0 : (riL q).length ≤ 1048576 := by have := riL_len q; omega
      have hl9 : (riL Q).length ≤ 1048576 := by have := riL_len Q; omega
      have hw0 := wfs_of_rowsF (riL_rowsF hq0)
      have hw1 := wfs_of_rowsF (riL_rowsF hQ0)
      generalize hL0 : riL q = L0 at *
      generalize hL1 : riL Q = L1 at *
      have HQI := Lib.hid hL1; have HQJ := Lib.hid hL0; have HPR := Lib.hid hQI; have HW0 := Lib.hid hw0; have HW1 := Lib.hid hw1
      clear hQ0 hQM hQC hQI hq0 hr0 hL0 hL1 hw0 hw1
      subst hc2
      have hld : ∀ w', Below W.heap.size W w' → w'.cell? ⟨gw, 0, none⟩ = some (.int .i64 0) ∧ w'.cell? ⟨gw, 1, none⟩ = some (.slice AQ Q.fs.length cQ) ∧ w'.cell? ⟨gw, 2, none⟩ = some (.int .i64 Q.mark) ∧ w'.cell? ⟨gq, 0, none⟩ = some (.slice Al q.fs.length cl) ∧ w'.cell? ⟨gq, 1, none⟩ = some (.int .i64 q.mark) ∧ w'.cell? ⟨gr, 0, none⟩ = some (.int .i64 r.1) ∧ w'.cell? ⟨gr, 1, none⟩ = some (.int .i64 r.2.1) ∧ w'.cell? ⟨gr, 2, none⟩ = some (.int .i64 r.2.2.1) ∧ w'.cell? ⟨gr, 3, none⟩ = some (.int .i64 r.2.2.2) := fun w' h => ⟨(three_kept h HC.out.bw).1, (three_kept h HC.out.bw).2.1, (three_kept h HC.out.bw).2.2, (two_kept h PBX.out.bq).1, (two_kept h PBX.out.bq).2, four_kept h PBX.out.br⟩
      have HLD := Lib.hid hld; clear hld
      refine wp_region_sched (fun w' => Below W.heap.size W w') [(0, true), (1, true), (2, true), (3, true), (4, true), (5, false), (6, true), (7, true), (8, true), (9, true), (10, true), (11, true), (12, true), (13, true), (14, true), (15, false), (16, true), (17, true), (18, true), (19, true), (20, true), (21, true), (22, true), (23, true), (24, true), (25, true), (26, true), (29, true), (32, true), (27, false), (28, true), (30, false), (31, true), (33, false), (34, true), (35, false), (36, true), (37, true), (38, true), (39, true), (40, true), (41, true), (42, true), (43, true), (44, false), (45, true), (46, false), (47, true), (48, true), (49, true), (50, true)] (by kernel_rfl) (by kernel_rfl) (by kernel_rfl) (by kernel_rfl) (fun _ _ d _ _ h => by cases d <;> exact h) ⟨rfl, rfl, rfl, Nat.le_refl _, fun _ _ => rfl⟩ ?_
      simp only [opsOf, List.filterMap_cons, List.filterMap_nil, Option.map_some, List.getElem?_toArray, List.getElem?_cons_zero, List.getElem?_cons_succ]
      generalize hW0 : ({ heap := W.heap, tape := W.tape, drawn := W.drawn + 1, os := W.os, output := W.output } : World) = v0
      have hv0 : Below W.heap.size W v0 := by rw [← hW0]; exact ⟨rfl, rfl, rfl, Nat.le_refl _, fun _ _ => rfl⟩
      clear hW0
      refine sched_run (v := ?_) (by rfl) ?_ ?_
      rotate_left
      · (intro w' hS'; go_simp; try with_reducible rfl)
      try simp only [Act.put, List.setIfInBounds_toArray, List.set_cons_zero, List.set_cons_succ]
      refine sched_run (v := ?_) (by rfl) ?_ ?_
      rotate_left
      · (intro w' hS'; obtain ⟨a0, a1, a2, e0, e1, r0, r1, r2, r3⟩ := HLD.out w' hS'; go_simp; try with_reducible rfl)
      try simp only [Act.put, List.setIfInBounds_toArray, List.set_cons_zero, List.set_cons_succ]
      refine sched_run (v := ?_) (by rfl) ?_ ?_
      rotate_left
      · (intro w' hS'; obtain ⟨a0, a1, a2, e0, e1, r0, r1, r2, r3⟩ := HLD.out w' hS'; go_simp; try with_reducible rfl)
      try simp only [Act.put, List.setIfInBounds_toArray, List.set_cons_zero, List.set_cons_succ]
      refine sched_run (v := ?_) (by rfl) ?_ ?_
      rotate_left
      · (intro w' hS'; obtain ⟨a0, a1, a2, e0, e1, r0, r1, r2, r3⟩ := HLD.out w' hS'; go_simp; try with_reducible rfl)
      try simp only [Act.put, List.setIfInBounds_toArray, List.set_cons_zero, List.set_cons_succ]
      refine sched_run (v := ?_) (by rfl) ?_ ?_
      rotate_left
      · (intro w' hS'; go_simp; try with_reducible rfl)
      try simp only [Act.put, List.setIfInBounds_toArray, List.set_cons_zero, List.set_cons_succ]
      refine sched_call (by rfl) (fun K hK => ?_)
      go_simp
      refine (specWritePlace_r q (.slice Al q.fs.length cl) r m _ fl hszq (PBX.out.ll.below' hv0)).mono ?_
      rintro e v1 ⟨vq, fq, rfl, hrq, _, _, hbv0⟩
      have hv1 : Below W.heap.size W v1 := hv0.trans (hbv0.mono hv0.size)
      rw [HC2.out, HQ.out]
      clear hrq
      clear hbv0
      refine hK _ _ hv1 ?_
      try simp only [Act.put, List.setIfInBounds_toArray, List.set_cons_zero, List.set_cons_succ]
      refine sched_run (v := ?_) (by rfl) ?_ ?_
      rotate_left
      · (intro w' hS'; go_simp; try with_reducible rfl)
      try simp only [Act.put, List.setIfInBounds_toArray, List.set_cons_zero, List.set_cons_succ]
      refine sched_run (v := ?_) (by rfl) ?_ ?_
      rotate_left
      · (intro w' hS'; go_simp; try with_reducible rfl)
      try simp only [Act.put, List.setIfInBounds_toArray, List.set_cons_zero, List.set_cons_succ]
      refine sched_run (v := ?_) (by rfl) ?_ ?_
      rotate_left
      · (intro w' hS'; go_simp; try with_reducible rfl)
      try simp only [Act.put, List.setIfInBounds_toArray, List.set_cons_zero, List.set_cons_succ]
      refine sched_run (v := ?_) (by rfl) ?_ ?_
      rotate_left
      · (intro w' hS'; go_simp; try with_reducible rfl)
      try simp only [Act.put, List.setIfInBounds_toArray, List.set_cons_zero, List.set_cons_succ]
      refine sched_run (v := ?_) (by rfl) ?_ ?_
      rotate_left
      · (intro w' hS'; obtain ⟨a0, a1, a2, e0, e1, r0, r1, r2, r3⟩ := HLD.out w' hS'; go_simp; try with_reducible rfl)
      try simp only [Act.put, List.setIfInBounds_toArray, List.set_cons_zero, List.set_cons_succ]
      refine sched_run (v := ?_) (by rfl) ?_ ?_
      rotate_left
      · (intro w' hS'; go_simp; try with_reducible rfl)
      try simp only [Act.put, List.setIfInBounds_toArray, List.set_cons_zero, List.set_cons_succ]
      refine sched_run (v := ?_) (by rfl) ?_ ?_
      rotate_left
      · (intro w' hS'; go_simp; try with_reducible rfl)
      try simp only [Act.put, List.setIfInBounds_toArray, List.set_cons_zero, List.set_cons_succ]
      refine sched_run (v := ?_) (by rfl) ?_ ?_
      rotate_left
      · (intro w' hS'; go_simp; try with_reducible rfl)
      try simp only [Act.put, List.setIfInBounds_toArray, List.set_cons_zero, List.set_cons_succ]
      refine sched_run (v := ?_) (by rfl) ?_ ?_
      rotate_left
      · (intro w' hS'; obtain ⟨a0, a1, a2, e0, e1, r0, r1, r2, r3⟩ := HLD.out w' hS'; go_simp; try with_reducible rfl)
      try simp only [Act.put, List.setIfInBounds_toArray, List.set_cons_zero, List.set_cons_succ]
      refine sched_call (by rfl) (fun K hK => ?_)
      go_simp
      refine (implPlacesFault_a Q (.slice AQ Q.fs.length cQ) fQ _ hszQ HQM.out HQW.out (HC.out.qq.below' hv1)).mono ?_
      rintro e v2 ⟨rfl, hbv1⟩
      have hv2 : Below W.heap.size W v2 := hv1.trans (hbv1.mono hv1.size)
      rw [HQ0.out]
      clear hbv1
      refine hK _ _ hv2 ?_
      try simp only [Act.put, List.setIfInBounds_toArray, List.set_cons_zero, List.set_cons_succ]
      refine sched_run (v := ?_) (by rfl) ?_ ?_
      rotate_left
      · (intro w' hS'; go_simp; try with_reducible rfl)
      try simp only [Act.put, List.setIfInBounds_toArray, List.set_cons_zero, List.set_cons_succ]
      refine sched_run (v := ?_) (by rfl) ?_ ?_
      rotate_left
      · (intro w' hS'; go_simp; try with_reducible rfl)
      try simp only [Act.put, List.setIfInBounds_toArray, List.set_cons_zero, List.set_cons_succ]
      refine sched_run (v := ?_) (by rfl) ?_ ?_
      rotate_left
      · (intro w' hS'; go_simp; try with_reducible rfl)
      try simp only [Act.put, List.setIfInBounds_toArray, List.set_cons_zero, List.set_cons_succ]
      refine sched_run (v := ?_) (by rfl) ?_ ?_
      rotate_left
      · (intro w' hS'; go_simp; try with_reducible rfl)
      try simp only [Act.put, List.setIfInBounds_toArray, List.set_cons_zero, List.set_cons_succ]
      refine sched_run (v := ?_) (by rfl) ?_ ?_
      rotate_left
      · (intro w' hS'; obtain ⟨a0, a1, a2, e0, e1, r0, r1, r2, r3⟩ := HLD.out w' hS'; go_simp; try with_reducible rfl)
      try simp only [Act.put, List.setIfInBounds_toArray, List.set_cons_zero, List.set_cons_succ]
      refine sched_run (v := ?_) (by rfl) ?_ ?_
      rotate_left
      · (intro w' hS'; go_simp; try with_reducible rfl)
      try simp only [Act.put, List.setIfInBounds_toArray, List.set_cons_zero, List.set_cons_succ]
      refine sched_run (v := ?_) (by rfl) ?_ ?_
      rotate_left
      · (intro w' hS'; go_simp; try with_reducible rfl)
      try simp only [Act.put, List.setIfInBounds_toArray, List.set_cons_zero, List.set_cons_succ]
      refine sched_run (v := ?_) (by rfl) ?_ ?_
      rotate_left
      · (intro w' hS'; go_simp; try with_reducible rfl)
      try simp only [Act.put, List.setIfInBounds_toArray, List.set_cons_zero, List.set_cons_succ]
      refine sched_run (v := ?_) (by rfl) ?_ ?_
      rotate_left
      · (intro w' hS'; go_simp; try with_reducible rfl)
      try simp only [Act.put, List.setIfInBounds_toArray, List.set_cons_zero, List.set_cons_succ]
      refine sched_run (v := ?_) (by rfl) ?_ ?_
      rotate_left
      · (intro w' hS'; go_simp; try with_reducible rfl)
      try simp only [Act.put, List.setIfInBounds_toArray, List.set_cons_zero, List.set_cons_succ]
      refine sched_run (v := ?_) (by rfl) ?_ ?_
      rotate_left
      · (intro w' hS'; obtain ⟨a0, a1, a2, e0, e1, r0, r1, r2, r3⟩ := HLD.out w' hS'; go_simp; try with_reducible rfl)
      try simp only [Act.put, List.setIfInBounds_toArray, List.set_cons_zero, List.set_cons_succ]
      refine sched_run (v := ?_) (by rfl) ?_ ?_
      rotate_left
      · (intro w' hS'; obtain ⟨a0, a1, a2, e0, e1, r0, r1, r2, r3⟩ := HLD.out w' hS'; go_simp; try with_reducible rfl)
      try simp only [Act.put, List.setIfInBounds_toArray, List.set_cons_zero, List.set_cons_succ]
      refine sched_run (v := ?_) (by rfl) ?_ ?_
      rotate_left
      · (intro w' hS'; obtain ⟨a0, a1, a2, e0, e1, r0, r1, r2, r3⟩ := HLD.out w' hS'; go_simp; try with_reducible rfl)
      try simp only [Act.put, List.setIfInBounds_toArray, List.set_cons_zero, List.set_cons_succ]
      refine sched_call (by rfl) (fun K hK => ?_)
      go_simp
      refine (implRowsIn_a Q (.slice AQ Q.fs.length cQ) _ fQ hszQ HQM.out HQW.out (HC.out.qq.below' hv2)).mono ?_
      rintro e v3 ⟨_, rfl, ⟨vs, fs, rfl, hrs, _, _⟩, hbv2⟩
      have hv3 : Below W.heap.size W v3 := hv2.trans (hbv2.mono hv2.size)
      rw [HQI.out] at hrs
      obtain ⟨As, cs, rfl⟩ := hrs.rows_form
      have HRS := Lib.hid hrs
      clear hrs
      clear hbv2
      refine hK _ _ hv3 ?_
      try simp only [Act.put, List.setIfInBounds_toArray, List.set_cons_zero, List.set_cons_succ]
      refine sched_run (v := ?_) (by rfl) ?_ ?_
      rotate_left
      · (intro w' hS'; go_simp; try with_reducible rfl)
      try simp only [Act.put, List.setIfInBounds_toArray, List.set_cons_zero, List.set_cons_succ]
      refine sched_call (by rfl) (fun K hK => ?_)
      go_simp
      refine (implRowsIn_a q (.slice Al q.fs.length cl) _ fl hszq HWM.out HWL.out (PBX.out.ll.below' hv3)).mono ?_
      rintro e v4 ⟨_, rfl, ⟨vt, ft, rfl, hrt, _, _⟩, hbv3⟩
      have hv4 : Below W.heap.size W v4 := hv3.trans (hbv3.mono hv3.size)
      rw [HQJ.out] at hrt
      obtain ⟨At, ct, rfl⟩ := hrt.rows_form
      have HRT := Lib.hid hrt
      have HRS2 := Lib.hid (HRS.out.below' hbv3)
      clear hrt HRS
      clear hbv3
      refine hK _ _ hv4 ?_
      try simp only [Act.put, List.setIfInBounds_toArray, List.set_cons_zero, List.set_cons_succ]
      refine sched_run (v := ?_) (by rfl) ?_ ?_
      rotate_left
      · (intro w' hS'; go_simp; try with_reducible rfl)
      try simp only [Act.put, List.setIfInBounds_toArray, List.set_cons_zero, List.set_cons_succ]
      refine sched_call (by rfl) (fun K hK => ?_)
      go_simp
      refine (implPutRow_a At ct L0 r _ ft hl0 HW0.out HMW.out.wf HRT.out).mono ?_
      rintro e v5 ⟨_, rfl, ⟨vu, fu, rfl, hru, _, _⟩, hbv4⟩
      have hv5 : Below W.heap.size W v5 := hv4.trans (hbv4.mono hv4.size)
      rw [HPR.out] at hru
      obtain ⟨Au, cu, rfl⟩ := hru.rows_form
      have HRU := Lib.hid hru
      have HRS3 := Lib.hid (HRS2.out.below' hbv4)
      clear hru HRS2 HRT
      clear hbv4
      refine hK _ _ hv5 ?_
      try simp only [Act.put, List.setIfInBounds_toArray, List.set_cons_zero, List.set_cons_succ]
      refine sched_run (v := ?_) (by rfl) ?_ ?_
      rotate_left
      · (intro w' hS'; go_simp; try with_reducible rfl)
      try simp only [Act.put, List.setIfInBounds_toArray, List.set_cons_zero, List.set_cons_succ]
      refine sched_call (by rfl) (fun K hK => ?_)
      go_simp
      refine (implSameRows_a As Au cs cu L1 L1 _ fs fu hl9 hl9 HW1.out HW1.out HRS3.out HRU.out).mono ?_
      rintro e v6 ⟨rfl, hbv5⟩
      have hv6 : Below W.heap.size W v6 := hv5.trans (hbv5.mono hv5.size)
      clear HRS3 HRU
      clear hbv5
      refine hK _ _ hv6 ?_
      try simp only [Act.put, List.setIfInBounds_toArray, List.set_cons_zero, List.set_cons_succ]
      refine sched_run (v := ?_) (by rfl) ?_ ?_
      rotate_left
      · (intro w' hS'; go_simp; try with_reducible rfl)
      try simp only [Act.put, List.setIfInBounds_toArray, List.set_cons_zero, List.set_cons_succ]
      refine sched_run (v := ?_) (by rfl) ?_ ?_
      rotate_left
      · (intro w' hS'; go_simp; try with_reducible rfl)
      try simp only [Act.put, List.setIfInBounds_toArray, List.set_cons_zero, List.set_cons_succ]
      refine sched_run (v := ?_) (by rfl) ?_ ?_
      rotate_left
      · (intro w' hS'; go_simp; try with_reducible rfl)
      try simp only [Act.put, List.setIfInBounds_toArray, List.set_cons_zero, List.set_cons_succ]
      refine sched_run (v := ?_) (by rfl) ?_ ?_
      rotate_left
      · (intro w' hS'; go_simp; try with_reducible rfl)
      try simp only [Act.put, List.setIfInBounds_toArray, List.set_cons_zero, List.set_cons_succ]
      refine sched_run (v := ?_) (by rfl) ?_ ?_
      rotate_left
      · (intro w' hS'; obtain ⟨a0, a1, a2, e0, e1, r0, r1, r2, r3⟩ := HLD.out w' hS'; go_simp; try with_reducible rfl)
      try simp only [Act.put, List.setIfInBounds_toArray, List.set_cons_zero, List.set_cons_succ]
      refine sched_run (v := ?_) (by rfl) ?_ ?_
      rotate_left
      · (intro w' hS'; obtain ⟨a0, a1, a2, e0, e1, r0, r1, r2, r3⟩ := HLD.out w' hS'; go_simp; try with_reducible rfl)
      try simp only [Act.put, List.setIfInBounds_toArray, List.set_cons_zero, List.set_cons_succ]
      refine sched_run (v := ?_) (by rfl) ?_ ?_
      rotate_left
      · (intro w' hS'; obtain ⟨a0, a1, a2, e0, e1, r0, r1, r2, r3⟩ := HLD.out w' hS'; go_simp; try with_reducible rfl)
      try simp only [Act.put, List.setIfInBounds_toArray, List.set_cons_zero, List.set_cons_succ]
      refine sched_run (v := ?_) (by rfl) ?_ ?_
      rotate_left
      · (intro w' hS'; go_simp; try with_reducible rfl)
      try simp only [Act.put, List.setIfInBounds_toArray, List.set_cons_zero, List.set_cons_succ]
      refine sched_call (by rfl) (fun K hK => ?_)
      go_simp
      refine (specWritePlace_r q (.slice Al q.fs.length cl) r m _ fl hszq (PBX.out.ll.below' hv6)).mono ?_
      rintro e v7 ⟨vz, fz, rfl, hrz, _, _, hbv6⟩
      have hv7 : Below W.heap.size W v7 := hv6.trans (hbv6.mono hv6.size)
      rw [HC2.out, HQ.out]
      rw [HQ.out] at hrz
      obtain ⟨Az, cz, rfl⟩ := hrz.form
      have HRZ := Lib.hid hrz
      clear hrz
      clear hbv6
      refine hK _ _ hv7 ?_
      try simp only [Act.put, List.setIfInBounds_toArray, List.set_cons_zero, List.set_cons_succ]
      refine sched_run (v := ?_) (by rfl) ?_ ?_
      rotate_left
      · (intro w' hS'; go_simp; try with_reducible rfl)
      try simp only [Act.put, List.setIfInBounds_toArray, List.set_cons_zero, List.set_cons_succ]
      refine sched_call (by rfl) (fun K hK => ?_)
      go_simp
      refine (implSamePlaces_a Q Q (.slice AQ Q.fs.length cQ) (.slice Az Q.fs.length cz) fQ fz _ hszQ hszQ HQW.out HQW.out (HC.out.qq.below' hv7) HRZ.out).mono ?_
      rintro e v8 ⟨rfl, hbv7⟩
      have hv8 : Below W.heap.size W v8 := hv7.trans (hbv7.mono hv7.size)
      clear hbv7
      refine hK _ _ hv8 ?_
      try simp only [Act.put, List.setIfInBounds_toArray, List.set_cons_zero, List.set_cons_succ]
      refine sched_run (v := ?_) (by rfl) ?_ ?_
      rotate_left
      · (intro w' hS'; go_simp; try with_reducible rfl)
      try simp only [Act.put, List.setIfInBounds_toArray, List.set_cons_zero, List.set_cons_succ]
      refine sched_run (v := ?_) (by rfl) ?_ ?_
      rotate_left
      · (intro w' hS'; go_simp; try with_reducible rfl)
      try simp only [Act.put, List.setIfInBounds_toArray, List.set_cons_zero, List.set_cons_succ]
      refine sched_run (v := ?_) (by rfl) ?_ ?_
      rotate_left
      · (intro w' hS'; go_simp; try with_reducible rfl)
      try simp only [Act.put, List.setIfInBounds_toArray, List.set_cons_zero, List.set_cons_succ]
      refine sched_run (v := ?_) (by rfl) ?_ ?_
      rotate_left
      · (intro w' hS'; go_simp; try with_reducible rfl)
      try simp only [Act.put, List.setIfInBounds_toArray, List.set_cons_zero, List.set_cons_succ]
      refine sched_done ?_
      clear hmkb
      have HVW := Lib.hid hv8
      have HA2 := Lib.hid (HA.out.below' HVW.out)
      have HN2 := Lib.hid (HN.out.trans (HVW.out.mono HN.out.size))
      clear HLD HA PBX HC HN HVW
      clear hv0
      clear hv1
      clear hv2
      clear hv3
      clear hv4
      clear hv5
      clear hv6
      clear hv7
      clear hv8
      generalize v8 = V at *
      obtain ⟨p0, p1, p2, _, _, _, hzp⟩ := three_at6 HA2.out.bp
      by_cases hc1 : C1 = 0
      · obtain ⟨hP0, hPM, hPC, hPP, hPD⟩ := po_right (HC1.out.trans hc1)
        rw [HP.out] at hP0 hPM hPC hPP hPD
        have hP0i : riC P = 0 := hP0
        have hsl : (riL P).length ≤ 12 := riL_len P
        have hLw := wfs_of_rowsF (riL_rowsF hP0)
        have HPW := Lib.hid (wfF_right hP0); have HPMW := Lib.hid (mark_right hP0)
        have HP0 := Lib.hid hP0; have HPM := Lib.hid hPM; have HPC := Lib.hid hPC; have HPP := Lib.hid hPP; have HPD := Lib.hid hPD; have HLW := Lib.hid hLw
        generalize hS : riL P = S at *
        have HS := Lib.hid hS
        clear hP0 hPM hPC hPP hPD hLw hS
        subst hc1
        go_wp2_with fail
        refine (implRowsIn_a P (.slice AP P.fs.length cP) _ fP hszP HPMW.out HPW.out HA2.out.pp).mono ?_
        rw [hP0i, HS.out]
        rintro e w5 ⟨_, rfl, ⟨vs, fs, rfl, hrs, _, _⟩, hb5⟩
        obtain ⟨As, cs, rfl⟩ := hrs.rows_form
        have HN3 := Lib.hid (below_more (HN2.out.trans (hb5.mono HN2.out.size)) (.cells #[.int .i64 0, .slice As S.length cs] 41))
        have HA3 := Lib.hid ((HA2.out.below' hb5).below' (below_new (.cells #[.int .i64 0, .slice As S.length cs] 41)))
        have HS3 := Lib.hid (hrs.alloc (.cells #[.int .i64 0, .slice As S.length cs] 41))
        have GI := Lib.hid (heap_new w5 (.cells #[.int .i64 0, .slice As S.length cs] 41) rfl)
        clear hrs hb5 HA2 HN2 p0 p1 p2 hzp hP0i
        go_wp2_with fail
        generalize w5.alloc (.cells #[.int .i64 0, .slice As S.length cs] 41) = X at *
        generalize w5.heap.size = gi at *
        obtain ⟨i0, i1, _, _, hzi⟩ := two_at GI.out
        go_wp2_with fail
        refine (implPlacesOf_a As cs S m1 _ fs (by omega) HLW.out (wf_mild hm1) HS3.out).mono ?_
        rw [HPC.out, HPP.out]
        rintro e w6 ⟨vO, fO, rfl, hro, _, _, hb6⟩
        obtain ⟨AO, cO, rfl⟩ := hro.form
        have HN4 := Lib.hid (below_more (HN3.out.trans (hb6.mono HN3.out.size)) (.cells #[.int .i64 0, .slice AO P.fs.length cO, .int .i64 P.mark] 31))
        have HA4 := Lib.hid ((HA3.out.below' hb6).below' (below_new (.cells #[.int .i64 0, .slice AO P.fs.length cO, .int .i64 P.mark] 31)))
        have HS4 := Lib.hid ((HS3.out.below' hb6).alloc (.cells #[.int .i64 0, .slice AO P.fs.length cO, .int .i64 P.mark] 31))
        have GI4 := Lib.hid (heap_old (o' := (.cells #[.int .i64 0, .slice AO P.fs.length cO, .int .i64 P.mark] 31)) ((hb6.block _ (heap_lt GI.out)).trans GI.out))
        have GO4 := Lib.hid (heap_new w6 (.cells #[.int .i64 0, .slice AO P.fs.length cO, .int .i64 P.mark] 31) rfl)
        have HO4 := Lib.hid (hro.alloc (.cells #[.int .i64 0, .slice AO P.fs.length cO, .int .i64 P.mark] 31))
        clear hro hb6 HA3 HN3 HS3 GI i0 i1 hzi
        obtain ⟨p0, p1, p2, _, _, _, hzp⟩ := three_at6 HA4.out.bp
        go_wp2_with fail
        clear p0 p1 p2 hzp
        generalize w6.alloc (.cells #[.int .i64 0, .slice AO P.fs.length cO, .int .i64 P.mark] 31) = Y at *
        generalize w6.heap.size = ga at *
        refine (implPlacesFault_a P (.slice AP P.fs.length cP) fP _ hszP HPMW.out HPW.out HA4.out.pp).mono ?_
        rw [HP0.out]
        rintro e w7 ⟨rfl, hb7⟩
        have HN5 := Lib.hid (HN4.out.trans (hb7.mono HN4.out.size))
        have HA5 := Lib.hid (HA4.out.below' hb7); have HS5 := Lib.hid (HS4.out.below' hb7); have HO5 := Lib.hid (HO4.out.below' hb7)
        have GI5 := Lib.hid ((hb7.block _ (heap_lt GI4.out)).trans GI4.out); have GO5 := Lib.hid ((hb7.block _ (heap_lt GO4.out)).trans GO4.out)
        clear hb7 HN4 HA4 HS4 HO4 GI4 GO4
        obtain ⟨p0, p1, p2, _, _, _, hzp⟩ := three_at6 HA5.out.bp
        obtain ⟨i0, i1, _, _, hzi⟩ := two_at GI5.out
        obtain ⟨o0, o1, o2, _, _, _, hzo⟩ := three_at6 GO5.out
        go_wp2_with fail
        clear p0 p1 p2 hzp i0 i1 hzi o0 o1 o2 hzo
        refine (implSamePlaces_a P P (.slice AO P.fs.length cO) (.slice AP P.fs.length cP) fO fP _ hszP hszP HPW.out HPW.out HO5.out HA5.out.pp).mono ?_
        rintro e w8 ⟨rfl, hb8⟩
        rw [show decide (P = P) = true by simp]
        have HN6 := Lib.hid (HN5.out.trans (hb8.mono HN5.out.size))
        have HA6 := Lib.hid (HA5.out.below' hb8); have HS6 := Lib.hid (HS5.out.below' hb8)
        have GI6 := Lib.hid ((hb8.block _ (heap_lt GI5.out)).trans GI5.out)
        clear hb8 HN5 HA5 HS5 HO5 GI5 GO5
        obtain ⟨i0, i1, _, _, hzi⟩ := two_at GI6.out
        go_wp2_with fail
        clear i0 i1 hzi
        refine (implDifferAt_a As A1 cs c1 S rs _ fs f1 (by omega) (by omega) HLW.out (fun q hq => (HMR.out q hq).wf) HS6.out HA6.out.rr).mono ?_
        rw [HPD.out]
        rintro e w9 ⟨rfl, hb9⟩
        have HN7 := Lib.hid (HN6.out.trans (hb9.mono HN6.out.size))
        have q3 := fldIr0
        unfold pairV
        clear hb9
        go_wp2_with fail
        go_ret
        exact ⟨by simp, HN7.out⟩
      · have hcb : (C1 != 0) = true := by simpa using hc1
        clear hc1
        go_wp2_with fail
        have hld : ∀ w', Below V.heap.size V w' → w'.cell? ⟨gp, 0, none⟩ = some (.int .i64 C1) ∧ True := fun w' h => ⟨(three_kept h HA2.out.bp).1, trivial⟩
        have HLD := Lib.hid hld; clear hld
        refine wp_region_sched (fun w' => Below V.heap.size V w') [(0, true), (1, true), (4, true), (5, true), (2, false), (3, true), (6, true), (7, true)] (by kernel_rfl) (by kernel_rfl) (by kernel_rfl) (by kernel_rfl) (fun _ _ d _ _ h => by cases d <;> exact h) ⟨rfl, rfl, rfl, Nat.le_refl _, fun _ _ => rfl⟩ ?_
        simp only [opsOf, List.filterMap_cons, List.filterMap_nil, Option.map_some, List.getElem?_toArray, List.getElem?_cons_zero, List.getElem?_cons_succ]
        generalize hW0 : ({ heap := V.heap, tape := V.tape, drawn := V.drawn + 1, os := V.os, output := V.output } : World) = u0
        have hu0 : Below V.heap.size V u0 := by rw [← hW0]; exact ⟨rfl, rfl, rfl, Nat.le_refl _, fun _ _ => rfl⟩
        clear hW0
        refine sched_run (v := ?_) (by rfl) ?_ ?_
        rotate_left
        · (intro w' hS'; go_simp; try with_reducible rfl)
        try simp only [Act.put, List.setIfInBounds_toArray, List.set_cons_zero, List.set_cons_succ]
        refine sched_run (v := ?_) (by rfl) ?_ ?_
        rotate_left
        · (intro w' hS'; go_simp; try with_reducible rfl)
        try simp only [Act.put, List.setIfInBounds_toArray, List.set_cons_zero, List.set_cons_succ]
        refine sched_run (v := ?_) (by rfl) ?_ ?_
        rotate_left
        · (intro w' hS'; go_simp; try with_reducible rfl)
        try simp only [Act.put, List.setIfInBounds_toArray, List.set_cons_zero, List.set_cons_succ]
        refine sched_run (v := ?_) (by rfl) ?_ ?_
        rotate_left
        · (intro w' hS'; obtain ⟨a0, _⟩ := HLD.out w' hS'; go_simp; try with_reducible rfl)
        try simp only [Act.put, List.setIfInBounds_toArray, List.set_cons_zero, List.set_cons_succ]
        refine sched_call (by rfl) (fun K hK => ?_)
        go_simp
        refine (specPlacesOf_r A1 c1 rs m1 _ f1 (by omega) (HA2.out.rr.below' hu0)).mono ?_
        rintro e u1 ⟨vq, fq, rfl, hrq, _, _, hbu0⟩
        have hu1 : Below V.heap.size V u1 := hu0.trans (hbu0.mono hu0.size)
        rw [HC1.out]
        clear hrq
        clear hbu0
        refine hK _ _ hu1 ?_
        try simp only [Act.put, List.setIfInBounds_toArray, List.set_cons_zero, List.set_cons_succ]
        refine sched_run (v := ?_) (by rfl) ?_ ?_
        rotate_left
        · (intro w' hS'; go_simp; try with_reducible rfl)
        try simp only [Act.put, List.setIfInBounds_toArray, List.set_cons_zero, List.set_cons_succ]
        refine sched_run (v := ?_) (by rfl) ?_ ?_
        rotate_left
        · (intro w' hS'; go_simp; try with_reducible rfl)
        try simp only [Act.put, List.setIfInBounds_toArray, List.set_cons_zero, List.set_cons_succ]
        refine sched_run (v := ?_) (by rfl) ?_ ?_
        rotate_left
        · (intro w' hS'; go_simp; try with_reducible rfl)
        try simp only [Act.put, List.setIfInBounds_toArray, List.set_cons_zero, List.set_cons_succ]
        refine sched_done ?_
        go_wp2_with fail
        go_ret
        exact ⟨by simp, HN2.out.trans (hu1.mono HN2.out.size)⟩
    · have hjb : (C2 == 0) = false := by simpa using hc2
      clear hc2
      have hld : ∀ w', Below W.heap.size W w' → w'.cell? ⟨gw, 0, none⟩ = some (.int .i64 C2) ∧ w'.cell? ⟨gw, 1, none⟩ = some (.slice AQ Q.fs.length cQ) ∧ w'.cell? ⟨gw, 2, none⟩ = some (.int .i64 Q.mark) ∧ w'.cell? ⟨gq, 0, none⟩ = some (.slice Al q.fs.length cl) ∧ w'.cell? ⟨gq, 1, none⟩ = some (.int .i64 q.mark) ∧ w'.cell? ⟨gr, 0, none⟩ = some (.int .i64 r.1) ∧ w'.cell? ⟨gr, 1, none⟩ = some (.int .i64 r.2.1) ∧ w'.cell? ⟨gr, 2, none⟩ = some (.int .i64 r.2.2.1) ∧ w'.cell? ⟨gr, 3, none⟩ = some (.int .i64 r.2.2.2) := fun w' h => ⟨(three_kept h HC.out.bw).1, (three_kept h HC.out.bw).2.1, (three_kept h HC.out.bw).2.2, (two_kept h PBX.out.bq).1, (two_kept h PBX.out.bq).2, four_kept h PBX.out.br⟩
      have HLD := Lib.hid hld; clear hld
      refine wp_region_sched (fun w' => Below W.heap.size W w') [(0, true), (1, true), (2, true), (3, true), (4, true), (5, false), (6, true), (7, true), (8, true), (9, true), (10, true), (11, true), (12, true), (13, true), (14, true), (15, false), (16, true), (17, true), (18, true), (19, true), (20, true), (21, true), (22, true), (23, true), (24, true), (25, true), (26, true), (29, true), (32, true), (27, false), (28, true), (30, false), (31, true), (33, false), (34, true), (35, false), (36, true), (37, true), (38, true), (39, true), (40, true), (41, true), (42, true), (43, true), (44, false), (45, true), (46, false), (47, true), (48, true), (49, true), (50, true)] (by kernel_rfl) (by kernel_rfl) (by kernel_rfl) (by kernel_rfl) (fun _ _ d _ _ h => by cases d <;> exact h) ⟨rfl, rfl, rfl, Nat.le_refl _, fun _ _ => rfl⟩ ?_
      simp only [opsOf, List.filterMap_cons, List.filterMap_nil, Option.map_some, List.getElem?_toArray, List.getElem?_cons_zero, List.getElem?_cons_succ]
      generalize hW0 : ({ heap := W.heap, tape := W.tape, drawn := W.drawn + 1, os := W.os, output := W.output } : World) = v0
      have hv0 : Below W.heap.size W v0 := by rw [← hW0]; exact ⟨rfl, rfl, rfl, Nat.le_refl _, fun _ _ => rfl⟩
      clear hW0
      refine sched_run (v := ?_) (by rfl) ?_ ?_
      rotate_left
      · (intro w' hS'; go_simp; try with_reducible rfl)
      try simp only [Act.put, List.setIfInBounds_toArray, List.set_cons_zero, List.set_cons_succ]
      refine sched_run (v := ?_) (by rfl) ?_ ?_
      rotate_left
      · (intro w' hS'; obtain ⟨a0, a1, a2, e0, e1, r0, r1, r2, r3⟩ := HLD.out w' hS'; go_simp; try with_reducible rfl)
      try simp only [Act.put, List.setIfInBounds_toArray, List.set_cons_zero, List.set_cons_succ]
      refine sched_run (v := ?_) (by rfl) ?_ ?_
      rotate_left
      · (intro w' hS'; obtain ⟨a0, a1, a2, e0, e1, r0, r1, r2, r3⟩ := HLD.out w' hS'; go_simp; try with_reducible rfl)
      try simp only [Act.put, List.setIfInBounds_toArray, List.set_cons_zero, List.set_cons_succ]
      refine sched_run (v := ?_) (by rfl) ?_ ?_
      rotate_left
      · (intro w' hS'; obtain ⟨a0, a1, a2, e0, e1, r0, r1, r2, r3⟩ := HLD.out w' hS'; go_simp; try with_reducible rfl)
      try simp only [Act.put, List.setIfInBounds_toArray, List.set_cons_zero, List.set_cons_succ]
      refine sched_run (v := ?_) (by rfl) ?_ ?_
      rotate_left
      · (intro w' hS'; go_simp; try with_reducible rfl)
      try simp only [Act.put, List.setIfInBounds_toArray, List.set_cons_zero, List.set_cons_succ]
      refine sched_call (by rfl) (fun K hK => ?_)
      go_simp
      refine (specWritePlace_r q (.slice Al q.fs.length cl) r m _ fl hszq (PBX.out.ll.below' hv0)).mono ?_
      rintro e v1 ⟨vq, fq, rfl, hrq, _, _, hbv0⟩
      have hv1 : Below W.heap.size W v1 := hv0.trans (hbv0.mono hv0.size)
      rw [HC2.out, HQ.out]
      clear hrq
      clear hbv0
      refine hK _ _ hv1 ?_
      try simp only [Act.put, List.setIfInBounds_toArray, List.set_cons_zero, List.set_cons_succ]
      refine sched_run (v := ?_) (by rfl) ?_ ?_
      rotate_left
      · (intro w' hS'; go_simp; try with_reducible rfl)
      try simp only [Act.put, List.setIfInBounds_toArray, List.set_cons_zero, List.set_cons_succ]
      refine sched_run (v := ?_) (by rfl) ?_ ?_
      rotate_left
      · (intro w' hS'; go_simp; try with_reducible rfl)
      try simp only [Act.put, List.setIfInBounds_toArray, List.set_cons_zero, List.set_cons_succ]
      refine sched_run (v := ?_) (by rfl) ?_ ?_
      rotate_left
      · (intro w' hS'; go_simp; try with_reducible rfl)
      try simp only [Act.put, List.setIfInBounds_toArray, List.set_cons_zero, List.set_cons_succ]
      refine sched_run (v := ?_) (by rfl) ?_ ?_
      rotate_left
      · (intro w' hS'; go_simp; try with_reducible rfl)
      try simp only [Act.put, List.setIfInBounds_toArray, List.set_cons_zero, List.set_cons_succ]
      refine sched_run (v := ?_) (by rfl) ?_ ?_
      rotate_left
      · (intro w' hS'; obtain ⟨a0, a1, a2, e0, e1, r0, r1, r2, r3⟩ := HLD.out w' hS'; go_simp; try with_reducible rfl)
      try simp only [Act.put, List.setIfInBounds_toArray, List.set_cons_zero, List.set_cons_succ]
      refine sched_run (v := ?_) (by rfl) ?_ ?_
      rotate_left
      · (intro w' hS'; go_simp; try with_reducible rfl)
      try simp only [Act.put, List.setIfInBounds_toArray, List.set_cons_zero, List.set_cons_succ]
      refine sched_run (v := ?_) (by rfl) ?_ ?_
      rotate_left
      · (intro w' hS'; go_simp; try with_reducible rfl)
      try simp only [Act.put, List.setIfInBounds_toArray, List.set_cons_zero, List.set_cons_succ]
      refine sched_skip (by rfl) ?_
      try simp only [Act.put, List.setIfInBounds_toArray, List.set_cons_zero, List.set_cons_succ]
      refine sched_skip (by rfl) ?_
      try simp only [Act.put, List.setIfInBounds_toArray, List.set_cons_zero, List.set_cons_succ]
      refine sched_skip' (by rfl) ?_
      try simp only [Act.put, List.setIfInBounds_toArray, List.set_cons_zero, List.set_cons_succ]
      refine sched_skip (by rfl) ?_
      try simp only [Act.put, List.setIfInBounds_toArray, List.set_cons_zero, List.set_cons_succ]
      refine sched_skip (by rfl) ?_
      try simp only [Act.put, List.setIfInBounds_toArray, List.set_cons_zero, List.set_cons_succ]
      refine sched_skip (by rfl) ?_
      try simp only [Act.put, List.setIfInBounds_toArray, List.set_cons_zero, List.set_cons_succ]
      refine sched_skip (by rfl) ?_
      try simp only [Act.put, List.setIfInBounds_toArray, List.set_cons_zero, List.set_cons_succ]
      refine sched_skip (by rfl) ?_
      try simp only [Act.put, List.setIfInBounds_toArray, List.set_cons_zero, List.set_cons_succ]
      refine sched_skip (by rfl) ?_
      try simp only [Act.put, List.setIfInBounds_toArray, List.set_cons_zero, List.set_cons_succ]
      refine sched_skip (by rfl) ?_
      try simp only [Act.put, List.setIfInBounds_toArray, List.set_cons_zero, List.set_cons_succ]
      refine sched_skip (by rfl) ?_
      try simp only [Act.put, List.setIfInBounds_toArray, List.set_cons_zero, List.set_cons_succ]
      refine sched_skip (by rfl) ?_
      try simp only [Act.put, List.setIfInBounds_toArray, List.set_cons_zero, List.set_cons_succ]
      refine sched_skip (by rfl) ?_
      try simp only [Act.put, List.setIfInBounds_toArray, List.set_cons_zero, List.set_cons_succ]
      refine sched_skip (by rfl) ?_
      try simp only [Act.put, List.setIfInBounds_toArray, List.set_cons_zero, List.set_cons_succ]
      refine sched_skip (by rfl) ?_
      try simp only [Act.put, List.setIfInBounds_toArray, List.set_cons_zero, List.set_cons_succ]
      refine sched_skip (by rfl) ?_
      try simp only [Act.put, List.setIfInBounds_toArray, List.set_cons_zero, List.set_cons_succ]
      refine sched_skip' (by rfl) ?_
      try simp only [Act.put, List.setIfInBounds_toArray, List.set_cons_zero, List.set_cons_succ]
      refine sched_skip (by rfl) ?_
      try simp only [Act.put, List.setIfInBounds_toArray, List.set_cons_zero, List.set_cons_succ]
      refine sched_skip' (by rfl) ?_
      try simp only [Act.put, List.setIfInBounds_toArray, List.set_cons_zero, List.set_cons_succ]
      refine sched_skip (by rfl) ?_
      try simp only [Act.put, List.setIfInBounds_toArray, List.set_cons_zero, List.set_cons_succ]
      refine sched_skip' (by rfl) ?_
      try simp only [Act.put, List.setIfInBounds_toArray, List.set_cons_zero, List.set_cons_succ]
      refine sched_skip (by rfl) ?_
      try simp only [Act.put, List.setIfInBounds_toArray, List.set_cons_zero, List.set_cons_succ]
      refine sched_skip' (by rfl) ?_
      try simp only [Act.put, List.setIfInBounds_toArray, List.set_cons_zero, List.set_cons_succ]
      refine sched_skip (by rfl) ?_
      try simp only [Act.put, List.setIfInBounds_toArray, List.set_cons_zero, List.set_cons_succ]
      refine sched_skip (by rfl) ?_
      try simp only [Act.put, List.setIfInBounds_toArray, List.set_cons_zero, List.set_cons_succ]
      refine sched_skip (by rfl) ?_
      try simp only [Act.put, List.setIfInBounds_toArray, List.set_cons_zero, List.set_cons_succ]
      refine sched_skip (by rfl) ?_
      try simp only [Act.put, List.setIfInBounds_toArray, List.set_cons_zero, List.set_cons_succ]
      refine sched_skip (by rfl) ?_
      try simp only [Act.put, List.setIfInBounds_toArray, List.set_cons_zero, List.set_cons_succ]
      refine sched_skip (by rfl) ?_
      try simp only [Act.put, List.setIfInBounds_toArray, List.set_cons_zero, List.set_cons_succ]
      refine sched_skip (by rfl) ?_
      try simp only [Act.put, List.setIfInBounds_toArray, List.set_cons_zero, List.set_cons_succ]
      refine sched_skip (by rfl) ?_
      try simp only [Act.put, List.setIfInBounds_toArray, List.set_cons_zero, List.set_cons_succ]
      refine sched_skip' (by rfl) ?_
      try simp only [Act.put, List.setIfInBounds_toArray, List.set_cons_zero, List.set_cons_succ]
      refine sched_skip (by rfl) ?_
      try simp only [Act.put, List.setIfInBounds_toArray, List.set_cons_zero, List.set_cons_succ]
      refine sched_skip' (by rfl) ?_
      try simp only [Act.put, List.setIfInBounds_toArray, List.set_cons_zero, List.set_cons_succ]
      refine sched_skip (by rfl) ?_
      try simp only [Act.put, List.setIfInBounds_toArray, List.set_cons_zero, List.set_cons_succ]
      refine sched_skip (by rfl) ?_
      try simp only [Act.put, List.setIfInBounds_toArray, List.set_cons_zero, List.set_cons_succ]
      refine sched_run (v := ?_) (by rfl) ?_ ?_
      rotate_left
      · (intro w' hS'; go_simp; try with_reducible rfl)
      try simp only [Act.put, List.setIfInBounds_toArray, List.set_cons_zero, List.set_cons_succ]
      refine sched_run (v := ?_) (by rfl) ?_ ?_
      rotate_left
      · (intro w' hS'; go_simp; try with_reducible rfl)
      try simp only [Act.put, List.setIfInBounds_toArray, List.set_cons_zero, List.set_cons_succ]
      refine sched_done ?_
      have HVW := Lib.hid hv1
      have HA2 := Lib.hid (HA.out.below' HVW.out)
      have HN2 := Lib.hid (HN.out.trans (HVW.out.mono HN.out.size))
      clear HLD HA PBX HC HN HVW
      clear hv0
      clear hv1
      generalize v1 = V at *
      obtain ⟨p0, p1, p2, _, _, _, hzp⟩ := three_at6 HA2.out.bp
      by_cases hc1 : C1 = 0
      · obtain ⟨hP0, hPM, hPC, hPP, hPD⟩ := po_right (HC1.out.trans hc1)
        rw [HP.out] at hP0 hPM hPC hPP hPD
        have hP0i : riC P = 0 := hP0
        have hsl : (riL P).length ≤ 12 := riL_len P
        have hLw := wfs_of_rowsF (riL_rowsF hP0)
        have HPW := Lib.hid (wfF_right hP0); have HPMW := Lib.hid (mark_right hP0)
        have HP0 := Lib.hid hP0; have HPM := Lib.hid hPM; have HPC := Lib.hid hPC; have HPP := Lib.hid hPP; have HPD := Lib.hid hPD; have HLW := Lib.hid hLw
        generalize hS : riL P = S at *
        have HS := Lib.hid hS
        clear hP0 hPM hPC hPP hPD hLw hS
        subst hc1
        go_wp2_with fail
        refine (implRowsIn_a P (.slice AP P.fs.length cP) _ fP hszP HPMW.out HPW.out HA2.out.pp).mono ?_
        rw [hP0i, HS.out]
        rintro e w5 ⟨_, rfl, ⟨vs, fs, rfl, hrs, _, _⟩, hb5⟩
        obtain ⟨As, cs, rfl⟩ := hrs.rows_form
        have HN3 := Lib.hid (below_more (HN2.out.trans (hb5.mono HN2.out.size)) (.cells #[.int .i64 0, .slice As S.length cs] 41))
        have HA3 := Lib.hid ((HA2.out.below' hb5).below' (below_new (.cells #[.int .i64 0, .slice As S.length cs] 41)))
        have HS3 := Lib.hid (hrs.alloc (.cells #[.int .i64 0, .slice As S.length cs] 41))
        have GI := Lib.hid (heap_new w5 (.cells #[.int .i64 0, .slice As S.length cs] 41) rfl)
        clear hrs hb5 HA2 HN2 p0 p1 p2 hzp hP0i
        go_wp2_with fail
        generalize w5.alloc (.cells #[.int .i64 0, .slice As S.length cs] 41) = X at *
        generalize w5.heap.size = gi at *
        obtain ⟨i0, i1, _, _, hzi⟩ := two_at GI.out
        go_wp2_with fail
        refine (implPlacesOf_a As cs S m1 _ fs (by omega) HLW.out (wf_mild hm1) HS3.out).mono ?_
        rw [HPC.out, HPP.out]
        rintro e w6 ⟨vO, fO, rfl, hro, _, _, hb6⟩
        obtain ⟨AO, cO, rfl⟩ := hro.form
        have HN4 := Lib.hid (below_more (HN3.out.trans (hb6.mono HN3.out.size)) (.cells #[.int .i64 0, .slice AO P.fs.length cO, .int .i64 P.mark] 31))
        have HA4 := Lib.hid ((HA3.out.below' hb6).below' (below_new (.cells #[.int .i64 0, .slice AO P.fs.length cO, .int .i64 P.mark] 31)))
        have HS4 := Lib.hid ((HS3.out.below' hb6).alloc (.cells #[.int .i64 0, .slice AO P.fs.length cO, .int .i64 P.mark] 31))
        have GI4 := Lib.hid (heap_old (o' := (.cells #[.int .i64 0, .slice AO P.fs.length cO, .int .i64 P.mark] 31)) ((hb6.block _ (heap_lt GI.out)).trans GI.out))
        have GO4 := Lib.hid (heap_new w6 (.cells #[.int .i64 0, .slice AO P.fs.length cO, .int .i64 P.mark] 31) rfl)
        have HO4 := Lib.hid (hro.alloc (.cells #[.int .i64 0, .slice AO P.fs.length cO, .int .i64 P.mark] 31))
        clear hro hb6 HA3 HN3 HS3 GI i0 i1 hzi
        obtain ⟨p0, p1, p2, _, _, _, hzp⟩ := three_at6 HA4.out.bp
        go_wp2_with fail
        clear p0 p1 p2 hzp
        generalize w6.alloc (.cells #[.int .i64 0, .slice AO P.fs.length cO, .int .i64 P.mark] 31) = Y at *
        generalize w6.heap.size = ga at *
        refine (implPlacesFault_a P (.slice AP P.fs.length cP) fP _ hszP HPMW.out HPW.out HA4.out.pp).mono ?_
        rw [HP0.out]
        rintro e w7 ⟨rfl, hb7⟩
        have HN5 := Lib.hid (HN4.out.trans (hb7.mono HN4.out.size))
        have HA5 := Lib.hid (HA4.out.below' hb7); have HS5 := Lib.hid (HS4.out.below' hb7); have HO5 := Lib.hid (HO4.out.below' hb7)
        have GI5 := Lib.hid ((hb7.block _ (heap_lt GI4.out)).trans GI4.out); have GO5 := Lib.hid ((hb7.block _ (heap_lt GO4.out)).trans GO4.out)
        clear hb7 HN4 HA4 HS4 HO4 GI4 GO4
        obtain ⟨p0, p1, p2, _, _, _, hzp⟩ := three_at6 HA5.out.bp
        obtain ⟨i0, i1, _, _, hzi⟩ := two_at GI5.out
        obtain ⟨o0, o1, o2, _, _, _, hzo⟩ := three_at6 GO5.out
        go_wp2_with fail
        clear p0 p1 p2 hzp i0 i1 hzi o0 o1 o2 hzo
        refine (implSamePlaces_a P P (.slice AO P.fs.length cO) (.slice AP P.fs.length cP) fO fP _ hszP hszP HPW.out HPW.out HO5.out HA5.out.pp).mono ?_
        rintro e w8 ⟨rfl, hb8⟩
        rw [show decide (P = P) = true by simp]
        have HN6 := Lib.hid (HN5.out.trans (hb8.mono HN5.out.size))
        have HA6 := Lib.hid (HA5.out.below' hb8); have HS6 := Lib.hid (HS5.out.below' hb8)
        have GI6 := Lib.hid ((hb8.block _ (heap_lt GI5.out)).trans GI5.out)
        clear hb8 HN5 HA5 HS5 HO5 GI5 GO5
        obtain ⟨i0, i1, _, _, hzi⟩ := two_at GI6.out
        go_wp2_with fail
        clear i0 i1 hzi
        refine (implDifferAt_a As A1 cs c1 S rs _ fs f1 (by omega) (by omega) HLW.out (fun q hq => (HMR.out q hq).wf) HS6.out HA6.out.rr).mono ?_
        rw [HPD.out]
        rintro e w9 ⟨rfl, hb9⟩
        have HN7 := Lib.hid (HN6.out.trans (hb9.mono HN6.out.size))
        have q3 := fldIr0
        unfold pairV
        clear hb9
        go_wp2_with fail
        go_ret
        exact ⟨by simp, HN7.out⟩
      · have hcb : (C1 != 0) = true := by simpa using hc1
        clear hc1
        go_wp2_with fail
        have hld : ∀ w', Below V.heap.size V w' → w'.cell? ⟨gp, 0, none⟩ = some (.int .i64 C1) ∧ True := fun w' h => ⟨(three_kept h HA2.out.bp).1, trivial⟩
        have HLD := Lib.hid hld; clear hld
        refine wp_region_sched (fun w' => Below V.heap.size V w') [(0, true), (1, true), (4, true), (5, true), (2, false), (3, true), (6, true), (7, true)] (by kernel_rfl) (by kernel_rfl) (by kernel_rfl) (by kernel_rfl) (fun _ _ d _ _ h => by cases d <;> exact h) ⟨rfl, rfl, rfl, Nat.le_refl _, fun _ _ => rfl⟩ ?_
        simp only [opsOf, List.filterMap_cons, List.filterMap_nil, Option.map_some, List.getElem?_toArray, List.getElem?_cons_zero, List.getElem?_cons_succ]
        generalize hW0 : ({ heap := V.heap, tape := V.tape, drawn := V.drawn + 1, os := V.os, output := V.output } : World) = u0
        have hu0 : Below V.heap.size V u0 := by rw [← hW0]; exact ⟨rfl, rfl, rfl, Nat.le_refl _, fun _ _ => rfl⟩
        clear hW0
        refine sched_run (v := ?_) (by rfl) ?_ ?_
        rotate_left
        · (intro w' hS'; go_simp; try with_reducible rfl)
        try simp only [Act.put, List.setIfInBounds_toArray, List.set_cons_zero, List.set_cons_succ]
        refine sched_run (v := ?_) (by rfl) ?_ ?_
        rotate_left
        · (intro w' hS'; go_simp; try with_reducible rfl)
        try simp only [Act.put, List.setIfInBounds_toArray, List.set_cons_zero, List.set_cons_succ]
        refine sched_run (v := ?_) (by rfl) ?_ ?_
        rotate_left
        · (intro w' hS'; go_simp; try with_reducible rfl)
        try simp only [Act.put, List.setIfInBounds_toArray, List.set_cons_zero, List.set_cons_succ]
        refine sched_run (v := ?_) (by rfl) ?_ ?_
        rotate_left
        · (intro w' hS'; obtain ⟨a0, _⟩ := HLD.out w' hS'; go_simp; try with_reducible rfl)
        try simp only [Act.put, List.setIfInBounds_toArray, List.set_cons_zero, List.set_cons_succ]
        refine sched_call (by rfl) (fun K hK => ?_)
        go_simp
        refine (specPlacesOf_r A1 c1 rs m1 _ f1 (by omega) (HA2.out.rr.below' hu0)).mono ?_
        rintro e u1 ⟨vq, fq, rfl, hrq, _, _, hbu0⟩
        have hu1 : Below V.heap.size V u1 := hu0.trans (hbu0.mono hu0.size)
        rw [HC1.out]
        clear hrq
        clear hbu0
        refine hK _ _ hu1 ?_
        try simp only [Act.put, List.setIfInBounds_toArray, List.set_cons_zero, List.set_cons_succ]
        refine sched_run (v := ?_) (by rfl) ?_ ?_
        rotate_left
        · (intro w' hS'; go_simp; try with_reducible rfl)
        try simp only [Act.put, List.setIfInBounds_toArray, List.set_cons_zero, List.set_cons_succ]
        refine sched_run (v := ?_) (by rfl) ?_ ?_
        rotate_left
        · (intro w' hS'; go_simp; try with_reducible rfl)
        try simp only [Act.put, List.setIfInBounds_toArray, List.set_cons_zero, List.set_cons_succ]
        refine sched_run (v := ?_) (by rfl) ?_ ?_
        rotate_left
        · (intro w' hS'; go_simp; try with_reducible rfl)
        try simp only [Act.put, List.setIfInBounds_toArray, List.set_cons_zero, List.set_cons_succ]
        refine sched_done ?_
        go_wp2_with fail
        go_ret
        exact ⟨by simp, HN2.out.trans (hu1.mono HN2.out.size)⟩
end Go.Proofs.Ytldimfmhbdhbnaa
