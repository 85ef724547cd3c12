/- The law FnJoins answers true for every slice of bytes: the walk. -/
import Derived.Test.YthmmjkpgepffeaaLwBig
import Derived.Test.YthmmjkpgepffeaaImpl2b
import Derived.Test.YthmmjkpgepffeaaImpl2f
import Derived.Test.YthmmjkpgepffeaaDraw2g
import Derived.Test.YthmmjkpgepffeaaDraw2h
import Derived.Test.YthmmjkpgepffeaaLists2c
import Derived.Test.YthmmjkpgepffeaaSched
namespace Go.Proofs.Ythmmjkpgepffeaa
open Go.RowKit

theorem fldRows0 (x y : Value) (w : World) : (Instr.field 30 (.agg #[x, y]) 0).run Try.prog w = .ok x w := by kernel_rfl
theorem fldRows1 (x y : Value) (w : World) : (Instr.field 30 (.agg #[x, y]) 1).run Try.prog w = .ok y w := by kernel_rfl
theorem two_kept {w w' : World} {g : Nat} {u v : Value} {t : TypeId} (h : Below w.heap.size w w') (hg : w.heap[g]? = some (.cells #[u, v] t (0, 0))) :
    w'.cell? ⟨g, 0, none⟩ = some u ∧ w'.cell? ⟨g, 1, none⟩ = some v := by
  have := (h.block _ (heap_lt hg)).trans hg
  exact ⟨cell_of_heap this, cell_of_heap this⟩
theorem wf_of_rowF {x : R} (h : rowF x = 0) : WfR x := by
  have hz := rowF_zero h
  exact ⟨wf_mild (by omega), wf_mild (by omega), wf_mild (by omega), wf_mild (by omega)⟩
theorem wfs_of_rowsF {L : List R} (h : rowsF L = 0) : ∀ x ∈ L, WfR x := fun x hx => wf_of_rowF ((rowsF_rising h).1.above x hx).1

/-- What follows where rows were joined. -/
structure JoinOk (a b jl : List R) : Prop where
  new : rowsF jl = 0
  len : jl.length = a.length + b.length
  small : jl.length ≤ 12
  back : jrL b a = jl
theorem join_ok {a b jl : List R} (hc : jrC a b = 0) (hl : jrL a b = jl) : JoinOk a b jl := by
  have hl' : jl = (joinGo a a b).getD [] := by rw [← hl]; simp [jrL, hc]
  unfold jrC at hc
  by_cases h0 : rowsF a = 0
  · rw [if_neg (by simpa using h0)] at hc
    by_cases h1 : rowsF b = 0
    · rw [if_neg (by simpa using h1)] at hc
      cases hj : joinGo a a b with
      | none => rw [hj] at hc; cases hc
      | some o =>
        rw [hj] at hc hl'
        have ho : jl = o := hl'
        subst ho
        have h12 : jl.length ≤ 12 := by
          have hc : (if 12 < jl.length then (2 : Int) else 0) = 0 := hc
          rcases Nat.lt_or_ge 12 jl.length with h | h
          · rw [if_pos h] at hc; cases hc
          · exact h
        obtain ⟨q1, q2⟩ := join_right h0 h1 hj h12
        have hb := join_comm h0 h1 hj
        refine ⟨q1, q2, h12, ?_⟩
        have hcb : jrC b a = 0 := by simp [jrC, h0, h1, hb, jC]; omega
        simp [jrL, hcb, hb]
    · rw [if_pos h1] at hc; exact absurd hc h1
  · rw [if_pos h0] at hc; exact absurd hc h0
/-- What follows where rows were cut. -/
structure CutOk (x : List R) (f t : Int) (cl o : List R) : Prop where
  rows : rowsF x = 0
  new : rowsF cl = 0
  cut : cl = cutR x f t
  c1 : crL x 0 f = cutR x 0 f
  c2 : crL x t 100 = cutR x t 100
  r1 : rowsF (cutR x 0 f) = 0
  r2 : rowsF (cutR x t 100) = 0
  jc : jrC (cutR x 0 f) (cutR x t 100) = 0
  jl : jrL (cutR x 0 f) (cutR x t 100) = o
  ro : rowsF o = 0
  lo : o.length ≤ 12
  all : jrL o cl = x
  lx : x.length ≤ 12
  lc : cl.length ≤ 12
  l1 : (cutR x 0 f).length ≤ 12
  l2 : (cutR x t 100).length ≤ 12
theorem cut_len (x : List R) (f t : Int) (h : x.length ≤ 12) : (cutR x f t).length ≤ 12 := Nat.le_trans (by unfold cutR; exact List.length_filter_le _ _) h
theorem cut_ok {x cl : List R} {f t : Int} (hc : crC x f t = 0) (hl : crL x f t = cl) : ∃ o, CutOk x f t cl o := by
  have hl' : cl = cutR x f t := by rw [← hl]; simp [crL, hc]
  have h0 : rowsF x = 0 := by
    by_cases h : rowsF x = 0
    · exact h
    · unfold crC at hc; rw [if_pos h] at hc; exact absurd hc h
  have hin : 0 ≤ f ∧ f ≤ t ∧ t ≤ 100 := by
    unfold crC at hc
    rw [if_neg (by simpa using h0)] at hc
    cases h1 : inB f 0 100 <;> cases h2 : inB t f 100 <;> simp [h1, h2] at hc
    have := inB_true.1 h1; have := inB_true.1 h2; omega
  obtain ⟨i1, i2, i3⟩ := hin
  have hx := (rowsF_fits h0).2
  obtain ⟨o, hj, hro, hlo, hj2⟩ := cut_join h0 i1 i2 i3
  have e1 : crC x 0 f = 0 := by
    have a1 : inB 0 0 100 = true := inB_true.2 (by omega)
    have a2 : inB f 0 100 = true := inB_true.2 (by omega)
    simp [crC, h0, a1, a2]
  have e2 : crC x t 100 = 0 := by
    have a1 : inB t 0 100 = true := inB_true.2 (by omega)
    have a2 : inB 100 t 100 = true := inB_true.2 (by omega)
    simp [crC, h0, a1, a2]
  have r1 := cut_right (f := 0) (t := f) h0
  have r2 := cut_right (f := t) (t := 100) h0
  have r3 := cut_right (f := f) (t := t) h0
  have jc : jrC (cutR x 0 f) (cutR x t 100) = 0 := by simp [jrC, r1, r2, hj, jC]; omega
  have jc2 : jrC o (cutR x f t) = 0 := by simp [jrC, hro, r3, hj2, jC]; omega
  subst hl'
  exact ⟨o, h0, r3, rfl, by simp [crL, e1], by simp [crL, e2], r1, r2, jc, by simp [jrL, jc, hj], hro, hlo, by simp [jrL, jc2, hj2], hx, cut_len x f t hx, cut_len x 0 f hx, cut_len x t 100 hx⟩

set_option maxRecDepth 100000 in
set_option maxHeartbeats 16000000 in
theorem lawJoins_c (a : Option Addr) (len cap : Nat) (z : List Int) (w : World) (h0 : IsRow .u8 w a len cap z) :
    Calls Try.prog 4 #[.slice a len cap] w fun e w' => e = .returned (.bool true) ∧ Below w.heap.size w w' := by
  have hlen := h0.len
  have hby := h0.byt
  obtain ⟨fp, hr⟩ := h0.rd
  clear h0
  generalize z.take len = zs at *
  subst hlen
  clear z
  have hmax := hr.len_le
  by_cases hbig : 1048576 < zs.length
  · have HBD := Lib.hid (show decide (1048576 < zs.length) = true by simp [hbig])
    go_enter Try.func4, Try.ntmps4
    go_wp2_with fail
    refine (bigCode_c _ _ _ _ hmax).mono ?_
    rintro e w1 ⟨rfl, rfl⟩
    rw [HBD.out]
    go_wp2
    go_ret
    exact ⟨rfl, Below.refl _ _⟩
  · have hs : zs.length ≤ 1048576 := by omega
    have HBD := Lib.hid (show decide (1048576 < zs.length) = false by simp [hs])
    have HCR := Lib.hid hr; have HBY := Lib.hid hby
    clear hr hby hbig
    go_enter Try.func4, Try.ntmps4
    go_wp2_with fail
    refine (bigCode_c _ _ _ _ hmax).mono ?_
    rintro e w0 ⟨rfl, rfl⟩
    rw [HBD.out]
    go_wp2_with fail
    refine (drawJoinRows_c a cap zs w fp HCR.out HBY.out hs).mono ?_
    rintro e w1 ⟨va, vb, fa, fb, ra, rb, rfl, hra, hrb, hma, hmb, hla, hlb, hb1⟩
    obtain ⟨Aa, ca, rfl⟩ := hra.rows_form
    obtain ⟨Ab, cb, rfl⟩ := hrb.rows_form
    have N1 := Lib.hid hb1; have HRA := Lib.hid hra; have HRB := Lib.hid hrb; have HMA := Lib.hid hma; have HMB := Lib.hid hmb
    clear hb1 hra hrb hma hmb
    go_wp2_with fail
    refine (implJoinRows_a Aa Ab ca cb ra rb _ fa fb (by omega) (by omega) (fun q hq => (HMA.out q hq).wf) (fun q hq => (HMB.out q hq).wf) HRA.out HRB.out).mono ?_
    rintro e w2 ⟨_, rfl, ⟨vj, fj, rfl, hrj, _, _⟩, hb2⟩
    obtain ⟨Aj, cj, rfl⟩ := hrj.rows_form
    generalize hjc : jrC ra rb = jc at *
    generalize hjl : jrL ra rb = jl at *
    have HJC := Lib.hid hjc; have HJL := Lib.hid hjl
    have N2 := Lib.hid (N1.out.trans (hb2.mono N1.out.size)); have B2 := Lib.hid hb2; have HRJ := Lib.hid hrj
    clear hb2 hrj hjc hjl
    have M2 := Lib.hid (below_more N2.out (.cells #[.int .i64 jc, .slice Aj jl.length cj] 30))
    go_wp2_with fail
    refine (drawCutRows_c a cap zs _ fp (HCR.out.below' M2.out) HBY.out hs).mono ?_
    rintro e w3 ⟨vx, fx, xs, f, t, rfl, hrx, _, _, hmx, hlx, hmf, hmt, hb3⟩
    obtain ⟨Ax, cx, rfl⟩ := hrx.rows_form
    have N3 := Lib.hid (M2.out.trans (hb3.mono M2.out.size)); have B3 := Lib.hid hb3; have HRX := Lib.hid hrx; have HMX := Lib.hid hmx; have HWF := Lib.hid (wf_mild hmf); have HWT := Lib.hid (wf_mild hmt)
    clear hb3 hrx hmx hmf hmt
    go_wp2_with fail
    refine (implCutRows_a Ax cx xs f t _ fx (by omega) (fun q hq => (HMX.out q hq).wf) HWF.out HWT.out HRX.out).mono ?_
    rintro e w4 ⟨_, rfl, ⟨vc, fc, rfl, hrc, _, _⟩, hb4⟩
    obtain ⟨Ac, ccp, rfl⟩ := hrc.rows_form
    generalize hcc : crC xs f t = cc at *
    generalize hcl : crL xs f t = cl at *
    have HCC := Lib.hid hcc; have HCL := Lib.hid hcl
    have N4 := Lib.hid (N3.out.trans (hb4.mono N3.out.size)); have B4 := Lib.hid hb4; have HRC := Lib.hid hrc
    clear hb4 hrc hcc hcl
    go_wp2_with fail
    have k4 : Below w4.heap.size w4 (w4.alloc (.cells #[.int .i64 cc, .slice Ac cl.length ccp] 30)) := below_new _
    have k3 : Below w3.heap.size w3 (w4.alloc (.cells #[.int .i64 cc, .slice Ac cl.length ccp] 30)) := B4.out.trans (k4.mono B4.out.size)
    have k2' : Below _ (w2.alloc (.cells #[.int .i64 jc, .slice Aj jl.length cj] 30)) (w4.alloc (.cells #[.int .i64 cc, .slice Ac cl.length ccp] 30)) := B3.out.trans (k3.mono B3.out.size)
    have k2 : Below w2.heap.size w2 (w4.alloc (.cells #[.int .i64 cc, .slice Ac cl.length ccp] 30)) := (below_new _).trans (k2'.mono (by simp))
    have k1 : Below w1.heap.size w1 (w4.alloc (.cells #[.int .i64 cc, .slice Ac cl.length ccp] 30)) := B2.out.trans (k2.mono B2.out.size)
    have hg5 : (w4.alloc (.cells #[.int .i64 cc, .slice Ac cl.length ccp] 30)).heap[w2.heap.size]? = some (.cells #[.int .i64 jc, .slice Aj jl.length cj] 30 (0, 0)) := newest k2' (by simp)
    have hg9 : (w4.alloc (.cells #[.int .i64 cc, .slice Ac cl.length ccp] 30)).heap[w4.heap.size]? = some (.cells #[.int .i64 cc, .slice Ac cl.length ccp] 30 (0, 0)) := heap_new w4 _ rfl
    have hra := HRA.out.below' k1; have hrb := HRB.out.below' k1; have hrj := HRJ.out.below' k2; have hrx := HRX.out.below' k3; have hrc := HRC.out.below' k4
    have hbW : Below w.heap.size w (w4.alloc (.cells #[.int .i64 cc, .slice Ac cl.length ccp] 30)) := below_more N4.out _
    clear k1 k2 k2' k3 k4 N1 N2 N3 N4 M2 B2 B3 B4 HRA HRB HRJ HRX HRC
    generalize w2.heap.size = g5 at *
    generalize w4.heap.size = g9 at *
    generalize w4.alloc (.cells #[.int .i64 cc, .slice Ac cl.length ccp] 30) = W at *
    have G5 := Lib.hid hg5; have G9 := Lib.hid hg9; have HRA := Lib.hid hra; have HRB := Lib.hid hrb; have HRJ := Lib.hid hrj; have HRX := Lib.hid hrx; have HRC := Lib.hid hrc; have HBW := Lib.hid hbW
    clear hg5 hg9 hra hrb hrj hrx hrc hbW
    have q1 := fldRows0; have q2 := fldRows1
    by_cases hj0 : jc = 0
    · have hok := join_ok (HJC.out.trans hj0) HJL.out
      have HOK := Lib.hid hok
      have hjs := hok.small
      have hdl : ((jl.length : Int) != (ra.length : Int) + (rb.length : Int)) = false := by
        have := hok.len
        simp; omega
      have hwr : IntKind.i64.wrap ((ra.length : Int) + (rb.length : Int)) = (ra.length : Int) + (rb.length : Int) := IntWalk.i64_in _ (by omega)
      subst hj0
      clear hok
      have hld : ∀ w', Below W.heap.size W w' → w'.cell? ⟨g5, 0, none⟩ = some (.int .i64 0) ∧ w'.cell? ⟨g5, 1, none⟩ = some (.slice Aj jl.length cj) := fun w' h => two_kept h G5.out
      have HLD := Lib.hid hld; clear hld
      refine wp_region_sched (fun w' => Below W.heap.size W w') [(0, true), (1, true), (2, true), (3, true), (4, false), (5, true), (6, true), (7, true), (8, true), (9, true), (10, true), (11, true), (12, true), (13, true), (14, false), (15, true), (16, true), (17, true), (18, true), (19, true), (20, true), (21, true), (22, true), (23, true), (24, true), (25, true), (26, true), (27, true), (28, true), (29, true), (30, true), (31, true), (32, false), (33, true), (34, false), (35, true), (36, true), (37, true), (38, true)] (by kernel_rfl) (by kernel_rfl) (by kernel_rfl) (by kernel_rfl) (fun _ _ d _ _ h => by cases d <;> exact h) ⟨rfl, rfl, rfl, Nat.le_refl _, fun _ _ => rfl⟩ ?_
      simp only [opsOf, List.filterMap_cons, List.filterMap_nil, Option.map_some, List.getElem?_toArray, List.getElem?_cons_zero, List.getElem?_cons_succ]
      generalize hW0 : ({ heap := W.heap, tape := W.tape, drawn := W.drawn + 1, os := W.os, output := W.output } : World) = v0
      have hv0 : Below W.heap.size W v0 := by rw [← hW0]; exact ⟨rfl, rfl, rfl, Nat.le_refl _, fun _ _ => rfl⟩
      clear hW0
      -- 0: Op.fieldAddr
      refine sched_run (v := ?_) (by rfl) ?_ ?_
      rotate_left
      · (intro w' hS'; go_simp; try with_reducible rfl)
      try simp only [Act.put, List.setIfInBounds_toArray, List.set_cons_zero, List.set_cons_succ]
      -- 1: Op.load
      refine sched_run (v := ?_) (by rfl) ?_ ?_
      rotate_left
      · (intro w' hS'; obtain ⟨a0, a1⟩ := HLD.out w' hS'; go_simp; try with_reducible rfl)
      try simp only [Act.put, List.setIfInBounds_toArray, List.set_cons_zero, List.set_cons_succ]
      -- 2: Op.move
      refine sched_run (v := ?_) (by rfl) ?_ ?_
      rotate_left
      · (intro w' hS'; go_simp; try with_reducible rfl)
      try simp only [Act.put, List.setIfInBounds_toArray, List.set_cons_zero, List.set_cons_succ]
      -- 3: Op.move
      refine sched_run (v := ?_) (by rfl) ?_ ?_
      rotate_left
      · (intro w' hS'; go_simp; try with_reducible rfl)
      try simp only [Act.put, List.setIfInBounds_toArray, List.set_cons_zero, List.set_cons_succ]
      -- 4: Op.call
      refine sched_call (by rfl) (fun K hK => ?_)
      go_simp
      refine (specJoinRows_c Aa Ab ca cb ra rb _ fa fb (HRA.out.below' hv0) (HRB.out.below' hv0)).mono ?_
      rintro e v1 ⟨_, rfl, ⟨vq, fq, rfl, hrq, _, _⟩, hbv0⟩
      have hv1 : Below W.heap.size W v1 := hv0.trans (hbv0.mono hv0.size)
      rw [HJC.out]
      clear hrq
      clear hbv0
      refine hK _ _ hv1 ?_
      try simp only [Act.put, List.setIfInBounds_toArray, List.set_cons_zero, List.set_cons_succ]
      -- 5: Op.field
      refine sched_run (v := ?_) (by rfl) ?_ ?_
      rotate_left
      · (intro w' hS'; go_simp; try with_reducible rfl)
      try simp only [Act.put, List.setIfInBounds_toArray, List.set_cons_zero, List.set_cons_succ]
      -- 6: Op.binOp
      refine sched_run (v := ?_) (by rfl) ?_ ?_
      rotate_left
      · (intro w' hS'; go_simp; try with_reducible rfl)
      try simp only [Act.put, List.setIfInBounds_toArray, List.set_cons_zero, List.set_cons_succ]
      -- 7: Op.move
      refine sched_run (v := ?_) (by rfl) ?_ ?_
      rotate_left
      · (intro w' hS'; go_simp; try with_reducible rfl)
      try simp only [Act.put, List.setIfInBounds_toArray, List.set_cons_zero, List.set_cons_succ]
      -- 8: Op.fieldAddr
      refine sched_run (v := ?_) (by rfl) ?_ ?_
      rotate_left
      · (intro w' hS'; go_simp; try with_reducible rfl)
      try simp only [Act.put, List.setIfInBounds_toArray, List.set_cons_zero, List.set_cons_succ]
      -- 9: Op.load
      refine sched_run (v := ?_) (by rfl) ?_ ?_
      rotate_left
      · (intro w' hS'; obtain ⟨a0, a1⟩ := HLD.out w' hS'; go_simp; try with_reducible rfl)
      try simp only [Act.put, List.setIfInBounds_toArray, List.set_cons_zero, List.set_cons_succ]
      -- 10: Op.binOp
      refine sched_run (v := ?_) (by rfl) ?_ ?_
      rotate_left
      · (intro w' hS'; go_simp; try with_reducible rfl)
      try simp only [Act.put, List.setIfInBounds_toArray, List.set_cons_zero, List.set_cons_succ]
      -- 11: Op.move
      refine sched_run (v := ?_) (by rfl) ?_ ?_
      rotate_left
      · (intro w' hS'; go_simp; try with_reducible rfl)
      try simp only [Act.put, List.setIfInBounds_toArray, List.set_cons_zero, List.set_cons_succ]
      -- 12: Op.fieldAddr
      refine sched_run (v := ?_) (by rfl) ?_ ?_
      rotate_left
      · (intro w' hS'; go_simp; try with_reducible rfl)
      try simp only [Act.put, List.setIfInBounds_toArray, List.set_cons_zero, List.set_cons_succ]
      -- 13: Op.load
      refine sched_run (v := ?_) (by rfl) ?_ ?_
      rotate_left
      · (intro w' hS'; obtain ⟨a0, a1⟩ := HLD.out w' hS'; go_simp; try with_reducible rfl)
      try simp only [Act.put, List.setIfInBounds_toArray, List.set_cons_zero, List.set_cons_succ]
      -- 14: Op.call
      refine sched_call (by rfl) (fun K hK => ?_)
      go_simp
      refine (implRowsFault_a Aj cj jl _ fj (by omega) (wfs_of_rowsF HOK.out.new) (HRJ.out.below' hv1)).mono ?_
      rintro e v2 ⟨rfl, hbv1⟩
      have hv2 : Below W.heap.size W v2 := hv1.trans (hbv1.mono hv1.size)
      rw [HOK.out.new]
      clear hbv1
      refine hK _ _ hv2 ?_
      try simp only [Act.put, List.setIfInBounds_toArray, List.set_cons_zero, List.set_cons_succ]
      -- 15: Op.binOp
      refine sched_run (v := ?_) (by rfl) ?_ ?_
      rotate_left
      · (intro w' hS'; go_simp; try with_reducible rfl)
      try simp only [Act.put, List.setIfInBounds_toArray, List.set_cons_zero, List.set_cons_succ]
      -- 16: Op.move
      refine sched_run (v := ?_) (by rfl) ?_ ?_
      rotate_left
      · (intro w' hS'; go_simp; try with_reducible rfl)
      try simp only [Act.put, List.setIfInBounds_toArray, List.set_cons_zero, List.set_cons_succ]
      -- 17: Op.fieldAddr
      refine sched_run (v := ?_) (by rfl) ?_ ?_
      rotate_left
      · (intro w' hS'; go_simp; try with_reducible rfl)
      try simp only [Act.put, List.setIfInBounds_toArray, List.set_cons_zero, List.set_cons_succ]
      -- 18: Op.load
      refine sched_run (v := ?_) (by rfl) ?_ ?_
      rotate_left
      · (intro w' hS'; obtain ⟨a0, a1⟩ := HLD.out w' hS'; go_simp; try with_reducible rfl)
      try simp only [Act.put, List.setIfInBounds_toArray, List.set_cons_zero, List.set_cons_succ]
      -- 19: Op.call
      refine sched_run (v := ?_) (by rfl) ?_ ?_
      rotate_left
      · (intro w' hS'; go_simp; try with_reducible rfl)
      try simp only [Act.put, List.setIfInBounds_toArray, List.set_cons_zero, List.set_cons_succ]
      -- 20: Op.move
      refine sched_run (v := ?_) (by rfl) ?_ ?_
      rotate_left
      · (intro w' hS'; go_simp; try with_reducible rfl)
      try simp only [Act.put, List.setIfInBounds_toArray, List.set_cons_zero, List.set_cons_succ]
      -- 21: Op.call
      refine sched_run (v := ?_) (by rfl) ?_ ?_
      rotate_left
      · (intro w' hS'; go_simp; try with_reducible rfl)
      try simp only [Act.put, List.setIfInBounds_toArray, List.set_cons_zero, List.set_cons_succ]
      -- 22: Op.move
      refine sched_run (v := ?_) (by rfl) ?_ ?_
      rotate_left
      · (intro w' hS'; go_simp; try with_reducible rfl)
      try simp only [Act.put, List.setIfInBounds_toArray, List.set_cons_zero, List.set_cons_succ]
      -- 23: Op.call
      refine sched_run (v := ?_) (by rfl) ?_ ?_
      rotate_left
      · (intro w' hS'; go_simp; try with_reducible rfl)
      try simp only [Act.put, List.setIfInBounds_toArray, List.set_cons_zero, List.set_cons_succ]
      -- 24: Op.binOp
      refine sched_run (v := ?_) (by rfl) ?_ ?_
      rotate_left
      · (intro w' hS'; go_simp; try with_reducible rfl)
      try simp only [Act.put, List.setIfInBounds_toArray, List.set_cons_zero, List.set_cons_succ]
      -- 25: Op.binOp
      refine sched_run (v := ?_) (by rfl) ?_ ?_
      rotate_left
      · (intro w' hS'; go_simp; try with_reducible rfl)
      try simp only [Act.put, List.setIfInBounds_toArray, List.set_cons_zero, List.set_cons_succ]
      -- 26: Op.pick
      refine sched_run (v := ?_) (by rfl) ?_ ?_
      rotate_left
      · (intro w' hS'; go_simp; try with_reducible rfl)
      try simp only [Act.put, List.setIfInBounds_toArray, List.set_cons_zero, List.set_cons_succ]
      -- 27: Op.move
      refine sched_run (v := ?_) (by rfl) ?_ ?_
      rotate_left
      · (intro w' hS'; go_simp; try with_reducible rfl)
      try simp only [Act.put, List.setIfInBounds_toArray, List.set_cons_zero, List.set_cons_succ]
      -- 28: Op.fieldAddr
      refine sched_run (v := ?_) (by rfl) ?_ ?_
      rotate_left
      · (intro w' hS'; go_simp; try with_reducible rfl)
      try simp only [Act.put, List.setIfInBounds_toArray, List.set_cons_zero, List.set_cons_succ]
      -- 29: Op.load
      refine sched_run (v := ?_) (by rfl) ?_ ?_
      rotate_left
      · (intro w' hS'; obtain ⟨a0, a1⟩ := HLD.out w' hS'; go_simp; try with_reducible rfl)
      try simp only [Act.put, List.setIfInBounds_toArray, List.set_cons_zero, List.set_cons_succ]
      -- 30: Op.move
      refine sched_run (v := ?_) (by rfl) ?_ ?_
      rotate_left
      · (intro w' hS'; go_simp; try with_reducible rfl)
      try simp only [Act.put, List.setIfInBounds_toArray, List.set_cons_zero, List.set_cons_succ]
      -- 31: Op.move
      refine sched_run (v := ?_) (by rfl) ?_ ?_
      rotate_left
      · (intro w' hS'; go_simp; try with_reducible rfl)
      try simp only [Act.put, List.setIfInBounds_toArray, List.set_cons_zero, List.set_cons_succ]
      -- 32: Op.call
      refine sched_call (by rfl) (fun K hK => ?_)
      go_simp
      refine (implJoinRows_a Ab Aa cb ca rb ra _ fb fa (by omega) (by omega) (fun q hq => (HMB.out q hq).wf) (fun q hq => (HMA.out q hq).wf) (HRB.out.below' hv2) (HRA.out.below' hv2)).mono ?_
      rintro e v3 ⟨_, rfl, ⟨vr, fr, rfl, hrr, _, _⟩, hbv2⟩
      have hv3 : Below W.heap.size W v3 := hv2.trans (hbv2.mono hv2.size)
      rw [HOK.out.back] at hrr
      obtain ⟨Ar, cr, rfl⟩ := hrr.rows_form
      have HRR := Lib.hid hrr
      clear hrr
      clear hbv2
      refine hK _ _ hv3 ?_
      try simp only [Act.put, List.setIfInBounds_toArray, List.set_cons_zero, List.set_cons_succ]
      -- 33: Op.field
      refine sched_run (v := ?_) (by rfl) ?_ ?_
      rotate_left
      · (intro w' hS'; go_simp; try with_reducible rfl)
      try simp only [Act.put, List.setIfInBounds_toArray, List.set_cons_zero, List.set_cons_succ]
      -- 34: Op.call
      refine sched_call (by rfl) (fun K hK => ?_)
      go_simp
      refine (implSameRows_a Aj Ar cj cr jl jl _ fj fr (by omega) (by omega) (wfs_of_rowsF HOK.out.new) (wfs_of_rowsF HOK.out.new) (HRJ.out.below' hv3) HRR.out).mono ?_
      rintro e v4 ⟨rfl, hbv3⟩
      have hv4 : Below W.heap.size W v4 := hv3.trans (hbv3.mono hv3.size)
      clear hbv3
      refine hK _ _ hv4 ?_
      try simp only [Act.put, List.setIfInBounds_toArray, List.set_cons_zero, List.set_cons_succ]
      -- 35: Op.unOp
      refine sched_run (v := ?_) (by rfl) ?_ ?_
      rotate_left
      · (intro w' hS'; go_simp; try with_reducible rfl)
      try simp only [Act.put, List.setIfInBounds_toArray, List.set_cons_zero, List.set_cons_succ]
      -- 36: Op.pick
      refine sched_run (v := ?_) (by rfl) ?_ ?_
      rotate_left
      · (intro w' hS'; go_simp; try with_reducible rfl)
      try simp only [Act.put, List.setIfInBounds_toArray, List.set_cons_zero, List.set_cons_succ]
      -- 37: Op.pick
      refine sched_run (v := ?_) (by rfl) ?_ ?_
      rotate_left
      · (intro w' hS'; go_simp; try with_reducible rfl)
      try simp only [Act.put, List.setIfInBounds_toArray, List.set_cons_zero, List.set_cons_succ]
      -- 38: Op.pick
      refine sched_run (v := ?_) (by rfl) ?_ ?_
      rotate_left
      · (intro w' hS'; go_simp; try with_reducible rfl)
      try simp only [Act.put, List.setIfInBounds_toArray, List.set_cons_zero, List.set_cons_succ]
      refine sched_done ?_
      have HVB := Lib.hid hv4
      have hg9 := (HVB.out.block _ (heap_lt G9.out)).trans G9.out
      have hrx := HRX.out.below' HVB.out; have hrc := HRC.out.below' HVB.out
      have hbW := HBW.out.trans (HVB.out.mono HBW.out.size)
      obtain ⟨c90, c91, _, _, z9⟩ := two_at hg9
      have K9 := Lib.hid hg9; have KRX := Lib.hid hrx; have KRC := Lib.hid hrc; have KBW := Lib.hid hbW
      clear hg9 hrx hrc hbW HLD G5 G9 HRA HRB HRJ HRX HRC HBW HVB
      clear hv0
      clear hv1
      clear hv2
      clear hv3
      clear hv4
      generalize v4 = V at *
      by_cases hc0 : cc = 0
      · have hcb : (cc != 0) = false := by simp [hc0]
        obtain ⟨o, hok⟩ := cut_ok (HCC.out.trans hc0) HCL.out
        have HCK := Lib.hid hok; have HC0 := Lib.hid hc0
        have hlx2 := hok.lx; have hlc := hok.lc; have hlo := hok.lo; have hl1 := hok.l1; have hl2 := hok.l2
        clear hok hc0
        go_wp2_with fail
        refine (implCutRows_a Ax cx xs 0 f _ fx (by omega) (fun q hq => (HMX.out q hq).wf) rfl HWF.out KRX.out).mono ?_
        rintro e w5 ⟨_, rfl, ⟨v1, f1, rfl, hr1, _, _⟩, hb5⟩
        rw [HCK.out.c1] at hr1
        obtain ⟨A1, c1, rfl⟩ := hr1.rows_form
        have HR1 := Lib.hid hr1; have B5 := Lib.hid hb5
        clear hr1 hb5
        go_wp2_with fail
        refine (implCutRows_a Ax cx xs t 100 _ fx (by omega) (fun q hq => (HMX.out q hq).wf) HWT.out rfl (KRX.out.below' B5.out)).mono ?_
        rintro e w6 ⟨_, rfl, ⟨v2, f2, rfl, hr2, _, _⟩, hb6⟩
        rw [HCK.out.c2] at hr2
        obtain ⟨A2, c2, rfl⟩ := hr2.rows_form
        have HR2 := Lib.hid hr2; have B6 := Lib.hid hb6
        clear hr2 hb6
        go_wp2_with fail
        refine (implJoinRows_a A1 A2 c1 c2 (cutR xs 0 f) (cutR xs t 100) _ f1 f2 (by omega) (by omega) (wfs_of_rowsF HCK.out.r1) (wfs_of_rowsF HCK.out.r2) (HR1.out.below' B6.out) HR2.out).mono ?_
        rintro e w7 ⟨_, rfl, ⟨v3, f3, rfl, hr3, _, _⟩, hb7⟩
        rw [HCK.out.jl] at hr3
        rw [HCK.out.jc]
        obtain ⟨A3, c3, rfl⟩ := hr3.rows_form
        have HR3 := Lib.hid hr3; have B7 := Lib.hid hb7
        clear hr3 hb7
        go_wp2_with fail
        have k7 : Below w7.heap.size w7 (w7.alloc (.cells #[.int .i64 0, .slice A3 o.length c3] 30)) := below_new _
        have k6 : Below w6.heap.size w6 (w7.alloc (.cells #[.int .i64 0, .slice A3 o.length c3] 30)) := B7.out.trans (k7.mono B7.out.size)
        have k5 : Below w5.heap.size w5 (w7.alloc (.cells #[.int .i64 0, .slice A3 o.length c3] 30)) := B6.out.trans (k6.mono B6.out.size)
        have kV : Below V.heap.size V (w7.alloc (.cells #[.int .i64 0, .slice A3 o.length c3] 30)) := B5.out.trans (k5.mono B5.out.size)
        have hg10 : (w7.alloc (.cells #[.int .i64 0, .slice A3 o.length c3] 30)).heap[w7.heap.size]? = some (.cells #[.int .i64 0, .slice A3 o.length c3] 30 (0, 0)) := heap_new w7 _ rfl
        have hg9 := (kV.block _ (heap_lt K9.out)).trans K9.out
        have hr3 := HR3.out.below' k7; have hrx := KRX.out.below' kV; have hrc := KRC.out.below' kV
        have hbX := KBW.out.trans (kV.mono KBW.out.size)
        clear k5 k6 k7 kV B5 B6 B7 HR1 HR2 HR3 KRX KRC KBW K9 c90 c91 z9
        generalize w7.heap.size = g10 at *
        generalize w7.alloc (.cells #[.int .i64 0, .slice A3 o.length c3] 30) = X at *
        have G9 := Lib.hid hg9; have G10 := Lib.hid hg10; have XR3 := Lib.hid hr3; have XRX := Lib.hid hrx; have XRC := Lib.hid hrc; have XBW := Lib.hid hbX
        clear hg9 hg10 hr3 hrx hrc hbX
        have hld : ∀ w', Below X.heap.size X w' → w'.cell? ⟨g10, 0, none⟩ = some (.int .i64 0) ∧ w'.cell? ⟨g10, 1, none⟩ = some (.slice A3 o.length c3) ∧ w'.cell? ⟨g9, 1, none⟩ = some (.slice Ac cl.length ccp) := fun w' h => ⟨(two_kept h G10.out).1, (two_kept h G10.out).2, (two_kept h G9.out).2⟩
        have HLD := Lib.hid hld; clear hld
        refine wp_region_sched (fun w' => Below X.heap.size X w') [(0, true), (1, true), (2, true), (3, true), (4, true), (5, true), (6, true), (7, true), (10, true), (8, false), (9, true), (11, false), (12, true), (13, true), (14, true), (15, true), (16, true), (17, true), (18, true), (19, false), (20, true), (21, false), (22, true), (23, true)] (by kernel_rfl) (by kernel_rfl) (by kernel_rfl) (by kernel_rfl) (fun _ _ d _ _ h => by cases d <;> exact h) ⟨rfl, rfl, rfl, Nat.le_refl _, fun _ _ => rfl⟩ ?_
        simp only [opsOf, List.filterMap_cons, List.filterMap_nil, Option.map_some, List.getElem?_toArray, List.getElem?_cons_zero, List.getElem?_cons_succ]
        generalize hW0 : ({ heap := X.heap, tape := X.tape, drawn := X.drawn + 1, os := X.os, output := X.output } : World) = u0
        have hu0 : Below X.heap.size X u0 := by rw [← hW0]; exact ⟨rfl, rfl, rfl, Nat.le_refl _, fun _ _ => rfl⟩
        clear hW0
        -- 0: Op.fieldAddr
        refine sched_run (v := ?_) (by rfl) ?_ ?_
        rotate_left
        · (intro w' hS'; go_simp; try with_reducible rfl)
        try simp only [Act.put, List.setIfInBounds_toArray, List.set_cons_zero, List.set_cons_succ]
        -- 1: Op.load
        refine sched_run (v := ?_) (by rfl) ?_ ?_
        rotate_left
        · (intro w' hS'; obtain ⟨a0, a1, b1⟩ := HLD.out w' hS'; go_simp; try with_reducible rfl)
        try simp only [Act.put, List.setIfInBounds_toArray, List.set_cons_zero, List.set_cons_succ]
        -- 2: Op.binOp
        refine sched_run (v := ?_) (by rfl) ?_ ?_
        rotate_left
        · (intro w' hS'; go_simp; try with_reducible rfl)
        try simp only [Act.put, List.setIfInBounds_toArray, List.set_cons_zero, List.set_cons_succ]
        -- 3: Op.move
        refine sched_run (v := ?_) (by rfl) ?_ ?_
        rotate_left
        · (intro w' hS'; go_simp; try with_reducible rfl)
        try simp only [Act.put, List.setIfInBounds_toArray, List.set_cons_zero, List.set_cons_succ]
        -- 4: Op.fieldAddr
        refine sched_run (v := ?_) (by rfl) ?_ ?_
        rotate_left
        · (intro w' hS'; go_simp; try with_reducible rfl)
        try simp only [Act.put, List.setIfInBounds_toArray, List.set_cons_zero, List.set_cons_succ]
        -- 5: Op.load
        refine sched_run (v := ?_) (by rfl) ?_ ?_
        rotate_left
        · (intro w' hS'; obtain ⟨a0, a1, b1⟩ := HLD.out w' hS'; go_simp; try with_reducible rfl)
        try simp only [Act.put, List.setIfInBounds_toArray, List.set_cons_zero, List.set_cons_succ]
        -- 6: Op.fieldAddr
        refine sched_run (v := ?_) (by rfl) ?_ ?_
        rotate_left
        · (intro w' hS'; go_simp; try with_reducible rfl)
        try simp only [Act.put, List.setIfInBounds_toArray, List.set_cons_zero, List.set_cons_succ]
        -- 7: Op.load
        refine sched_run (v := ?_) (by rfl) ?_ ?_
        rotate_left
        · (intro w' hS'; obtain ⟨a0, a1, b1⟩ := HLD.out w' hS'; go_simp; try with_reducible rfl)
        try simp only [Act.put, List.setIfInBounds_toArray, List.set_cons_zero, List.set_cons_succ]
        -- 10: Op.move
        refine sched_run (v := ?_) (by rfl) ?_ ?_
        rotate_left
        · (intro w' hS'; go_simp; try with_reducible rfl)
        try simp only [Act.put, List.setIfInBounds_toArray, List.set_cons_zero, List.set_cons_succ]
        -- 8: Op.call
        refine sched_call (by rfl) (fun K hK => ?_)
        go_simp
        refine (implJoinRows_a A3 Ac c3 ccp o cl _ f3 fc (by omega) (by omega) (wfs_of_rowsF HCK.out.ro) (wfs_of_rowsF HCK.out.new) (XR3.out.below' hu0) (XRC.out.below' hu0)).mono ?_
        rintro e u1 ⟨_, rfl, ⟨v4, f4, rfl, hr4, _, _⟩, hbu0⟩
        have hu1 : Below X.heap.size X u1 := hu0.trans (hbu0.mono hu0.size)
        rw [HCK.out.all] at hr4
        obtain ⟨A4, c4, rfl⟩ := hr4.rows_form
        have HR4 := Lib.hid hr4
        clear hr4
        clear hbu0
        refine hK _ _ hu1 ?_
        try simp only [Act.put, List.setIfInBounds_toArray, List.set_cons_zero, List.set_cons_succ]
        -- 9: Op.field
        refine sched_run (v := ?_) (by rfl) ?_ ?_
        rotate_left
        · (intro w' hS'; go_simp; try with_reducible rfl)
        try simp only [Act.put, List.setIfInBounds_toArray, List.set_cons_zero, List.set_cons_succ]
        -- 11: Op.call
        refine sched_call (by rfl) (fun K hK => ?_)
        go_simp
        refine (implSameRows_a A4 Ax c4 cx xs xs _ f4 fx (by omega) (by omega) (wfs_of_rowsF HCK.out.rows) (wfs_of_rowsF HCK.out.rows) HR4.out (XRX.out.below' hu1)).mono ?_
        rintro e u2 ⟨rfl, hbu1⟩
        have hu2 : Below X.heap.size X u2 := hu1.trans (hbu1.mono hu1.size)
        clear hbu1
        refine hK _ _ hu2 ?_
        try simp only [Act.put, List.setIfInBounds_toArray, List.set_cons_zero, List.set_cons_succ]
        -- 12: Op.pick
        refine sched_run (v := ?_) (by rfl) ?_ ?_
        rotate_left
        · (intro w' hS'; go_simp; try with_reducible rfl)
        try simp only [Act.put, List.setIfInBounds_toArray, List.set_cons_zero, List.set_cons_succ]
        -- 13: Op.move
        refine sched_run (v := ?_) (by rfl) ?_ ?_
        rotate_left
        · (intro w' hS'; go_simp; try with_reducible rfl)
        try simp only [Act.put, List.setIfInBounds_toArray, List.set_cons_zero, List.set_cons_succ]
        -- 14: Op.fieldAddr
        refine sched_run (v := ?_) (by rfl) ?_ ?_
        rotate_left
        · (intro w' hS'; go_simp; try with_reducible rfl)
        try simp only [Act.put, List.setIfInBounds_toArray, List.set_cons_zero, List.set_cons_succ]
        -- 15: Op.load
        refine sched_run (v := ?_) (by rfl) ?_ ?_
        rotate_left
        · (intro w' hS'; obtain ⟨a0, a1, b1⟩ := HLD.out w' hS'; go_simp; try with_reducible rfl)
        try simp only [Act.put, List.setIfInBounds_toArray, List.set_cons_zero, List.set_cons_succ]
        -- 16: Op.move
        refine sched_run (v := ?_) (by rfl) ?_ ?_
        rotate_left
        · (intro w' hS'; go_simp; try with_reducible rfl)
        try simp only [Act.put, List.setIfInBounds_toArray, List.set_cons_zero, List.set_cons_succ]
        -- 17: Op.move
        refine sched_run (v := ?_) (by rfl) ?_ ?_
        rotate_left
        · (intro w' hS'; go_simp; try with_reducible rfl)
        try simp only [Act.put, List.setIfInBounds_toArray, List.set_cons_zero, List.set_cons_succ]
        -- 18: Op.move
        refine sched_run (v := ?_) (by rfl) ?_ ?_
        rotate_left
        · (intro w' hS'; go_simp; try with_reducible rfl)
        try simp only [Act.put, List.setIfInBounds_toArray, List.set_cons_zero, List.set_cons_succ]
        -- 19: Op.call
        refine sched_call (by rfl) (fun K hK => ?_)
        go_simp
        refine (specCutRows_c Ax cx xs f t _ fx (XRX.out.below' hu2)).mono ?_
        rintro e u3 ⟨_, rfl, ⟨v5, f5, rfl, hr5, _, _⟩, hbu2⟩
        have hu3 : Below X.heap.size X u3 := hu2.trans (hbu2.mono hu2.size)
        rw [HCL.out] at hr5
        obtain ⟨A5, c5, rfl⟩ := hr5.rows_form
        have HR5 := Lib.hid hr5
        clear hr5
        clear hbu2
        refine hK _ _ hu3 ?_
        try simp only [Act.put, List.setIfInBounds_toArray, List.set_cons_zero, List.set_cons_succ]
        -- 20: Op.field
        refine sched_run (v := ?_) (by rfl) ?_ ?_
        rotate_left
        · (intro w' hS'; go_simp; try with_reducible rfl)
        try simp only [Act.put, List.setIfInBounds_toArray, List.set_cons_zero, List.set_cons_succ]
        -- 21: Op.call
        refine sched_call (by rfl) (fun K hK => ?_)
        go_simp
        refine (implSameRows_a Ac A5 ccp c5 cl cl _ fc f5 (by omega) (by omega) (wfs_of_rowsF HCK.out.new) (wfs_of_rowsF HCK.out.new) (XRC.out.below' hu3) HR5.out).mono ?_
        rintro e u4 ⟨rfl, hbu3⟩
        have hu4 : Below X.heap.size X u4 := hu3.trans (hbu3.mono hu3.size)
        clear hbu3
        refine hK _ _ hu4 ?_
        try simp only [Act.put, List.setIfInBounds_toArray, List.set_cons_zero, List.set_cons_succ]
        -- 22: Op.pick
        refine sched_run (v := ?_) (by rfl) ?_ ?_
        rotate_left
        · (intro w' hS'; go_simp; try with_reducible rfl)
        try simp only [Act.put, List.setIfInBounds_toArray, List.set_cons_zero, List.set_cons_succ]
        -- 23: Op.assign
        refine sched_run (v := ?_) (by rfl) ?_ ?_
        rotate_left
        · (intro w' hS'; go_simp; try with_reducible rfl)
        try simp only [Act.put, List.setIfInBounds_toArray, List.set_cons_zero, List.set_cons_succ]
        refine sched_done ?_
        go_wp2_with fail
        go_ret
        exact ⟨by simp, XBW.out.trans (hu4.mono XBW.out.size)⟩
      · have hcb : (cc != 0) = true := by simpa using hc0
        clear hc0
        go_wp2_with fail
        have hld : ∀ w', Below V.heap.size V w' → w'.cell? ⟨g9, 0, none⟩ = some (.int .i64 cc) ∧ True := fun w' h => ⟨(two_kept h K9.out).1, trivial⟩
        have HLD := Lib.hid hld; clear hld
        refine wp_region_sched (fun w' => Below V.heap.size V w') [(0, true), (1, true), (2, true), (5, true), (6, true), (3, false), (4, true), (7, true), (8, true)] (by kernel_rfl) (by kernel_rfl) (by kernel_rfl) (by kernel_rfl) (fun _ _ d _ _ h => by cases d <;> exact h) ⟨rfl, rfl, rfl, Nat.le_refl _, fun _ _ => rfl⟩ ?_
        simp only [opsOf, List.filterMap_cons, List.filterMap_nil, Option.map_some, List.getElem?_toArray, List.getElem?_cons_zero, List.getElem?_cons_succ]
        generalize hW0 : ({ heap := V.heap, tape := V.tape, drawn := V.drawn + 1, os := V.os, output := V.output } : World) = u0
        have hu0 : Below V.heap.size V u0 := by rw [← hW0]; exact ⟨rfl, rfl, rfl, Nat.le_refl _, fun _ _ => rfl⟩
        clear hW0
        -- 0: Op.move
        refine sched_run (v := ?_) (by rfl) ?_ ?_
        rotate_left
        · (intro w' hS'; go_simp; try with_reducible rfl)
        try simp only [Act.put, List.setIfInBounds_toArray, List.set_cons_zero, List.set_cons_succ]
        -- 1: Op.move
        refine sched_run (v := ?_) (by rfl) ?_ ?_
        rotate_left
        · (intro w' hS'; go_simp; try with_reducible rfl)
        try simp only [Act.put, List.setIfInBounds_toArray, List.set_cons_zero, List.set_cons_succ]
        -- 2: Op.move
        refine sched_run (v := ?_) (by rfl) ?_ ?_
        rotate_left
        · (intro w' hS'; go_simp; try with_reducible rfl)
        try simp only [Act.put, List.setIfInBounds_toArray, List.set_cons_zero, List.set_cons_succ]
        -- 5: Op.fieldAddr
        refine sched_run (v := ?_) (by rfl) ?_ ?_
        rotate_left
        · (intro w' hS'; go_simp; try with_reducible rfl)
        try simp only [Act.put, List.setIfInBounds_toArray, List.set_cons_zero, List.set_cons_succ]
        -- 6: Op.load
        refine sched_run (v := ?_) (by rfl) ?_ ?_
        rotate_left
        · (intro w' hS'; obtain ⟨a0, _⟩ := HLD.out w' hS'; go_simp; try with_reducible rfl)
        try simp only [Act.put, List.setIfInBounds_toArray, List.set_cons_zero, List.set_cons_succ]
        -- 3: Op.call
        refine sched_call (by rfl) (fun K hK => ?_)
        go_simp
        refine (specCutRows_c Ax cx xs f t _ fx (KRX.out.below' hu0)).mono ?_
        rintro e u1 ⟨_, rfl, ⟨v5, f5, rfl, hr5, _, _⟩, hbu0⟩
        have hu1 : Below V.heap.size V u1 := hu0.trans (hbu0.mono hu0.size)
        rw [HCC.out]
        clear hr5
        clear hbu0
        refine hK _ _ hu1 ?_
        try simp only [Act.put, List.setIfInBounds_toArray, List.set_cons_zero, List.set_cons_succ]
        -- 4: Op.field
        refine sched_run (v := ?_) (by rfl) ?_ ?_
        rotate_left
        · (intro w' hS'; go_simp; try with_reducible rfl)
        try simp only [Act.put, List.setIfInBounds_toArray, List.set_cons_zero, List.set_cons_succ]
        -- 7: Op.binOp
        refine sched_run (v := ?_) (by rfl) ?_ ?_
        rotate_left
        · (intro w' hS'; go_simp; try with_reducible rfl)
        try simp only [Act.put, List.setIfInBounds_toArray, List.set_cons_zero, List.set_cons_succ]
        -- 8: Op.assign
        refine sched_run (v := ?_) (by rfl) ?_ ?_
        rotate_left
        · (intro w' hS'; go_simp; try with_reducible rfl)
        try simp only [Act.put, List.setIfInBounds_toArray, List.set_cons_zero, List.set_cons_succ]
        refine sched_done ?_
        go_wp2_with fail
        go_ret
        exact ⟨by simp, KBW.out.trans (hu1.mono KBW.out.size)⟩
    · have hjb : (jc == 0) = false := by simpa using hj0
      clear hj0
      have hld : ∀ w', Below W.heap.size W w' → w'.cell? ⟨g5, 0, none⟩ = some (.int .i64 jc) ∧ w'.cell? ⟨g5, 1, none⟩ = some (.slice Aj jl.length cj) := fun w' h => two_kept h G5.out
      have HLD := Lib.hid hld; clear hld
      refine wp_region_sched (fun w' => Below W.heap.size W w') [(0, true), (1, true), (2, true), (3, true), (4, false), (5, true), (6, true), (7, true), (8, true), (9, true), (10, true), (11, true), (12, true), (13, true), (14, false), (15, true), (16, true), (17, true), (18, true), (19, true), (20, true), (21, true), (22, true), (23, true), (24, true), (25, true), (26, true), (27, true), (28, true), (29, true), (30, true), (31, true), (32, false), (33, true), (34, false), (35, true), (36, true), (37, true), (38, true)] (by kernel_rfl) (by kernel_rfl) (by kernel_rfl) (by kernel_rfl) (fun _ _ d _ _ h => by cases d <;> exact h) ⟨rfl, rfl, rfl, Nat.le_refl _, fun _ _ => rfl⟩ ?_
      simp only [opsOf, List.filterMap_cons, List.filterMap_nil, Option.map_some, List.getElem?_toArray, List.getElem?_cons_zero, List.getElem?_cons_succ]
      generalize hW0 : ({ heap := W.heap, tape := W.tape, drawn := W.drawn + 1, os := W.os, output := W.output } : World) = v0
      have hv0 : Below W.heap.size W v0 := by rw [← hW0]; exact ⟨rfl, rfl, rfl, Nat.le_refl _, fun _ _ => rfl⟩
      clear hW0
      -- 0: Op.fieldAddr
      refine sched_run (v := ?_) (by rfl) ?_ ?_
      rotate_left
      · (intro w' hS'; go_simp; try with_reducible rfl)
      try simp only [Act.put, List.setIfInBounds_toArray, List.set_cons_zero, List.set_cons_succ]
      -- 1: Op.load
      refine sched_run (v := ?_) (by rfl) ?_ ?_
      rotate_left
      · (intro w' hS'; obtain ⟨a0, a1⟩ := HLD.out w' hS'; go_simp; try with_reducible rfl)
      try simp only [Act.put, List.setIfInBounds_toArray, List.set_cons_zero, List.set_cons_succ]
      -- 2: Op.move
      refine sched_run (v := ?_) (by rfl) ?_ ?_
      rotate_left
      · (intro w' hS'; go_simp; try with_reducible rfl)
      try simp only [Act.put, List.setIfInBounds_toArray, List.set_cons_zero, List.set_cons_succ]
      -- 3: Op.move
      refine sched_run (v := ?_) (by rfl) ?_ ?_
      rotate_left
      · (intro w' hS'; go_simp; try with_reducible rfl)
      try simp only [Act.put, List.setIfInBounds_toArray, List.set_cons_zero, List.set_cons_succ]
      -- 4: Op.call
      refine sched_call (by rfl) (fun K hK => ?_)
      go_simp
      refine (specJoinRows_c Aa Ab ca cb ra rb _ fa fb (HRA.out.below' hv0) (HRB.out.below' hv0)).mono ?_
      rintro e v1 ⟨_, rfl, ⟨vq, fq, rfl, hrq, _, _⟩, hbv0⟩
      have hv1 : Below W.heap.size W v1 := hv0.trans (hbv0.mono hv0.size)
      rw [HJC.out]
      clear hrq
      clear hbv0
      refine hK _ _ hv1 ?_
      try simp only [Act.put, List.setIfInBounds_toArray, List.set_cons_zero, List.set_cons_succ]
      -- 5: Op.field
      refine sched_run (v := ?_) (by rfl) ?_ ?_
      rotate_left
      · (intro w' hS'; go_simp; try with_reducible rfl)
      try simp only [Act.put, List.setIfInBounds_toArray, List.set_cons_zero, List.set_cons_succ]
      -- 6: Op.binOp
      refine sched_run (v := ?_) (by rfl) ?_ ?_
      rotate_left
      · (intro w' hS'; go_simp; try with_reducible rfl)
      try simp only [Act.put, List.setIfInBounds_toArray, List.set_cons_zero, List.set_cons_succ]
      -- 7: Op.move
      refine sched_run (v := ?_) (by rfl) ?_ ?_
      rotate_left
      · (intro w' hS'; go_simp; try with_reducible rfl)
      try simp only [Act.put, List.setIfInBounds_toArray, List.set_cons_zero, List.set_cons_succ]
      -- 8: Op.fieldAddr
      refine sched_run (v := ?_) (by rfl) ?_ ?_
      rotate_left
      · (intro w' hS'; go_simp; try with_reducible rfl)
      try simp only [Act.put, List.setIfInBounds_toArray, List.set_cons_zero, List.set_cons_succ]
      -- 9: Op.load
      refine sched_run (v := ?_) (by rfl) ?_ ?_
      rotate_left
      · (intro w' hS'; obtain ⟨a0, a1⟩ := HLD.out w' hS'; go_simp; try with_reducible rfl)
      try simp only [Act.put, List.setIfInBounds_toArray, List.set_cons_zero, List.set_cons_succ]
      -- 10: Op.binOp
      refine sched_run (v := ?_) (by rfl) ?_ ?_
      rotate_left
      · (intro w' hS'; go_simp; try with_reducible rfl)
      try simp only [Act.put, List.setIfInBounds_toArray, List.set_cons_zero, List.set_cons_succ]
      -- 11: Op.move
      refine sched_run (v := ?_) (by rfl) ?_ ?_
      rotate_left
      · (intro w' hS'; go_simp; try with_reducible rfl)
      try simp only [Act.put, List.setIfInBounds_toArray, List.set_cons_zero, List.set_cons_succ]
      -- 12: Op.fieldAddr
      refine sched_skip (by rfl) ?_
      try simp only [Act.put, List.setIfInBounds_toArray, List.set_cons_zero, List.set_cons_succ]
      -- 13: Op.load
      refine sched_skip (by rfl) ?_
      try simp only [Act.put, List.setIfInBounds_toArray, List.set_cons_zero, List.set_cons_succ]
      -- 14: Op.call
      refine sched_skip' (by rfl) ?_
      try simp only [Act.put, List.setIfInBounds_toArray, List.set_cons_zero, List.set_cons_succ]
      -- 15: Op.binOp
      refine sched_skip (by rfl) ?_
      try simp only [Act.put, List.setIfInBounds_toArray, List.set_cons_zero, List.set_cons_succ]
      -- 16: Op.move
      refine sched_skip (by rfl) ?_
      try simp only [Act.put, List.setIfInBounds_toArray, List.set_cons_zero, List.set_cons_succ]
      -- 17: Op.fieldAddr
      refine sched_skip (by rfl) ?_
      try simp only [Act.put, List.setIfInBounds_toArray, List.set_cons_zero, List.set_cons_succ]
      -- 18: Op.load
      refine sched_skip (by rfl) ?_
      try simp only [Act.put, List.setIfInBounds_toArray, List.set_cons_zero, List.set_cons_succ]
      -- 19: Op.call
      refine sched_skip (by rfl) ?_
      try simp only [Act.put, List.setIfInBounds_toArray, List.set_cons_zero, List.set_cons_succ]
      -- 20: Op.move
      refine sched_skip (by rfl) ?_
      try simp only [Act.put, List.setIfInBounds_toArray, List.set_cons_zero, List.set_cons_succ]
      -- 21: Op.call
      refine sched_skip (by rfl) ?_
      try simp only [Act.put, List.setIfInBounds_toArray, List.set_cons_zero, List.set_cons_succ]
      -- 22: Op.move
      refine sched_skip (by rfl) ?_
      try simp only [Act.put, List.setIfInBounds_toArray, List.set_cons_zero, List.set_cons_succ]
      -- 23: Op.call
      refine sched_skip (by rfl) ?_
      try simp only [Act.put, List.setIfInBounds_toArray, List.set_cons_zero, List.set_cons_succ]
      -- 24: Op.binOp
      refine sched_skip (by rfl) ?_
      try simp only [Act.put, List.setIfInBounds_toArray, List.set_cons_zero, List.set_cons_succ]
      -- 25: Op.binOp
      refine sched_skip (by rfl) ?_
      try simp only [Act.put, List.setIfInBounds_toArray, List.set_cons_zero, List.set_cons_succ]
      -- 26: Op.pick
      refine sched_skip (by rfl) ?_
      try simp only [Act.put, List.setIfInBounds_toArray, List.set_cons_zero, List.set_cons_succ]
      -- 27: Op.move
      refine sched_skip (by rfl) ?_
      try simp only [Act.put, List.setIfInBounds_toArray, List.set_cons_zero, List.set_cons_succ]
      -- 28: Op.fieldAddr
      refine sched_skip (by rfl) ?_
      try simp only [Act.put, List.setIfInBounds_toArray, List.set_cons_zero, List.set_cons_succ]
      -- 29: Op.load
      refine sched_skip (by rfl) ?_
      try simp only [Act.put, List.setIfInBounds_toArray, List.set_cons_zero, List.set_cons_succ]
      -- 30: Op.move
      refine sched_skip (by rfl) ?_
      try simp only [Act.put, List.setIfInBounds_toArray, List.set_cons_zero, List.set_cons_succ]
      -- 31: Op.move
      refine sched_skip (by rfl) ?_
      try simp only [Act.put, List.setIfInBounds_toArray, List.set_cons_zero, List.set_cons_succ]
      -- 32: Op.call
      refine sched_skip' (by rfl) ?_
      try simp only [Act.put, List.setIfInBounds_toArray, List.set_cons_zero, List.set_cons_succ]
      -- 33: Op.field
      refine sched_skip (by rfl) ?_
      try simp only [Act.put, List.setIfInBounds_toArray, List.set_cons_zero, List.set_cons_succ]
      -- 34: Op.call
      refine sched_skip' (by rfl) ?_
      try simp only [Act.put, List.setIfInBounds_toArray, List.set_cons_zero, List.set_cons_succ]
      -- 35: Op.unOp
      refine sched_skip (by rfl) ?_
      try simp only [Act.put, List.setIfInBounds_toArray, List.set_cons_zero, List.set_cons_succ]
      -- 36: Op.pick
      refine sched_skip (by rfl) ?_
      try simp only [Act.put, List.setIfInBounds_toArray, List.set_cons_zero, List.set_cons_succ]
      -- 37: Op.pick
      refine sched_run (v := ?_) (by rfl) ?_ ?_
      rotate_left
      · (intro w' hS'; go_simp; try with_reducible rfl)
      try simp only [Act.put, List.setIfInBounds_toArray, List.set_cons_zero, List.set_cons_succ]
      -- 38: Op.pick
      refine sched_run (v := ?_) (by rfl) ?_ ?_
      rotate_left
      · (intro w' hS'; go_simp; try with_reducible rfl)
      try simp only [Act.put, List.setIfInBounds_toArray, List.set_cons_zero, List.set_cons_succ]
      refine sched_done ?_
      have HVB := Lib.hid hv1
      have hg9 := (HVB.out.block _ (heap_lt G9.out)).trans G9.out
      have hrx := HRX.out.below' HVB.out; have hrc := HRC.out.below' HVB.out
      have hbW := HBW.out.trans (HVB.out.mono HBW.out.size)
      obtain ⟨c90, c91, _, _, z9⟩ := two_at hg9
      have K9 := Lib.hid hg9; have KRX := Lib.hid hrx; have KRC := Lib.hid hrc; have KBW := Lib.hid hbW
      clear hg9 hrx hrc hbW HLD G5 G9 HRA HRB HRJ HRX HRC HBW HVB
      clear hv0
      clear hv1
      generalize v1 = V at *
      by_cases hc0 : cc = 0
      · have hcb : (cc != 0) = false := by simp [hc0]
        obtain ⟨o, hok⟩ := cut_ok (HCC.out.trans hc0) HCL.out
        have HCK := Lib.hid hok; have HC0 := Lib.hid hc0
        have hlx2 := hok.lx; have hlc := hok.lc; have hlo := hok.lo; have hl1 := hok.l1; have hl2 := hok.l2
        clear hok hc0
        go_wp2_with fail
        refine (implCutRows_a Ax cx xs 0 f _ fx (by omega) (fun q hq => (HMX.out q hq).wf) rfl HWF.out KRX.out).mono ?_
        rintro e w5 ⟨_, rfl, ⟨v1, f1, rfl, hr1, _, _⟩, hb5⟩
        rw [HCK.out.c1] at hr1
        obtain ⟨A1, c1, rfl⟩ := hr1.rows_form
        have HR1 := Lib.hid hr1; have B5 := Lib.hid hb5
        clear hr1 hb5
        go_wp2_with fail
        refine (implCutRows_a Ax cx xs t 100 _ fx (by omega) (fun q hq => (HMX.out q hq).wf) HWT.out rfl (KRX.out.below' B5.out)).mono ?_
        rintro e w6 ⟨_, rfl, ⟨v2, f2, rfl, hr2, _, _⟩, hb6⟩
        rw [HCK.out.c2] at hr2
        obtain ⟨A2, c2, rfl⟩ := hr2.rows_form
        have HR2 := Lib.hid hr2; have B6 := Lib.hid hb6
        clear hr2 hb6
        go_wp2_with fail
        refine (implJoinRows_a A1 A2 c1 c2 (cutR xs 0 f) (cutR xs t 100) _ f1 f2 (by omega) (by omega) (wfs_of_rowsF HCK.out.r1) (wfs_of_rowsF HCK.out.r2) (HR1.out.below' B6.out) HR2.out).mono ?_
        rintro e w7 ⟨_, rfl, ⟨v3, f3, rfl, hr3, _, _⟩, hb7⟩
        rw [HCK.out.jl] at hr3
        rw [HCK.out.jc]
        obtain ⟨A3, c3, rfl⟩ := hr3.rows_form
        have HR3 := Lib.hid hr3; have B7 := Lib.hid hb7
        clear hr3 hb7
        go_wp2_with fail
        have k7 : Below w7.heap.size w7 (w7.alloc (.cells #[.int .i64 0, .slice A3 o.length c3] 30)) := below_new _
        have k6 : Below w6.heap.size w6 (w7.alloc (.cells #[.int .i64 0, .slice A3 o.length c3] 30)) := B7.out.trans (k7.mono B7.out.size)
        have k5 : Below w5.heap.size w5 (w7.alloc (.cells #[.int .i64 0, .slice A3 o.length c3] 30)) := B6.out.trans (k6.mono B6.out.size)
        have kV : Below V.heap.size V (w7.alloc (.cells #[.int .i64 0, .slice A3 o.length c3] 30)) := B5.out.trans (k5.mono B5.out.size)
        have hg10 : (w7.alloc (.cells #[.int .i64 0, .slice A3 o.length c3] 30)).heap[w7.heap.size]? = some (.cells #[.int .i64 0, .slice A3 o.length c3] 30 (0, 0)) := heap_new w7 _ rfl
        have hg9 := (kV.block _ (heap_lt K9.out)).trans K9.out
        have hr3 := HR3.out.below' k7; have hrx := KRX.out.below' kV; have hrc := KRC.out.below' kV
        have hbX := KBW.out.trans (kV.mono KBW.out.size)
        clear k5 k6 k7 kV B5 B6 B7 HR1 HR2 HR3 KRX KRC KBW K9 c90 c91 z9
        generalize w7.heap.size = g10 at *
        generalize w7.alloc (.cells #[.int .i64 0, .slice A3 o.length c3] 30) = X at *
        have G9 := Lib.hid hg9; have G10 := Lib.hid hg10; have XR3 := Lib.hid hr3; have XRX := Lib.hid hrx; have XRC := Lib.hid hrc; have XBW := Lib.hid hbX
        clear hg9 hg10 hr3 hrx hrc hbX
        have hld : ∀ w', Below X.heap.size X w' → w'.cell? ⟨g10, 0, none⟩ = some (.int .i64 0) ∧ w'.cell? ⟨g10, 1, none⟩ = some (.slice A3 o.length c3) ∧ w'.cell? ⟨g9, 1, none⟩ = some (.slice Ac cl.length ccp) := fun w' h => ⟨(two_kept h G10.out).1, (two_kept h G10.out).2, (two_kept h G9.out).2⟩
        have HLD := Lib.hid hld; clear hld
        refine wp_region_sched (fun w' => Below X.heap.size X w') [(0, true), (1, true), (2, true), (3, true), (4, true), (5, true), (6, true), (7, true), (10, true), (8, false), (9, true), (11, false), (12, true), (13, true), (14, true), (15, true), (16, true), (17, true), (18, true), (19, false), (20, true), (21, false), (22, true), (23, true)] (by kernel_rfl) (by kernel_rfl) (by kernel_rfl) (by kernel_rfl) (fun _ _ d _ _ h => by cases d <;> exact h) ⟨rfl, rfl, rfl, Nat.le_refl _, fun _ _ => rfl⟩ ?_
        simp only [opsOf, List.filterMap_cons, List.filterMap_nil, Option.map_some, List.getElem?_toArray, List.getElem?_cons_zero, List.getElem?_cons_succ]
        generalize hW0 : ({ heap := X.heap, tape := X.tape, drawn := X.drawn + 1, os := X.os, output := X.output } : World) = u0
        have hu0 : Below X.heap.size X u0 := by rw [← hW0]; exact ⟨rfl, rfl, rfl, Nat.le_refl _, fun _ _ => rfl⟩
        clear hW0
        -- 0: Op.fieldAddr
        refine sched_run (v := ?_) (by rfl) ?_ ?_
        rotate_left
        · (intro w' hS'; go_simp; try with_reducible rfl)
        try simp only [Act.put, List.setIfInBounds_toArray, List.set_cons_zero, List.set_cons_succ]
        -- 1: Op.load
        refine sched_run (v := ?_) (by rfl) ?_ ?_
        rotate_left
        · (intro w' hS'; obtain ⟨a0, a1, b1⟩ := HLD.out w' hS'; go_simp; try with_reducible rfl)
        try simp only [Act.put, List.setIfInBounds_toArray, List.set_cons_zero, List.set_cons_succ]
        -- 2: Op.binOp
        refine sched_run (v := ?_) (by rfl) ?_ ?_
        rotate_left
        · (intro w' hS'; go_simp; try with_reducible rfl)
        try simp only [Act.put, List.setIfInBounds_toArray, List.set_cons_zero, List.set_cons_succ]
        -- 3: Op.move
        refine sched_run (v := ?_) (by rfl) ?_ ?_
        rotate_left
        · (intro w' hS'; go_simp; try with_reducible rfl)
        try simp only [Act.put, List.setIfInBounds_toArray, List.set_cons_zero, List.set_cons_succ]
        -- 4: Op.fieldAddr
        refine sched_run (v := ?_) (by rfl) ?_ ?_
        rotate_left
        · (intro w' hS'; go_simp; try with_reducible rfl)
        try simp only [Act.put, List.setIfInBounds_toArray, List.set_cons_zero, List.set_cons_succ]
        -- 5: Op.load
        refine sched_run (v := ?_) (by rfl) ?_ ?_
        rotate_left
        · (intro w' hS'; obtain ⟨a0, a1, b1⟩ := HLD.out w' hS'; go_simp; try with_reducible rfl)
        try simp only [Act.put, List.setIfInBounds_toArray, List.set_cons_zero, List.set_cons_succ]
        -- 6: Op.fieldAddr
        refine sched_run (v := ?_) (by rfl) ?_ ?_
        rotate_left
        · (intro w' hS'; go_simp; try with_reducible rfl)
        try simp only [Act.put, List.setIfInBounds_toArray, List.set_cons_zero, List.set_cons_succ]
        -- 7: Op.load
        refine sched_run (v := ?_) (by rfl) ?_ ?_
        rotate_left
        · (intro w' hS'; obtain ⟨a0, a1, b1⟩ := HLD.out w' hS'; go_simp; try with_reducible rfl)
        try simp only [Act.put, List.setIfInBounds_toArray, List.set_cons_zero, List.set_cons_succ]
        -- 10: Op.move
        refine sched_run (v := ?_) (by rfl) ?_ ?_
        rotate_left
        · (intro w' hS'; go_simp; try with_reducible rfl)
        try simp only [Act.put, List.setIfInBounds_toArray, List.set_cons_zero, List.set_cons_succ]
        -- 8: Op.call
        refine sched_call (by rfl) (fun K hK => ?_)
        go_simp
        refine (implJoinRows_a A3 Ac c3 ccp o cl _ f3 fc (by omega) (by omega) (wfs_of_rowsF HCK.out.ro) (wfs_of_rowsF HCK.out.new) (XR3.out.below' hu0) (XRC.out.below' hu0)).mono ?_
        rintro e u1 ⟨_, rfl, ⟨v4, f4, rfl, hr4, _, _⟩, hbu0⟩
        have hu1 : Below X.heap.size X u1 := hu0.trans (hbu0.mono hu0.size)
        rw [HCK.out.all] at hr4
        obtain ⟨A4, c4, rfl⟩ := hr4.rows_form
        have HR4 := Lib.hid hr4
        clear hr4
        clear hbu0
        refine hK _ _ hu1 ?_
        try simp only [Act.put, List.setIfInBounds_toArray, List.set_cons_zero, List.set_cons_succ]
        -- 9: Op.field
        refine sched_run (v := ?_) (by rfl) ?_ ?_
        rotate_left
        · (intro w' hS'; go_simp; try with_reducible rfl)
        try simp only [Act.put, List.setIfInBounds_toArray, List.set_cons_zero, List.set_cons_succ]
        -- 11: Op.call
        refine sched_call (by rfl) (fun K hK => ?_)
        go_simp
        refine (implSameRows_a A4 Ax c4 cx xs xs _ f4 fx (by omega) (by omega) (wfs_of_rowsF HCK.out.rows) (wfs_of_rowsF HCK.out.rows) HR4.out (XRX.out.below' hu1)).mono ?_
        rintro e u2 ⟨rfl, hbu1⟩
        have hu2 : Below X.heap.size X u2 := hu1.trans (hbu1.mono hu1.size)
        clear hbu1
        refine hK _ _ hu2 ?_
        try simp only [Act.put, List.setIfInBounds_toArray, List.set_cons_zero, List.set_cons_succ]
        -- 12: Op.pick
        refine sched_run (v := ?_) (by rfl) ?_ ?_
        rotate_left
        · (intro w' hS'; go_simp; try with_reducible rfl)
        try simp only [Act.put, List.setIfInBounds_toArray, List.set_cons_zero, List.set_cons_succ]
        -- 13: Op.move
        refine sched_run (v := ?_) (by rfl) ?_ ?_
        rotate_left
        · (intro w' hS'; go_simp; try with_reducible rfl)
        try simp only [Act.put, List.setIfInBounds_toArray, List.set_cons_zero, List.set_cons_succ]
        -- 14: Op.fieldAddr
        refine sched_run (v := ?_) (by rfl) ?_ ?_
        rotate_left
        · (intro w' hS'; go_simp; try with_reducible rfl)
        try simp only [Act.put, List.setIfInBounds_toArray, List.set_cons_zero, List.set_cons_succ]
        -- 15: Op.load
        refine sched_run (v := ?_) (by rfl) ?_ ?_
        rotate_left
        · (intro w' hS'; obtain ⟨a0, a1, b1⟩ := HLD.out w' hS'; go_simp; try with_reducible rfl)
        try simp only [Act.put, List.setIfInBounds_toArray, List.set_cons_zero, List.set_cons_succ]
        -- 16: Op.move
        refine sched_run (v := ?_) (by rfl) ?_ ?_
        rotate_left
        · (intro w' hS'; go_simp; try with_reducible rfl)
        try simp only [Act.put, List.setIfInBounds_toArray, List.set_cons_zero, List.set_cons_succ]
        -- 17: Op.move
        refine sched_run (v := ?_) (by rfl) ?_ ?_
        rotate_left
        · (intro w' hS'; go_simp; try with_reducible rfl)
        try simp only [Act.put, List.setIfInBounds_toArray, List.set_cons_zero, List.set_cons_succ]
        -- 18: Op.move
        refine sched_run (v := ?_) (by rfl) ?_ ?_
        rotate_left
        · (intro w' hS'; go_simp; try with_reducible rfl)
        try simp only [Act.put, List.setIfInBounds_toArray, List.set_cons_zero, List.set_cons_succ]
        -- 19: Op.call
        refine sched_call (by rfl) (fun K hK => ?_)
        go_simp
        refine (specCutRows_c Ax cx xs f t _ fx (XRX.out.below' hu2)).mono ?_
        rintro e u3 ⟨_, rfl, ⟨v5, f5, rfl, hr5, _, _⟩, hbu2⟩
        have hu3 : Below X.heap.size X u3 := hu2.trans (hbu2.mono hu2.size)
        rw [HCL.out] at hr5
        obtain ⟨A5, c5, rfl⟩ := hr5.rows_form
        have HR5 := Lib.hid hr5
        clear hr5
        clear hbu2
        refine hK _ _ hu3 ?_
        try simp only [Act.put, List.setIfInBounds_toArray, List.set_cons_zero, List.set_cons_succ]
        -- 20: Op.field
        refine sched_run (v := ?_) (by rfl) ?_ ?_
        rotate_left
        · (intro w' hS'; go_simp; try with_reducible rfl)
        try simp only [Act.put, List.setIfInBounds_toArray, List.set_cons_zero, List.set_cons_succ]
        -- 21: Op.call
        refine sched_call (by rfl) (fun K hK => ?_)
        go_simp
        refine (implSameRows_a Ac A5 ccp c5 cl cl _ fc f5 (by omega) (by omega) (wfs_of_rowsF HCK.out.new) (wfs_of_rowsF HCK.out.new) (XRC.out.below' hu3) HR5.out).mono ?_
        rintro e u4 ⟨rfl, hbu3⟩
        have hu4 : Below X.heap.size X u4 := hu3.trans (hbu3.mono hu3.size)
        clear hbu3
        refine hK _ _ hu4 ?_
        try simp only [Act.put, List.setIfInBounds_toArray, List.set_cons_zero, List.set_cons_succ]
        -- 22: Op.pick
        refine sched_run (v := ?_) (by rfl) ?_ ?_
        rotate_left
        · (intro w' hS'; go_simp; try with_reducible rfl)
        try simp only [Act.put, List.setIfInBounds_toArray, List.set_cons_zero, List.set_cons_succ]
        -- 23: Op.assign
        refine sched_run (v := ?_) (by rfl) ?_ ?_
        rotate_left
        · (intro w' hS'; go_simp; try with_reducible rfl)
        try simp only [Act.put, List.setIfInBounds_toArray, List.set_cons_zero, List.set_cons_succ]
        refine sched_done ?_
        go_wp2_with fail
        go_ret
        exact ⟨by simp, XBW.out.trans (hu4.mono XBW.out.size)⟩
      · have hcb : (cc != 0) = true := by simpa using hc0
        clear hc0
        go_wp2_with fail
        have hld : ∀ w', Below V.heap.size V w' → w'.cell? ⟨g9, 0, none⟩ = some (.int .i64 cc) ∧ True := fun w' h => ⟨(two_kept h K9.out).1, trivial⟩
        have HLD := Lib.hid hld; clear hld
        refine wp_region_sched (fun w' => Below V.heap.size V w') [(0, true), (1, true), (2, true), (5, true), (6, true), (3, false), (4, true), (7, true), (8, true)] (by kernel_rfl) (by kernel_rfl) (by kernel_rfl) (by kernel_rfl) (fun _ _ d _ _ h => by cases d <;> exact h) ⟨rfl, rfl, rfl, Nat.le_refl _, fun _ _ => rfl⟩ ?_
        simp only [opsOf, List.filterMap_cons, List.filterMap_nil, Option.map_some, List.getElem?_toArray, List.getElem?_cons_zero, List.getElem?_cons_succ]
        generalize hW0 : ({ heap := V.heap, tape := V.tape, drawn := V.drawn + 1, os := V.os, output := V.output } : World) = u0
        have hu0 : Below V.heap.size V u0 := by rw [← hW0]; exact ⟨rfl, rfl, rfl, Nat.le_refl _, fun _ _ => rfl⟩
        clear hW0
        -- 0: Op.move
        refine sched_run (v := ?_) (by rfl) ?_ ?_
        rotate_left
        · (intro w' hS'; go_simp; try with_reducible rfl)
        try simp only [Act.put, List.setIfInBounds_toArray, List.set_cons_zero, List.set_cons_succ]
        -- 1: Op.move
        refine sched_run (v := ?_) (by rfl) ?_ ?_
        rotate_left
        · (intro w' hS'; go_simp; try with_reducible rfl)
        try simp only [Act.put, List.setIfInBounds_toArray, List.set_cons_zero, List.set_cons_succ]
        -- 2: Op.move
        refine sched_run (v := ?_) (by rfl) ?_ ?_
        rotate_left
        · (intro w' hS'; go_simp; try with_reducible rfl)
        try simp only [Act.put, List.setIfInBounds_toArray, List.set_cons_zero, List.set_cons_succ]
        -- 5: Op.fieldAddr
        refine sched_run (v := ?_) (by rfl) ?_ ?_
        rotate_left
        · (intro w' hS'; go_simp; try with_reducible rfl)
        try simp only [Act.put, List.setIfInBounds_toArray, List.set_cons_zero, List.set_cons_succ]
        -- 6: Op.load
        refine sched_run (v := ?_) (by rfl) ?_ ?_
        rotate_left
        · (intro w' hS'; obtain ⟨a0, _⟩ := HLD.out w' hS'; go_simp; try with_reducible rfl)
        try simp only [Act.put, List.setIfInBounds_toArray, List.set_cons_zero, List.set_cons_succ]
        -- 3: Op.call
        refine sched_call (by rfl) (fun K hK => ?_)
        go_simp
        refine (specCutRows_c Ax cx xs f t _ fx (KRX.out.below' hu0)).mono ?_
        rintro e u1 ⟨_, rfl, ⟨v5, f5, rfl, hr5, _, _⟩, hbu0⟩
        have hu1 : Below V.heap.size V u1 := hu0.trans (hbu0.mono hu0.size)
        rw [HCC.out]
        clear hr5
        clear hbu0
        refine hK _ _ hu1 ?_
        try simp only [Act.put, List.setIfInBounds_toArray, List.set_cons_zero, List.set_cons_succ]
        -- 4: Op.field
        refine sched_run (v := ?_) (by rfl) ?_ ?_
        rotate_left
        · (intro w' hS'; go_simp; try with_reducible rfl)
        try simp only [Act.put, List.setIfInBounds_toArray, List.set_cons_zero, List.set_cons_succ]
        -- 7: Op.binOp
        refine sched_run (v := ?_) (by rfl) ?_ ?_
        rotate_left
        · (intro w' hS'; go_simp; try with_reducible rfl)
        try simp only [Act.put, List.setIfInBounds_toArray, List.set_cons_zero, List.set_cons_succ]
        -- 8: Op.assign
        refine sched_run (v := ?_) (by rfl) ?_ ?_
        rotate_left
        · (intro w' hS'; go_simp; try with_reducible rfl)
        try simp only [Act.put, List.setIfInBounds_toArray, List.set_cons_zero, List.set_cons_succ]
        refine sched_done ?_
        go_wp2_with fail
        go_ret
        exact ⟨by simp, KBW.out.trans (hu1.mono KBW.out.size)⟩
end Go.Proofs.Ythmmjkpgepffeaa
