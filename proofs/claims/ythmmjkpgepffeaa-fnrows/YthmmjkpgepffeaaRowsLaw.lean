/- The law FnRows answers true for every slice of bytes: the walk. -/
import Derived.Test.YthmmjkpgepffeaaLwBig
import Derived.Test.YthmmjkpgepffeaaImpl2b
import Derived.Test.YthmmjkpgepffeaaImpl2e
import Derived.Test.YthmmjkpgepffeaaDraw2e
import Derived.Test.YthmmjkpgepffeaaDraw2f
import Derived.Test.YthmmjkpgepffeaaDraw2g
import Derived.Test.YthmmjkpgepffeaaLists2
import Derived.Test.YthmmjkpgepffeaaSched
namespace Go.Proofs.Ythmmjkpgepffeaa
open Go.RowKit

theorem fldRows0 (x y : Value) (w : World) : (Instr.field 30 (.agg #[x, y]) 0).run Try.prog w = .ok x w := by kernel_rfl
theorem fldRows1 (x y : Value) (w : World) : (Instr.field 30 (.agg #[x, y]) 1).run Try.prog w = .ok y w := by kernel_rfl
theorem fldKey0 (x y : Value) (w : World) : (Instr.field 41 (.agg #[x, y]) 0).run Try.prog w = .ok x w := by kernel_rfl
theorem fldKey1 (x y : Value) (w : World) : (Instr.field 41 (.agg #[x, y]) 1).run Try.prog w = .ok y w := by kernel_rfl
theorem fldRow0 (a b c d e : Value) (w : World) : (Instr.field 35 (.agg #[a, b, c, d, e]) 0).run Try.prog w = .ok a w := by kernel_rfl
theorem fldRow1 (a b c d e : Value) (w : World) : (Instr.field 35 (.agg #[a, b, c, d, e]) 1).run Try.prog w = .ok (.agg #[b, c, d, e]) w := by kernel_rfl
theorem sameNeq (V : R) (w : World) : (binOp .neq 26 (rv V) (rv V)).run Try.prog w = .ok (.bool false) w := by rw [rowNeq]; simp
theorem sameEql (V : R) (w : World) : (binOp .eql 26 (rv V) (rv V)).run Try.prog w = .ok (.bool true) w := by rw [rowEql]; simp
theorem sameGuard (op : BinOp) (p q : Operand) (V : R) (w : World) : (eqGuard op 26 p q (rv V) (rv V)).run Try.prog w = .ok () w := rowGuard op p q V V w

/-- The cells of a block that the calls kept. -/
theorem row_kept {w w' : World} {g : Nat} {x : R} (h : Below w.heap.size w w') (hg : w.heap[g]? = some (rbox x)) :
    w'.cell? ⟨g, 0, none⟩ = some (.int .i64 x.1) ∧ w'.cell? ⟨g, 1, none⟩ = some (.int .i64 x.2.1) ∧ w'.cell? ⟨g, 2, none⟩ = some (.int .i64 x.2.2.1) ∧ w'.cell? ⟨g, 3, none⟩ = some (.int .i64 x.2.2.2) := by
  have := (h.block _ (heap_lt hg)).trans hg
  exact ⟨cell_of_heap this, cell_of_heap this, cell_of_heap this, cell_of_heap this⟩
theorem rr_kept {w w' : World} {g : Nat} {C : Int} {x : R} (h : Below w.heap.size w w') (hg : w.heap[g]? = some (.cells #[.int .i64 C, .int .i64 x.1, .int .i64 x.2.1, .int .i64 x.2.2.1, .int .i64 x.2.2.2] 35 (0, 0))) :
    w'.cell? ⟨g, 0, none⟩ = some (.int .i64 C) ∧ w'.cell? ⟨g, 1, none⟩ = some (.int .i64 x.1) ∧ w'.cell? ⟨g, 2, none⟩ = some (.int .i64 x.2.1) ∧ w'.cell? ⟨g, 3, none⟩ = some (.int .i64 x.2.2.1) ∧ w'.cell? ⟨g, 4, none⟩ = some (.int .i64 x.2.2.2) := by
  have := (h.block _ (heap_lt hg)).trans hg
  exact ⟨cell_of_heap this, cell_of_heap this, cell_of_heap this, cell_of_heap this, cell_of_heap this⟩
theorem two_kept {w w' : World} {g : Nat} {u v : Value} {t : TypeId} (h : Below w.heap.size w w') (hg : w.heap[g]? = some (.cells #[u, v] t (0, 0))) :
    w'.cell? ⟨g, 0, none⟩ = some u ∧ w'.cell? ⟨g, 1, none⟩ = some v := by
  have := (h.block _ (heap_lt hg)).trans hg
  exact ⟨cell_of_heap this, cell_of_heap this⟩

theorem isB_of_fit {x : R} (h : Fit x) : isB x.1 x.2.1 = true := by
  obtain ⟨h0, h1, h2, h3⟩ := h
  unfold isB
  rw [inB_true.2 ⟨h0, h1⟩, inB_true.2 ⟨h2, h3⟩]; rfl
theorem wf_of_rowF {x : R} (h : rowF x = 0) : WfR x := by
  have hz := rowF_zero h
  exact ⟨wf_mild (by omega), wf_mild (by omega), wf_mild (by omega), wf_mild (by omega)⟩
theorem wfs_of_rowsF {L : List R} (h : rowsF L = 0) : ∀ x ∈ L, WfR x := fun x hx => wf_of_rowF ((rowsF_rising h).1.above x hx).1
theorem find_some {L : List R} {x : R} (h : rowsF L = 0) (hf : Fit x) (hg : getR L x.1 x.2.1 = some x) : findC L x.1 x.2.1 = 0 ∧ findV L x.1 x.2.1 = x := by
  have hc : findC L x.1 x.2.1 = 0 := by simp [findC, h, isB_of_fit hf, hg]
  exact ⟨hc, by simp [findV, hc, getV, hg]⟩
theorem find_gone {L : List R} {x : R} (h : rowsF L = 0) (hf : Fit x) (hg : getR L x.1 x.2.1 = none) : findC L x.1 x.2.1 = 4 ∧ findV L x.1 x.2.1 = (0, 0, 0, 0) := by
  have hc : findC L x.1 x.2.1 = 4 := by simp [findC, h, isB_of_fit hf, hg]
  exact ⟨hc, by simp [findV, hc]⟩
theorem prC_zero {rs : List R} {r : R} (h : prC rs r = 0) : rowsF rs = 0 ∧ rowF r = 0 ∧ (setR rs r).length ≤ 12 ∧ prL rs r = setR rs r := by
  have hl : prL rs r = setR rs r := by simp [prL, h]
  unfold prC at h
  by_cases h0 : rowsF rs = 0
  · rw [if_neg (by simpa using h0)] at h
    by_cases h1 : rowF r = 0
    · rw [if_neg (by simpa using h1)] at h
      by_cases h2 : 12 < (setR rs r).length
      · rw [if_pos h2] at h; cases h
      · exact ⟨h0, h1, by omega, hl⟩
    · rw [if_pos h1] at h; exact absurd h h1
  · rw [if_pos h0] at h; exact absurd h h0
/-- What follows where a row was put. -/
structure PutOk (ls pL : List R) (r : R) : Prop where
  rows : rowsF ls = 0
  row : rowF r = 0
  new : rowsF pL = 0
  len : pL.length ≤ 12
  other : ∀ x ∈ ls, ¬ (x.1 = r.1 ∧ x.2.1 = r.2.1) → findC pL x.1 x.2.1 = 0 ∧ findV pL x.1 x.2.1 = x
  gone : r.2.2.1 = 0 → findC pL r.1 r.2.1 = 4 ∧ findV pL r.1 r.2.1 = (0, 0, 0, 0)
  self : r.2.2.1 ≠ 0 → findC pL r.1 r.2.1 = 0 ∧ findV pL r.1 r.2.1 = r
theorem put_ok {ls pL : List R} {r : R} (hc : prC ls r = 0) (hl : prL ls r = pL) : PutOk ls pL r := by
  obtain ⟨h0, h1, h2, h3⟩ := prC_zero hc
  have e : pL = setR ls r := by rw [← hl, h3]
  subst e
  have hn := setR_right h0 h1 h2
  have hz := rowF_zero h1
  refine ⟨h0, h1, hn, h2, fun x hx hne => find_some hn (fit_of_rowF ((rowsF_rising h0).1.above x hx).1) (find_other h0 h1 hx hne), fun he => ?_, fun he => ?_⟩
  · have hem : emptyB r = true := by
      have : r.2.2.2 = 0 := by omega
      simp [emptyB, he, this]
    exact find_gone hn (fit_of_rowF h1) (by rw [find_self h0 h1, hem]; rfl)
  · have hem : emptyB r = false := by simp [emptyB, he]
    exact find_some hn (fit_of_rowF h1) (by rw [find_self h0 h1, hem]; rfl)

set_option maxRecDepth 100000 in
set_option maxHeartbeats 16000000 in
theorem lawRows_c (a : Option Addr) (len cap : Nat) (z : List Int) (w : World) (h0 : IsRow .u8 w a len cap z) :
    Calls Try.prog 3 #[.slice a len cap] w fun e w' => e = .returned (.bool true) ∧ Below w.heap.size w w' := by
  have hlen := h0.len
  have hby := h0.byt
  obtain ⟨fp, hr⟩ := h0.rd
  clear h0
  generalize z.take len = zs at *
  subst hlen
  clear z
  have hmax := hr.len_le
  by_cases hbig : 1048576 < zs.length
  · have HBD := Lib.hid (show decide (1048576 < zs.length) = true by simp [hbig])
    go_enter Try.func3, Try.ntmps3
    go_wp2_with fail
    refine (bigCode_c _ _ _ _ hmax).mono ?_
    rintro e w1 ⟨rfl, rfl⟩
    rw [HBD.out]
    go_wp2
    go_ret
    exact ⟨rfl, Below.refl _ _⟩
  · have hs : zs.length ≤ 1048576 := by omega
    have HBD := Lib.hid (show decide (1048576 < zs.length) = false by simp [hs])
    have HCR := Lib.hid hr; have HBY := Lib.hid hby
    clear hr hby hbig
    go_enter Try.func3, Try.ntmps3
    go_wp2_with fail
    refine (bigCode_c _ _ _ _ hmax).mono ?_
    rintro e w0 ⟨rfl, rfl⟩
    rw [HBD.out]
    go_wp2_with fail
    refine (drawPutRow_c a cap zs w fp HCR.out HBY.out hs).mono ?_
    rintro e w1 ⟨vl, fl, ls, r, rfl, hrl, _, _, hml, hll, hmr, hb1⟩
    obtain ⟨Al, cl, rfl⟩ := hrl.rows_form
    have N1 := Lib.hid hb1; have HRL := Lib.hid hrl; have HML := Lib.hid hml; have HMR := Lib.hid hmr
    clear hb1 hrl hml hmr
    go_wp2_with fail
    refine (implPutRow_a Al cl ls r _ fl (by omega) (fun q hq => (HML.out q hq).wf) HMR.out.wf (HRL.out.alloc (rbox r))).mono ?_
    rintro e w2 ⟨_, rfl, ⟨vp, fpp, rfl, hrp, _, _⟩, hb2⟩
    obtain ⟨Ap, cp, rfl⟩ := hrp.rows_form
    have N2 := Lib.hid ((below_more N1.out (rbox r)).trans (hb2.mono (below_more N1.out (rbox r)).size)); have B2 := Lib.hid hb2; have HRP := Lib.hid hrp
    clear hb2 hrp
    have M2 := Lib.hid (below_more N2.out (.cells #[.int .i64 (prC ls r), .slice Ap (prL ls r).length cp] 30))
    go_wp2_with fail
    refine (drawFindRow_c a cap zs _ fp (HCR.out.below' M2.out) HBY.out hs).mono ?_
    rintro e w3 ⟨vx, fx, xs, l, s, rfl, hrx, _, _, hmx, hlx, hml2, hms2, hb3⟩
    obtain ⟨Ax, cx, rfl⟩ := hrx.rows_form
    have N3 := Lib.hid (M2.out.trans (hb3.mono M2.out.size)); have B3 := Lib.hid hb3; have HRX := Lib.hid hrx; have HMX := Lib.hid hmx; have HWL := Lib.hid (wf_mild hml2); have HWS := Lib.hid (wf_mild hms2)
    clear hb3 hrx hmx hml2 hms2
    go_wp2_with fail
    refine (implFindRow_a Ax cx xs l s _ fx (by omega) (fun q hq => (HMX.out q hq).wf) HWL.out HWS.out HRX.out).mono ?_
    rintro e w4 ⟨rfl, hb4⟩
    have N4 := Lib.hid (N3.out.trans (hb4.mono N3.out.size)); have B4 := Lib.hid hb4
    clear hb4
    generalize hfc : findC xs l s = fC
    generalize hfv : findV xs l s = fV
    have HFC := Lib.hid hfc; have HFV := Lib.hid hfv
    clear hfc hfv
    have M4 := Lib.hid (below_more N4.out (.cells #[.int .i64 fC, .int .i64 fV.1, .int .i64 fV.2.1, .int .i64 fV.2.2.1, .int .i64 fV.2.2.2] 35))
    go_wp2_with fail
    refine (drawKeyOf_c a cap zs _ fp (HCR.out.below' M4.out) HBY.out hs).mono ?_
    rintro e w5 ⟨ka, kb, rfl, hka, hkb, hb5⟩
    have N5 := Lib.hid (M4.out.trans (hb5.mono M4.out.size)); have B5 := Lib.hid hb5; have HKA := Lib.hid (wf_mild hka); have HKB := Lib.hid (wf_mild hkb)
    clear hb5 hka hkb
    go_wp2_with fail
    refine (drawRowFault_c a cap zs _ fp (HCR.out.below' N5.out) HBY.out hs).mono ?_
    rintro e w6 ⟨y, rfl, hmy, hb6⟩
    have N6 := Lib.hid (N5.out.trans (hb6.mono N5.out.size)); have B6 := Lib.hid hb6; have HMY := Lib.hid hmy
    clear hb6 hmy
    go_wp2_with fail
    have k6 : Below w6.heap.size w6 (w6.alloc (rbox y)) := below_new _
    have k5 : Below w5.heap.size w5 (w6.alloc (rbox y)) := B6.out.trans (k6.mono B6.out.size)
    have k4' : Below _ (w4.alloc (.cells #[.int .i64 fC, .int .i64 fV.1, .int .i64 fV.2.1, .int .i64 fV.2.2.1, .int .i64 fV.2.2.2] 35)) (w6.alloc (rbox y)) := B5.out.trans (k5.mono B5.out.size)
    have k4 : Below w4.heap.size w4 (w6.alloc (rbox y)) := (below_new _).trans (k4'.mono (by simp))
    have k3 : Below w3.heap.size w3 (w6.alloc (rbox y)) := B4.out.trans (k4.mono B4.out.size)
    have k2' : Below _ (w2.alloc (.cells #[.int .i64 (prC ls r), .slice Ap (prL ls r).length cp] 30)) (w6.alloc (rbox y)) := B3.out.trans (k3.mono B3.out.size)
    have k2 : Below w2.heap.size w2 (w6.alloc (rbox y)) := (below_new _).trans (k2'.mono (by simp))
    have k1' : Below _ (w1.alloc (rbox r)) (w6.alloc (rbox y)) := B2.out.trans (k2.mono B2.out.size)
    have k1 : Below w1.heap.size w1 (w6.alloc (rbox y)) := (below_new _).trans (k1'.mono (by simp))
    have hg4 : (w6.alloc (rbox y)).heap[w1.heap.size]? = some (rbox r) := newest k1' (by simp)
    have hg5 : (w6.alloc (rbox y)).heap[w2.heap.size]? = some (.cells #[.int .i64 (prC ls r), .slice Ap (prL ls r).length cp] 30 (0, 0)) := newest k2' (by simp)
    have hg9 : (w6.alloc (rbox y)).heap[w4.heap.size]? = some (.cells #[.int .i64 fC, .int .i64 fV.1, .int .i64 fV.2.1, .int .i64 fV.2.2.1, .int .i64 fV.2.2.2] 35 (0, 0)) := newest k4' (by simp)
    have hg12 : (w6.alloc (rbox y)).heap[w6.heap.size]? = some (rbox y) := heap_new w6 _ rfl
    have hrl := HRL.out.below' k1; have hrp := HRP.out.below' k2; have hrx := HRX.out.below' k3
    have hbW : Below w.heap.size w (w6.alloc (rbox y)) := below_more N6.out _
    clear k1 k1' k2 k2' k3 k4 k4' k5 k6 N1 N2 N3 N4 N5 N6 M2 M4 B2 B3 B4 B5 B6 HRL HRP HRX
    generalize w1.heap.size = g4 at *
    generalize w2.heap.size = g5 at *
    generalize w4.heap.size = g9 at *
    generalize w6.heap.size = g12 at *
    generalize w6.alloc (rbox y) = W at *
    have G4 := Lib.hid hg4; have G5 := Lib.hid hg5; have G9 := Lib.hid hg9; have G12 := Lib.hid hg12; have HRL := Lib.hid hrl; have HRP := Lib.hid hrp; have HRX := Lib.hid hrx; have HBW := Lib.hid hbW
    clear hg4 hg5 hg9 hg12 hrl hrp hrx hbW
    have q1 := fldRows0; have q2 := fldRows1; have q3 := fldKey0; have q4 := fldKey1; have q5 := fldRow0; have q6 := fldRow1; have q7 := sameNeq; have q8 := sameGuard; have q9 := sameEql
    have hld : ∀ w', Below W.heap.size W w' → w'.cell? ⟨g9, 0, none⟩ = some (.int .i64 fC) ∧ w'.cell? ⟨g9, 1, none⟩ = some (.int .i64 fV.1) ∧ w'.cell? ⟨g9, 2, none⟩ = some (.int .i64 fV.2.1) ∧ w'.cell? ⟨g9, 3, none⟩ = some (.int .i64 fV.2.2.1) ∧ w'.cell? ⟨g9, 4, none⟩ = some (.int .i64 fV.2.2.2) ∧ w'.cell? ⟨g12, 0, none⟩ = some (.int .i64 y.1) ∧ w'.cell? ⟨g12, 1, none⟩ = some (.int .i64 y.2.1) ∧ w'.cell? ⟨g12, 2, none⟩ = some (.int .i64 y.2.2.1) ∧ w'.cell? ⟨g12, 3, none⟩ = some (.int .i64 y.2.2.2) := fun w' h => by have p1 := rr_kept h G9.out; have p2 := row_kept h G12.out; exact ⟨p1.1, p1.2.1, p1.2.2.1, p1.2.2.2.1, p1.2.2.2.2, p2.1, p2.2.1, p2.2.2.1, p2.2.2.2⟩
    have HLD := Lib.hid hld; clear hld
    refine wp_region_sched (fun w' => Below W.heap.size W w') [(0, true), (1, true), (2, true), (3, true), (4, true), (5, false), (6, true), (7, true), (8, true), (9, true), (10, true), (11, true), (12, true), (13, true), (14, false), (15, true), (16, true), (17, true), (18, true), (19, true), (20, true), (23, true), (24, true), (21, false), (22, true), (25, false), (26, true), (27, true), (28, true), (29, true), (30, true), (31, true), (34, true), (35, true), (32, false), (33, true), (36, false), (37, true), (38, true), (39, true), (40, true), (41, true), (43, true), (42, false), (44, false), (45, true), (46, true)] (by kernel_rfl) (by kernel_rfl) (by kernel_rfl) (by kernel_rfl) (fun _ _ d _ _ h => by cases d <;> exact h) ⟨rfl, rfl, rfl, Nat.le_refl _, fun _ _ => rfl⟩ ?_
    simp only [opsOf, List.filterMap_cons, List.filterMap_nil, Option.map_some, List.getElem?_toArray, List.getElem?_cons_zero, List.getElem?_cons_succ]
    generalize hW0 : ({ heap := W.heap, tape := W.tape, drawn := W.drawn + 1, os := W.os, output := W.output } : World) = v0
    have hv0 : Below W.heap.size W v0 := by rw [← hW0]; exact ⟨rfl, rfl, rfl, Nat.le_refl _, fun _ _ => rfl⟩
    clear hW0
    -- 0: Op.fieldAddr
    refine sched_run (v := ?_) (by rfl) ?_ ?_
    rotate_left
    · (intro w' hS'; go_simp; try with_reducible rfl)
    try simp only [Act.put, List.setIfInBounds_toArray, List.set_cons_zero, List.set_cons_succ]
    -- 1: Op.load
    refine sched_run (v := ?_) (by rfl) ?_ ?_
    rotate_left
    · (intro w' hS'; obtain ⟨a0, a1, a2, a3, a4, b0, b1, b2, b3⟩ := HLD.out w' hS'; go_simp; try with_reducible rfl)
    try simp only [Act.put, List.setIfInBounds_toArray, List.set_cons_zero, List.set_cons_succ]
    -- 2: Op.move
    refine sched_run (v := ?_) (by rfl) ?_ ?_
    rotate_left
    · (intro w' hS'; go_simp; try with_reducible rfl)
    try simp only [Act.put, List.setIfInBounds_toArray, List.set_cons_zero, List.set_cons_succ]
    -- 3: Op.move
    refine sched_run (v := ?_) (by rfl) ?_ ?_
    rotate_left
    · (intro w' hS'; go_simp; try with_reducible rfl)
    try simp only [Act.put, List.setIfInBounds_toArray, List.set_cons_zero, List.set_cons_succ]
    -- 4: Op.move
    refine sched_run (v := ?_) (by rfl) ?_ ?_
    rotate_left
    · (intro w' hS'; go_simp; try with_reducible rfl)
    try simp only [Act.put, List.setIfInBounds_toArray, List.set_cons_zero, List.set_cons_succ]
    -- 5: Op.call
    refine sched_call (by rfl) (fun K hK => ?_)
    go_simp
    refine (specFindRow_c Ax cx xs l s _ fx (HRX.out.below' hv0)).mono ?_
    rintro e v1 ⟨rfl, hbv0⟩
    have hv1 : Below W.heap.size W v1 := hv0.trans (hbv0.mono hv0.size)
    rw [HFC.out, HFV.out]
    clear hbv0
    refine hK _ _ hv1 ?_
    try simp only [Act.put, List.setIfInBounds_toArray, List.set_cons_zero, List.set_cons_succ]
    -- 6: Op.field
    refine sched_run (v := ?_) (by rfl) ?_ ?_
    rotate_left
    · (intro w' hS'; go_simp; try with_reducible rfl)
    try simp only [Act.put, List.setIfInBounds_toArray, List.set_cons_zero, List.set_cons_succ]
    -- 7: Op.binOp
    refine sched_run (v := ?_) (by rfl) ?_ ?_
    rotate_left
    · (intro w' hS'; go_simp; try with_reducible rfl)
    try simp only [Act.put, List.setIfInBounds_toArray, List.set_cons_zero, List.set_cons_succ]
    -- 8: Op.move
    refine sched_run (v := ?_) (by rfl) ?_ ?_
    rotate_left
    · (intro w' hS'; go_simp; try with_reducible rfl)
    try simp only [Act.put, List.setIfInBounds_toArray, List.set_cons_zero, List.set_cons_succ]
    -- 9: Op.fieldAddr
    refine sched_run (v := ?_) (by rfl) ?_ ?_
    rotate_left
    · (intro w' hS'; go_simp; try with_reducible rfl)
    try simp only [Act.put, List.setIfInBounds_toArray, List.set_cons_zero, List.set_cons_succ]
    -- 10: Op.load
    refine sched_run (v := ?_) (by rfl) ?_ ?_
    rotate_left
    · (intro w' hS'; obtain ⟨a0, a1, a2, a3, a4, b0, b1, b2, b3⟩ := HLD.out w' hS'; go_simp; try with_reducible rfl)
    try simp only [Act.put, List.setIfInBounds_toArray, List.set_cons_zero, List.set_cons_succ]
    -- 11: Op.move
    refine sched_run (v := ?_) (by rfl) ?_ ?_
    rotate_left
    · (intro w' hS'; go_simp; try with_reducible rfl)
    try simp only [Act.put, List.setIfInBounds_toArray, List.set_cons_zero, List.set_cons_succ]
    -- 12: Op.move
    refine sched_run (v := ?_) (by rfl) ?_ ?_
    rotate_left
    · (intro w' hS'; go_simp; try with_reducible rfl)
    try simp only [Act.put, List.setIfInBounds_toArray, List.set_cons_zero, List.set_cons_succ]
    -- 13: Op.move
    refine sched_run (v := ?_) (by rfl) ?_ ?_
    rotate_left
    · (intro w' hS'; go_simp; try with_reducible rfl)
    try simp only [Act.put, List.setIfInBounds_toArray, List.set_cons_zero, List.set_cons_succ]
    -- 14: Op.call
    refine sched_call (by rfl) (fun K hK => ?_)
    go_simp
    refine (specFindRow_c Ax cx xs l s _ fx (HRX.out.below' hv1)).mono ?_
    rintro e v2 ⟨rfl, hbv1⟩
    have hv2 : Below W.heap.size W v2 := hv1.trans (hbv1.mono hv1.size)
    rw [HFC.out, HFV.out]
    clear hbv1
    refine hK _ _ hv2 ?_
    try simp only [Act.put, List.setIfInBounds_toArray, List.set_cons_zero, List.set_cons_succ]
    -- 15: Op.field
    refine sched_run (v := ?_) (by rfl) ?_ ?_
    rotate_left
    · (intro w' hS'; go_simp; try with_reducible rfl)
    try simp only [Act.put, List.setIfInBounds_toArray, List.set_cons_zero, List.set_cons_succ]
    -- 16: Op.binOp
    refine sched_run (v := ?_) (by rfl) ?_ ?_
    rotate_left
    · (intro w' hS'; go_simp; try with_reducible rfl)
    try simp only [Act.put, List.setIfInBounds_toArray, List.set_cons_zero, List.set_cons_succ]
    -- 17: Op.pick
    refine sched_run (v := ?_) (by rfl) ?_ ?_
    rotate_left
    · (intro w' hS'; go_simp; try with_reducible rfl)
    try simp only [Act.put, List.setIfInBounds_toArray, List.set_cons_zero, List.set_cons_succ]
    -- 18: Op.move
    refine sched_run (v := ?_) (by rfl) ?_ ?_
    rotate_left
    · (intro w' hS'; go_simp; try with_reducible rfl)
    try simp only [Act.put, List.setIfInBounds_toArray, List.set_cons_zero, List.set_cons_succ]
    -- 19: Op.move
    refine sched_run (v := ?_) (by rfl) ?_ ?_
    rotate_left
    · (intro w' hS'; go_simp; try with_reducible rfl)
    try simp only [Act.put, List.setIfInBounds_toArray, List.set_cons_zero, List.set_cons_succ]
    -- 20: Op.move
    refine sched_run (v := ?_) (by rfl) ?_ ?_
    rotate_left
    · (intro w' hS'; go_simp; try with_reducible rfl)
    try simp only [Act.put, List.setIfInBounds_toArray, List.set_cons_zero, List.set_cons_succ]
    -- 23: Op.move
    refine sched_run (v := ?_) (by rfl) ?_ ?_
    rotate_left
    · (intro w' hS'; go_simp; try with_reducible rfl)
    try simp only [Act.put, List.setIfInBounds_toArray, List.set_cons_zero, List.set_cons_succ]
    -- 24: Op.move
    refine sched_run (v := ?_) (by rfl) ?_ ?_
    rotate_left
    · (intro w' hS'; go_simp; try with_reducible rfl)
    try simp only [Act.put, List.setIfInBounds_toArray, List.set_cons_zero, List.set_cons_succ]
    -- 21: Op.call
    refine sched_call (by rfl) (fun K hK => ?_)
    go_simp
    refine (implKeyOf_a ka kb _ HKA.out HKB.out).mono ?_
    rintro e v3 ⟨rfl, hbv2⟩
    have hv3 : Below W.heap.size W v3 := hv2.trans (hbv2.mono hv2.size)
    clear hbv2
    refine hK _ _ hv3 ?_
    try simp only [Act.put, List.setIfInBounds_toArray, List.set_cons_zero, List.set_cons_succ]
    -- 22: Op.field
    refine sched_run (v := ?_) (by rfl) ?_ ?_
    rotate_left
    · (intro w' hS'; go_simp; try with_reducible rfl)
    try simp only [Act.put, List.setIfInBounds_toArray, List.set_cons_zero, List.set_cons_succ]
    -- 25: Op.call
    refine sched_call (by rfl) (fun K hK => ?_)
    go_simp
    refine (specKeyOf_c ka kb _).mono ?_
    rintro e v4 ⟨rfl, hbv3⟩
    have hv4 : Below W.heap.size W v4 := hv3.trans (hbv3.mono hv3.size)
    clear hbv3
    refine hK _ _ hv4 ?_
    try simp only [Act.put, List.setIfInBounds_toArray, List.set_cons_zero, List.set_cons_succ]
    -- 26: Op.field
    refine sched_run (v := ?_) (by rfl) ?_ ?_
    rotate_left
    · (intro w' hS'; go_simp; try with_reducible rfl)
    try simp only [Act.put, List.setIfInBounds_toArray, List.set_cons_zero, List.set_cons_succ]
    -- 27: Op.binOp
    refine sched_run (v := ?_) (by rfl) ?_ ?_
    rotate_left
    · (intro w' hS'; go_simp; try with_reducible rfl)
    try simp only [Act.put, List.setIfInBounds_toArray, List.set_cons_zero, List.set_cons_succ]
    -- 28: Op.pick
    refine sched_run (v := ?_) (by rfl) ?_ ?_
    rotate_left
    · (intro w' hS'; go_simp; try with_reducible rfl)
    try simp only [Act.put, List.setIfInBounds_toArray, List.set_cons_zero, List.set_cons_succ]
    -- 29: Op.move
    refine sched_run (v := ?_) (by rfl) ?_ ?_
    rotate_left
    · (intro w' hS'; go_simp; try with_reducible rfl)
    try simp only [Act.put, List.setIfInBounds_toArray, List.set_cons_zero, List.set_cons_succ]
    -- 30: Op.move
    refine sched_run (v := ?_) (by rfl) ?_ ?_
    rotate_left
    · (intro w' hS'; go_simp; try with_reducible rfl)
    try simp only [Act.put, List.setIfInBounds_toArray, List.set_cons_zero, List.set_cons_succ]
    -- 31: Op.move
    refine sched_run (v := ?_) (by rfl) ?_ ?_
    rotate_left
    · (intro w' hS'; go_simp; try with_reducible rfl)
    try simp only [Act.put, List.setIfInBounds_toArray, List.set_cons_zero, List.set_cons_succ]
    -- 34: Op.move
    refine sched_run (v := ?_) (by rfl) ?_ ?_
    rotate_left
    · (intro w' hS'; go_simp; try with_reducible rfl)
    try simp only [Act.put, List.setIfInBounds_toArray, List.set_cons_zero, List.set_cons_succ]
    -- 35: Op.move
    refine sched_run (v := ?_) (by rfl) ?_ ?_
    rotate_left
    · (intro w' hS'; go_simp; try with_reducible rfl)
    try simp only [Act.put, List.setIfInBounds_toArray, List.set_cons_zero, List.set_cons_succ]
    -- 32: Op.call
    refine sched_call (by rfl) (fun K hK => ?_)
    go_simp
    refine (implKeyOf_a ka kb _ HKA.out HKB.out).mono ?_
    rintro e v5 ⟨rfl, hbv4⟩
    have hv5 : Below W.heap.size W v5 := hv4.trans (hbv4.mono hv4.size)
    clear hbv4
    refine hK _ _ hv5 ?_
    try simp only [Act.put, List.setIfInBounds_toArray, List.set_cons_zero, List.set_cons_succ]
    -- 33: Op.field
    refine sched_run (v := ?_) (by rfl) ?_ ?_
    rotate_left
    · (intro w' hS'; go_simp; try with_reducible rfl)
    try simp only [Act.put, List.setIfInBounds_toArray, List.set_cons_zero, List.set_cons_succ]
    -- 36: Op.call
    refine sched_call (by rfl) (fun K hK => ?_)
    go_simp
    refine (specKeyOf_c ka kb _).mono ?_
    rintro e v6 ⟨rfl, hbv5⟩
    have hv6 : Below W.heap.size W v6 := hv5.trans (hbv5.mono hv5.size)
    clear hbv5
    refine hK _ _ hv6 ?_
    try simp only [Act.put, List.setIfInBounds_toArray, List.set_cons_zero, List.set_cons_succ]
    -- 37: Op.field
    refine sched_run (v := ?_) (by rfl) ?_ ?_
    rotate_left
    · (intro w' hS'; go_simp; try with_reducible rfl)
    try simp only [Act.put, List.setIfInBounds_toArray, List.set_cons_zero, List.set_cons_succ]
    -- 38: Op.binOp
    refine sched_run (v := ?_) (by rfl) ?_ ?_
    rotate_left
    · (intro w' hS'; go_simp; try with_reducible rfl)
    try simp only [Act.put, List.setIfInBounds_toArray, List.set_cons_zero, List.set_cons_succ]
    -- 39: Op.pick
    refine sched_run (v := ?_) (by rfl) ?_ ?_
    rotate_left
    · (intro w' hS'; go_simp; try with_reducible rfl)
    try simp only [Act.put, List.setIfInBounds_toArray, List.set_cons_zero, List.set_cons_succ]
    -- 40: Op.move
    refine sched_run (v := ?_) (by rfl) ?_ ?_
    rotate_left
    · (intro w' hS'; go_simp; try with_reducible rfl)
    try simp only [Act.put, List.setIfInBounds_toArray, List.set_cons_zero, List.set_cons_succ]
    -- 41: Op.load
    refine sched_run (v := ?_) (by rfl) ?_ ?_
    rotate_left
    · (intro w' hS'; obtain ⟨a0, a1, a2, a3, a4, b0, b1, b2, b3⟩ := HLD.out w' hS'; go_simp; try with_reducible rfl)
    try simp only [Act.put, List.setIfInBounds_toArray, List.set_cons_zero, List.set_cons_succ]
    -- 43: Op.load
    refine sched_run (v := ?_) (by rfl) ?_ ?_
    rotate_left
    · (intro w' hS'; obtain ⟨a0, a1, a2, a3, a4, b0, b1, b2, b3⟩ := HLD.out w' hS'; go_simp; try with_reducible rfl)
    try simp only [Act.put, List.setIfInBounds_toArray, List.set_cons_zero, List.set_cons_succ]
    -- 42: Op.call
    refine sched_call (by rfl) (fun K hK => ?_)
    go_simp
    refine (implRowFault_a y _ HMY.out.wf).mono ?_
    rintro e v7 ⟨rfl, hbv6⟩
    have hv7 : Below W.heap.size W v7 := hv6.trans (hbv6.mono hv6.size)
    clear hbv6
    refine hK _ _ hv7 ?_
    try simp only [Act.put, List.setIfInBounds_toArray, List.set_cons_zero, List.set_cons_succ]
    -- 44: Op.call
    refine sched_call (by rfl) (fun K hK => ?_)
    go_simp
    refine (specRowFault_c y _).mono ?_
    rintro e v8 ⟨rfl, hbv7⟩
    have hv8 : Below W.heap.size W v8 := hv7.trans (hbv7.mono hv7.size)
    clear hbv7
    refine hK _ _ hv8 ?_
    try simp only [Act.put, List.setIfInBounds_toArray, List.set_cons_zero, List.set_cons_succ]
    -- 45: Op.binOp
    refine sched_run (v := ?_) (by rfl) ?_ ?_
    rotate_left
    · (intro w' hS'; go_simp; try with_reducible rfl)
    try simp only [Act.put, List.setIfInBounds_toArray, List.set_cons_zero, List.set_cons_succ]
    -- 46: Op.pick
    refine sched_run (v := ?_) (by rfl) ?_ ?_
    rotate_left
    · (intro w' hS'; go_simp; try with_reducible rfl)
    try simp only [Act.put, List.setIfInBounds_toArray, List.set_cons_zero, List.set_cons_succ]
    refine sched_done ?_
    have HVB := Lib.hid hv8
    clear HLD G9 G12 HRX HMX HWL HWS HKA HKB HMY HFC HFV
    have hg4 := (HVB.out.block _ (heap_lt G4.out)).trans G4.out
    have hg5 := (HVB.out.block _ (heap_lt G5.out)).trans G5.out
    have hrl := HRL.out.below' HVB.out; have hrp := HRP.out.below' HVB.out
    have hbW := HBW.out.trans (HVB.out.mono HBW.out.size)
    clear G4 G5 HRL HRP HBW HVB
    generalize hcode : prC ls r = pC at *
    generalize hrows : prL ls r = pL at *
    obtain ⟨c50, c51, _, _, z5⟩ := two_at hg5
    have G4 := Lib.hid hg4; have G5 := Lib.hid hg5; have HRL := Lib.hid hrl; have HRP := Lib.hid hrp; have HBW := Lib.hid hbW; have HPC := Lib.hid hcode; have HPL := Lib.hid hrows
    clear hg4 hg5 hrl hrp hbW hcode hrows
    clear hv0
    clear hv1
    clear hv2
    clear hv3
    clear hv4
    clear hv5
    clear hv6
    clear hv7
    clear hv8
    generalize v8 = V at *
    by_cases hp0 : pC = 0
    · have hpb : (pC != 0) = false := by simp [hp0]
      have HP0 := Lib.hid hp0; clear hp0
      have hput := put_ok (HPC.out.trans HP0.out) HPL.out
      have HPU := Lib.hid hput; have hpl := hput.len; clear hput
      go_wp2_with fail
      go_loopw [13] (fun i wr => ∃ k : Nat, k ≤ ls.length ∧ i = .int .i64 k ∧ Hid (Below V.heap.size V wr)) (fun i _ => ls.length - (intOf i).toNat)
      case atStart => exact ⟨0, Nat.zero_le _, rfl, Below.refl _ _⟩
      case round =>
        obtain ⟨k, hk, rfl, hbel⟩ := hrel
        have GR4 := Lib.hid ((hbel.out.block _ (heap_lt G4.out)).trans G4.out)
        have GR5 := Lib.hid ((hbel.out.block _ (heap_lt G5.out)).trans G5.out)
        have HRPW := Lib.hid (HRP.out.below' hbel.out)
        have HRLW := Lib.hid (HRL.out.below' hbel.out)
        have HBWW := Lib.hid (HBW.out.trans (hbel.out.mono HBW.out.size))
        clear c50 c51 z5
        by_cases hlt : k < ls.length
        · obtain ⟨b, off, hA, _, hbl, p0, p1, p2, p3⟩ := HRLW.out.row_at hlt
          subst hA
          have hxm : ls[k] ∈ ls := List.getElem_mem hlt
          have hi0 : (0 : Int) ≤ (k : Int) := by omega
          have hi1 : (k : Int) < (ls.length : Int) := by omega
          generalize ls[k] = x at *
          have HXM := Lib.hid hxm; have P0 := Lib.hid p0; have P1 := Lib.hid p1; have P2 := Lib.hid p2; have P3 := Lib.hid p3
          have HWX := Lib.hid ((HML.out x hxm).wf)
          clear hxm p0 p1 p2 p3
          by_cases e1 : x.1 = r.1
          · have hd1 : (x.1 != r.1) = false := by simp [e1]
            by_cases e2 : x.2.1 = r.2.1
            · have hd2 : (x.2.1 != r.2.1) = false := by simp [e2]
              clear e1 e2
              go_wp2_with fail
              have hld : ∀ w', Below wr.heap.size wr w' → w'.cell? ⟨b, off + k * 4, none⟩ = some (.int .i64 x.1) ∧ w'.cell? ⟨b, off + k * 4 + 1, none⟩ = some (.int .i64 x.2.1) ∧ w'.cell? ⟨b, off + k * 4 + 2, none⟩ = some (.int .i64 x.2.2.1) ∧ w'.cell? ⟨b, off + k * 4 + 3, none⟩ = some (.int .i64 x.2.2.2) ∧ w'.cell? ⟨g4, 0, none⟩ = some (.int .i64 r.1) ∧ w'.cell? ⟨g4, 1, none⟩ = some (.int .i64 r.2.1) ∧ w'.cell? ⟨g5, 1, none⟩ = some (.slice Ap pL.length cp) := fun w' h => by have p1 := row_kept h GR4.out; have p2 := two_kept h GR5.out; exact ⟨(h.cell (p := ⟨b, _, none⟩) hbl).trans P0.out, (h.cell (p := ⟨b, _, none⟩) hbl).trans P1.out, (h.cell (p := ⟨b, _, none⟩) hbl).trans P2.out, (h.cell (p := ⟨b, _, none⟩) hbl).trans P3.out, p1.1, p1.2.1, p2.2⟩
              have HLD := Lib.hid hld; clear hld
              refine wp_region_sched (fun w' => Below wr.heap.size wr w') [(0, true), (1, true), (2, true), (3, true), (4, true), (5, true), (6, true), (7, true), (8, true), (9, true), (10, true), (11, true), (12, true), (13, true), (14, true), (15, true), (16, true), (17, true), (18, true), (19, true), (20, true), (21, true), (22, true), (23, true), (24, true), (25, true), (26, true), (27, true), (28, true), (29, true), (30, true), (33, true), (34, true), (35, true), (36, true), (31, false), (32, true), (37, true), (38, true)] (by kernel_rfl) (by kernel_rfl) (by kernel_rfl) (by kernel_rfl) (fun _ _ d _ _ h => by cases d <;> exact h) ⟨rfl, rfl, rfl, Nat.le_refl _, fun _ _ => rfl⟩ ?_
              simp only [opsOf, List.filterMap_cons, List.filterMap_nil, Option.map_some, List.getElem?_toArray, List.getElem?_cons_zero, List.getElem?_cons_succ]
              generalize hW0 : ({ heap := wr.heap, tape := wr.tape, drawn := wr.drawn + 1, os := wr.os, output := wr.output } : World) = s0
              have hs0 : Below wr.heap.size wr s0 := by rw [← hW0]; exact ⟨rfl, rfl, rfl, Nat.le_refl _, fun _ _ => rfl⟩
              clear hW0
              -- 0: Op.move
              refine sched_run (v := ?_) (by rfl) ?_ ?_
              rotate_left
              · (intro w' hS'; go_simp; try with_reducible rfl)
              try simp only [Act.put, List.setIfInBounds_toArray, List.set_cons_zero, List.set_cons_succ]
              -- 1: Op.move
              refine sched_run (v := ?_) (by rfl) ?_ ?_
              rotate_left
              · (intro w' hS'; go_simp; try with_reducible rfl)
              try simp only [Act.put, List.setIfInBounds_toArray, List.set_cons_zero, List.set_cons_succ]
              -- 2: Op.indexAddr
              refine sched_run (v := ?_) (by rfl) ?_ ?_
              rotate_left
              · (intro w' hS'; go_simp; try with_reducible rfl)
              try simp only [Act.put, List.setIfInBounds_toArray, List.set_cons_zero, List.set_cons_succ]
              -- 3: Op.fieldAddr
              refine sched_run (v := ?_) (by rfl) ?_ ?_
              rotate_left
              · (intro w' hS'; go_simp; try with_reducible rfl)
              try simp only [Act.put, List.setIfInBounds_toArray, List.set_cons_zero, List.set_cons_succ]
              -- 4: Op.load
              refine sched_run (v := ?_) (by rfl) ?_ ?_
              rotate_left
              · (intro w' hS'; obtain ⟨x0, x1, x2, x3, a0, a1, b1⟩ := HLD.out w' hS'; go_simp; try with_reducible rfl)
              try simp only [Act.put, List.setIfInBounds_toArray, List.set_cons_zero, List.set_cons_succ]
              -- 5: Op.fieldAddr
              refine sched_run (v := ?_) (by rfl) ?_ ?_
              rotate_left
              · (intro w' hS'; go_simp; try with_reducible rfl)
              try simp only [Act.put, List.setIfInBounds_toArray, List.set_cons_zero, List.set_cons_succ]
              -- 6: Op.load
              refine sched_run (v := ?_) (by rfl) ?_ ?_
              rotate_left
              · (intro w' hS'; obtain ⟨x0, x1, x2, x3, a0, a1, b1⟩ := HLD.out w' hS'; go_simp; try with_reducible rfl)
              try simp only [Act.put, List.setIfInBounds_toArray, List.set_cons_zero, List.set_cons_succ]
              -- 7: Op.binOp
              refine sched_run (v := ?_) (by rfl) ?_ ?_
              rotate_left
              · (intro w' hS'; go_simp; try with_reducible rfl)
              try simp only [Act.put, List.setIfInBounds_toArray, List.set_cons_zero, List.set_cons_succ]
              -- 8: Op.move
              refine sched_run (v := ?_) (by rfl) ?_ ?_
              rotate_left
              · (intro w' hS'; go_simp; try with_reducible rfl)
              try simp only [Act.put, List.setIfInBounds_toArray, List.set_cons_zero, List.set_cons_succ]
              -- 9: Op.move
              refine sched_run (v := ?_) (by rfl) ?_ ?_
              rotate_left
              · (intro w' hS'; go_simp; try with_reducible rfl)
              try simp only [Act.put, List.setIfInBounds_toArray, List.set_cons_zero, List.set_cons_succ]
              -- 10: Op.move
              refine sched_run (v := ?_) (by rfl) ?_ ?_
              rotate_left
              · (intro w' hS'; go_simp; try with_reducible rfl)
              try simp only [Act.put, List.setIfInBounds_toArray, List.set_cons_zero, List.set_cons_succ]
              -- 11: Op.indexAddr
              refine sched_run (v := ?_) (by rfl) ?_ ?_
              rotate_left
              · (intro w' hS'; go_simp; try with_reducible rfl)
              try simp only [Act.put, List.setIfInBounds_toArray, List.set_cons_zero, List.set_cons_succ]
              -- 12: Op.fieldAddr
              refine sched_run (v := ?_) (by rfl) ?_ ?_
              rotate_left
              · (intro w' hS'; go_simp; try with_reducible rfl)
              try simp only [Act.put, List.setIfInBounds_toArray, List.set_cons_zero, List.set_cons_succ]
              -- 13: Op.load
              refine sched_run (v := ?_) (by rfl) ?_ ?_
              rotate_left
              · (intro w' hS'; obtain ⟨x0, x1, x2, x3, a0, a1, b1⟩ := HLD.out w' hS'; go_simp; try with_reducible rfl)
              try simp only [Act.put, List.setIfInBounds_toArray, List.set_cons_zero, List.set_cons_succ]
              -- 14: Op.fieldAddr
              refine sched_run (v := ?_) (by rfl) ?_ ?_
              rotate_left
              · (intro w' hS'; go_simp; try with_reducible rfl)
              try simp only [Act.put, List.setIfInBounds_toArray, List.set_cons_zero, List.set_cons_succ]
              -- 15: Op.load
              refine sched_run (v := ?_) (by rfl) ?_ ?_
              rotate_left
              · (intro w' hS'; obtain ⟨x0, x1, x2, x3, a0, a1, b1⟩ := HLD.out w' hS'; go_simp; try with_reducible rfl)
              try simp only [Act.put, List.setIfInBounds_toArray, List.set_cons_zero, List.set_cons_succ]
              -- 16: Op.binOp
              refine sched_run (v := ?_) (by rfl) ?_ ?_
              rotate_left
              · (intro w' hS'; go_simp; try with_reducible rfl)
              try simp only [Act.put, List.setIfInBounds_toArray, List.set_cons_zero, List.set_cons_succ]
              -- 17: Op.pick
              refine sched_run (v := ?_) (by rfl) ?_ ?_
              rotate_left
              · (intro w' hS'; go_simp; try with_reducible rfl)
              try simp only [Act.put, List.setIfInBounds_toArray, List.set_cons_zero, List.set_cons_succ]
              -- 18: Op.move
              refine sched_run (v := ?_) (by rfl) ?_ ?_
              rotate_left
              · (intro w' hS'; go_simp; try with_reducible rfl)
              try simp only [Act.put, List.setIfInBounds_toArray, List.set_cons_zero, List.set_cons_succ]
              -- 19: Op.fieldAddr
              refine sched_skip (by rfl) ?_
              try simp only [Act.put, List.setIfInBounds_toArray, List.set_cons_zero, List.set_cons_succ]
              -- 20: Op.load
              refine sched_skip (by rfl) ?_
              try simp only [Act.put, List.setIfInBounds_toArray, List.set_cons_zero, List.set_cons_succ]
              -- 21: Op.move
              refine sched_skip (by rfl) ?_
              try simp only [Act.put, List.setIfInBounds_toArray, List.set_cons_zero, List.set_cons_succ]
              -- 22: Op.move
              refine sched_skip (by rfl) ?_
              try simp only [Act.put, List.setIfInBounds_toArray, List.set_cons_zero, List.set_cons_succ]
              -- 23: Op.indexAddr
              refine sched_skip (by rfl) ?_
              try simp only [Act.put, List.setIfInBounds_toArray, List.set_cons_zero, List.set_cons_succ]
              -- 24: Op.fieldAddr
              refine sched_skip (by rfl) ?_
              try simp only [Act.put, List.setIfInBounds_toArray, List.set_cons_zero, List.set_cons_succ]
              -- 25: Op.load
              refine sched_skip (by rfl) ?_
              try simp only [Act.put, List.setIfInBounds_toArray, List.set_cons_zero, List.set_cons_succ]
              -- 26: Op.move
              refine sched_skip (by rfl) ?_
              try simp only [Act.put, List.setIfInBounds_toArray, List.set_cons_zero, List.set_cons_succ]
              -- 27: Op.move
              refine sched_skip (by rfl) ?_
              try simp only [Act.put, List.setIfInBounds_toArray, List.set_cons_zero, List.set_cons_succ]
              -- 28: Op.indexAddr
              refine sched_skip (by rfl) ?_
              try simp only [Act.put, List.setIfInBounds_toArray, List.set_cons_zero, List.set_cons_succ]
              -- 29: Op.fieldAddr
              refine sched_skip (by rfl) ?_
              try simp only [Act.put, List.setIfInBounds_toArray, List.set_cons_zero, List.set_cons_succ]
              -- 30: Op.load
              refine sched_skip (by rfl) ?_
              try simp only [Act.put, List.setIfInBounds_toArray, List.set_cons_zero, List.set_cons_succ]
              -- 33: Op.move
              refine sched_skip (by rfl) ?_
              try simp only [Act.put, List.setIfInBounds_toArray, List.set_cons_zero, List.set_cons_succ]
              -- 34: Op.move
              refine sched_skip (by rfl) ?_
              try simp only [Act.put, List.setIfInBounds_toArray, List.set_cons_zero, List.set_cons_succ]
              -- 35: Op.indexAddr
              refine sched_skip (by rfl) ?_
              try simp only [Act.put, List.setIfInBounds_toArray, List.set_cons_zero, List.set_cons_succ]
              -- 36: Op.load
              refine sched_skip (by rfl) ?_
              try simp only [Act.put, List.setIfInBounds_toArray, List.set_cons_zero, List.set_cons_succ]
              -- 31: Op.call
              refine sched_skip' (by rfl) ?_
              try simp only [Act.put, List.setIfInBounds_toArray, List.set_cons_zero, List.set_cons_succ]
              -- 32: Op.field
              refine sched_skip (by rfl) ?_
              try simp only [Act.put, List.setIfInBounds_toArray, List.set_cons_zero, List.set_cons_succ]
              -- 37: Op.binOp
              refine sched_skip (by rfl) ?_
              try simp only [Act.put, List.setIfInBounds_toArray, List.set_cons_zero, List.set_cons_succ]
              -- 38: Op.pick
              refine sched_run (v := ?_) (by rfl) ?_ ?_
              rotate_left
              · (intro w' hS'; go_simp; try with_reducible rfl)
              try simp only [Act.put, List.setIfInBounds_toArray, List.set_cons_zero, List.set_cons_succ]
              refine sched_done ?_
              have HLAST := Lib.hid (hbel.out.trans (hs0.mono hbel.out.size))
              go_wp2_with fail
              exact ⟨⟨k + 1, by omega, by go_num, HLAST.out⟩, by simp [intOf]; omega⟩
            · have hd2 : (x.2.1 != r.2.1) = true := by simpa using e2
              have HFD := Lib.hid (HPU.out.other x HXM.out (fun h => e2 h.2))
              clear e1 e2
              go_wp2_with fail
              have hld : ∀ w', Below wr.heap.size wr w' → w'.cell? ⟨b, off + k * 4, none⟩ = some (.int .i64 x.1) ∧ w'.cell? ⟨b, off + k * 4 + 1, none⟩ = some (.int .i64 x.2.1) ∧ w'.cell? ⟨b, off + k * 4 + 2, none⟩ = some (.int .i64 x.2.2.1) ∧ w'.cell? ⟨b, off + k * 4 + 3, none⟩ = some (.int .i64 x.2.2.2) ∧ w'.cell? ⟨g4, 0, none⟩ = some (.int .i64 r.1) ∧ w'.cell? ⟨g4, 1, none⟩ = some (.int .i64 r.2.1) ∧ w'.cell? ⟨g5, 1, none⟩ = some (.slice Ap pL.length cp) := fun w' h => by have p1 := row_kept h GR4.out; have p2 := two_kept h GR5.out; exact ⟨(h.cell (p := ⟨b, _, none⟩) hbl).trans P0.out, (h.cell (p := ⟨b, _, none⟩) hbl).trans P1.out, (h.cell (p := ⟨b, _, none⟩) hbl).trans P2.out, (h.cell (p := ⟨b, _, none⟩) hbl).trans P3.out, p1.1, p1.2.1, p2.2⟩
              have HLD := Lib.hid hld; clear hld
              refine wp_region_sched (fun w' => Below wr.heap.size wr w') [(0, true), (1, true), (2, true), (3, true), (4, true), (5, true), (6, true), (7, true), (8, true), (9, true), (10, true), (11, true), (12, true), (13, true), (14, true), (15, true), (16, true), (17, true), (18, true), (19, true), (20, true), (21, true), (22, true), (23, true), (24, true), (25, true), (26, true), (27, true), (28, true), (29, true), (30, true), (33, true), (34, true), (35, true), (36, true), (31, false), (32, true), (37, true), (38, true)] (by kernel_rfl) (by kernel_rfl) (by kernel_rfl) (by kernel_rfl) (fun _ _ d _ _ h => by cases d <;> exact h) ⟨rfl, rfl, rfl, Nat.le_refl _, fun _ _ => rfl⟩ ?_
              simp only [opsOf, List.filterMap_cons, List.filterMap_nil, Option.map_some, List.getElem?_toArray, List.getElem?_cons_zero, List.getElem?_cons_succ]
              generalize hW0 : ({ heap := wr.heap, tape := wr.tape, drawn := wr.drawn + 1, os := wr.os, output := wr.output } : World) = s0
              have hs0 : Below wr.heap.size wr s0 := by rw [← hW0]; exact ⟨rfl, rfl, rfl, Nat.le_refl _, fun _ _ => rfl⟩
              clear hW0
              -- 0: Op.move
              refine sched_run (v := ?_) (by rfl) ?_ ?_
              rotate_left
              · (intro w' hS'; go_simp; try with_reducible rfl)
              try simp only [Act.put, List.setIfInBounds_toArray, List.set_cons_zero, List.set_cons_succ]
              -- 1: Op.move
              refine sched_run (v := ?_) (by rfl) ?_ ?_
              rotate_left
              · (intro w' hS'; go_simp; try with_reducible rfl)
              try simp only [Act.put, List.setIfInBounds_toArray, List.set_cons_zero, List.set_cons_succ]
              -- 2: Op.indexAddr
              refine sched_run (v := ?_) (by rfl) ?_ ?_
              rotate_left
              · (intro w' hS'; go_simp; try with_reducible rfl)
              try simp only [Act.put, List.setIfInBounds_toArray, List.set_cons_zero, List.set_cons_succ]
              -- 3: Op.fieldAddr
              refine sched_run (v := ?_) (by rfl) ?_ ?_
              rotate_left
              · (intro w' hS'; go_simp; try with_reducible rfl)
              try simp only [Act.put, List.setIfInBounds_toArray, List.set_cons_zero, List.set_cons_succ]
              -- 4: Op.load
              refine sched_run (v := ?_) (by rfl) ?_ ?_
              rotate_left
              · (intro w' hS'; obtain ⟨x0, x1, x2, x3, a0, a1, b1⟩ := HLD.out w' hS'; go_simp; try with_reducible rfl)
              try simp only [Act.put, List.setIfInBounds_toArray, List.set_cons_zero, List.set_cons_succ]
              -- 5: Op.fieldAddr
              refine sched_run (v := ?_) (by rfl) ?_ ?_
              rotate_left
              · (intro w' hS'; go_simp; try with_reducible rfl)
              try simp only [Act.put, List.setIfInBounds_toArray, List.set_cons_zero, List.set_cons_succ]
              -- 6: Op.load
              refine sched_run (v := ?_) (by rfl) ?_ ?_
              rotate_left
              · (intro w' hS'; obtain ⟨x0, x1, x2, x3, a0, a1, b1⟩ := HLD.out w' hS'; go_simp; try with_reducible rfl)
              try simp only [Act.put, List.setIfInBounds_toArray, List.set_cons_zero, List.set_cons_succ]
              -- 7: Op.binOp
              refine sched_run (v := ?_) (by rfl) ?_ ?_
              rotate_left
              · (intro w' hS'; go_simp; try with_reducible rfl)
              try simp only [Act.put, List.setIfInBounds_toArray, List.set_cons_zero, List.set_cons_succ]
              -- 8: Op.move
              refine sched_run (v := ?_) (by rfl) ?_ ?_
              rotate_left
              · (intro w' hS'; go_simp; try with_reducible rfl)
              try simp only [Act.put, List.setIfInBounds_toArray, List.set_cons_zero, List.set_cons_succ]
              -- 9: Op.move
              refine sched_run (v := ?_) (by rfl) ?_ ?_
              rotate_left
              · (intro w' hS'; go_simp; try with_reducible rfl)
              try simp only [Act.put, List.setIfInBounds_toArray, List.set_cons_zero, List.set_cons_succ]
              -- 10: Op.move
              refine sched_run (v := ?_) (by rfl) ?_ ?_
              rotate_left
              · (intro w' hS'; go_simp; try with_reducible rfl)
              try simp only [Act.put, List.setIfInBounds_toArray, List.set_cons_zero, List.set_cons_succ]
              -- 11: Op.indexAddr
              refine sched_run (v := ?_) (by rfl) ?_ ?_
              rotate_left
              · (intro w' hS'; go_simp; try with_reducible rfl)
              try simp only [Act.put, List.setIfInBounds_toArray, List.set_cons_zero, List.set_cons_succ]
              -- 12: Op.fieldAddr
              refine sched_run (v := ?_) (by rfl) ?_ ?_
              rotate_left
              · (intro w' hS'; go_simp; try with_reducible rfl)
              try simp only [Act.put, List.setIfInBounds_toArray, List.set_cons_zero, List.set_cons_succ]
              -- 13: Op.load
              refine sched_run (v := ?_) (by rfl) ?_ ?_
              rotate_left
              · (intro w' hS'; obtain ⟨x0, x1, x2, x3, a0, a1, b1⟩ := HLD.out w' hS'; go_simp; try with_reducible rfl)
              try simp only [Act.put, List.setIfInBounds_toArray, List.set_cons_zero, List.set_cons_succ]
              -- 14: Op.fieldAddr
              refine sched_run (v := ?_) (by rfl) ?_ ?_
              rotate_left
              · (intro w' hS'; go_simp; try with_reducible rfl)
              try simp only [Act.put, List.setIfInBounds_toArray, List.set_cons_zero, List.set_cons_succ]
              -- 15: Op.load
              refine sched_run (v := ?_) (by rfl) ?_ ?_
              rotate_left
              · (intro w' hS'; obtain ⟨x0, x1, x2, x3, a0, a1, b1⟩ := HLD.out w' hS'; go_simp; try with_reducible rfl)
              try simp only [Act.put, List.setIfInBounds_toArray, List.set_cons_zero, List.set_cons_succ]
              -- 16: Op.binOp
              refine sched_run (v := ?_) (by rfl) ?_ ?_
              rotate_left
              · (intro w' hS'; go_simp; try with_reducible rfl)
              try simp only [Act.put, List.setIfInBounds_toArray, List.set_cons_zero, List.set_cons_succ]
              -- 17: Op.pick
              refine sched_run (v := ?_) (by rfl) ?_ ?_
              rotate_left
              · (intro w' hS'; go_simp; try with_reducible rfl)
              try simp only [Act.put, List.setIfInBounds_toArray, List.set_cons_zero, List.set_cons_succ]
              -- 18: Op.move
              refine sched_run (v := ?_) (by rfl) ?_ ?_
              rotate_left
              · (intro w' hS'; go_simp; try with_reducible rfl)
              try simp only [Act.put, List.setIfInBounds_toArray, List.set_cons_zero, List.set_cons_succ]
              -- 19: Op.fieldAddr
              refine sched_run (v := ?_) (by rfl) ?_ ?_
              rotate_left
              · (intro w' hS'; go_simp; try with_reducible rfl)
              try simp only [Act.put, List.setIfInBounds_toArray, List.set_cons_zero, List.set_cons_succ]
              -- 20: Op.load
              refine sched_run (v := ?_) (by rfl) ?_ ?_
              rotate_left
              · (intro w' hS'; obtain ⟨x0, x1, x2, x3, a0, a1, b1⟩ := HLD.out w' hS'; go_simp; try with_reducible rfl)
              try simp only [Act.put, List.setIfInBounds_toArray, List.set_cons_zero, List.set_cons_succ]
              -- 21: Op.move
              refine sched_run (v := ?_) (by rfl) ?_ ?_
              rotate_left
              · (intro w' hS'; go_simp; try with_reducible rfl)
              try simp only [Act.put, List.setIfInBounds_toArray, List.set_cons_zero, List.set_cons_succ]
              -- 22: Op.move
              refine sched_run (v := ?_) (by rfl) ?_ ?_
              rotate_left
              · (intro w' hS'; go_simp; try with_reducible rfl)
              try simp only [Act.put, List.setIfInBounds_toArray, List.set_cons_zero, List.set_cons_succ]
              -- 23: Op.indexAddr
              refine sched_run (v := ?_) (by rfl) ?_ ?_
              rotate_left
              · (intro w' hS'; go_simp; try with_reducible rfl)
              try simp only [Act.put, List.setIfInBounds_toArray, List.set_cons_zero, List.set_cons_succ]
              -- 24: Op.fieldAddr
              refine sched_run (v := ?_) (by rfl) ?_ ?_
              rotate_left
              · (intro w' hS'; go_simp; try with_reducible rfl)
              try simp only [Act.put, List.setIfInBounds_toArray, List.set_cons_zero, List.set_cons_succ]
              -- 25: Op.load
              refine sched_run (v := ?_) (by rfl) ?_ ?_
              rotate_left
              · (intro w' hS'; obtain ⟨x0, x1, x2, x3, a0, a1, b1⟩ := HLD.out w' hS'; go_simp; try with_reducible rfl)
              try simp only [Act.put, List.setIfInBounds_toArray, List.set_cons_zero, List.set_cons_succ]
              -- 26: Op.move
              refine sched_run (v := ?_) (by rfl) ?_ ?_
              rotate_left
              · (intro w' hS'; go_simp; try with_reducible rfl)
              try simp only [Act.put, List.setIfInBounds_toArray, List.set_cons_zero, List.set_cons_succ]
              -- 27: Op.move
              refine sched_run (v := ?_) (by rfl) ?_ ?_
              rotate_left
              · (intro w' hS'; go_simp; try with_reducible rfl)
              try simp only [Act.put, List.setIfInBounds_toArray, List.set_cons_zero, List.set_cons_succ]
              -- 28: Op.indexAddr
              refine sched_run (v := ?_) (by rfl) ?_ ?_
              rotate_left
              · (intro w' hS'; go_simp; try with_reducible rfl)
              try simp only [Act.put, List.setIfInBounds_toArray, List.set_cons_zero, List.set_cons_succ]
              -- 29: Op.fieldAddr
              refine sched_run (v := ?_) (by rfl) ?_ ?_
              rotate_left
              · (intro w' hS'; go_simp; try with_reducible rfl)
              try simp only [Act.put, List.setIfInBounds_toArray, List.set_cons_zero, List.set_cons_succ]
              -- 30: Op.load
              refine sched_run (v := ?_) (by rfl) ?_ ?_
              rotate_left
              · (intro w' hS'; obtain ⟨x0, x1, x2, x3, a0, a1, b1⟩ := HLD.out w' hS'; go_simp; try with_reducible rfl)
              try simp only [Act.put, List.setIfInBounds_toArray, List.set_cons_zero, List.set_cons_succ]
              -- 33: Op.move
              refine sched_run (v := ?_) (by rfl) ?_ ?_
              rotate_left
              · (intro w' hS'; go_simp; try with_reducible rfl)
              try simp only [Act.put, List.setIfInBounds_toArray, List.set_cons_zero, List.set_cons_succ]
              -- 34: Op.move
              refine sched_run (v := ?_) (by rfl) ?_ ?_
              rotate_left
              · (intro w' hS'; go_simp; try with_reducible rfl)
              try simp only [Act.put, List.setIfInBounds_toArray, List.set_cons_zero, List.set_cons_succ]
              -- 35: Op.indexAddr
              refine sched_run (v := ?_) (by rfl) ?_ ?_
              rotate_left
              · (intro w' hS'; go_simp; try with_reducible rfl)
              try simp only [Act.put, List.setIfInBounds_toArray, List.set_cons_zero, List.set_cons_succ]
              -- 36: Op.load
              refine sched_run (v := ?_) (by rfl) ?_ ?_
              rotate_left
              · (intro w' hS'; obtain ⟨x0, x1, x2, x3, a0, a1, b1⟩ := HLD.out w' hS'; go_simp; try with_reducible rfl)
              try simp only [Act.put, List.setIfInBounds_toArray, List.set_cons_zero, List.set_cons_succ]
              -- 31: Op.call
              refine sched_call (by rfl) (fun K hK => ?_)
              go_simp
              refine (implFindRow_a Ap cp pL x.1 x.2.1 _ fpp (by omega) (wfs_of_rowsF HPU.out.new) HWX.out.1 HWX.out.2.1 (HRPW.out.below' hs0)).mono ?_
              rintro e s1 ⟨rfl, hbs0⟩
              have hs1 : Below wr.heap.size wr s1 := hs0.trans (hbs0.mono hs0.size)
              rw [HFD.out.1, HFD.out.2]
              clear hbs0
              refine hK _ _ hs1 ?_
              try simp only [Act.put, List.setIfInBounds_toArray, List.set_cons_zero, List.set_cons_succ]
              -- 32: Op.field
              refine sched_run (v := ?_) (by rfl) ?_ ?_
              rotate_left
              · (intro w' hS'; go_simp; try with_reducible rfl)
              try simp only [Act.put, List.setIfInBounds_toArray, List.set_cons_zero, List.set_cons_succ]
              -- 37: Op.binOp
              refine sched_run (v := ?_) (by rfl) ?_ ?_
              rotate_left
              · (intro w' hS'; go_simp; try with_reducible rfl)
              try simp only [Act.put, List.setIfInBounds_toArray, List.set_cons_zero, List.set_cons_succ]
              -- 38: Op.pick
              refine sched_run (v := ?_) (by rfl) ?_ ?_
              rotate_left
              · (intro w' hS'; go_simp; try with_reducible rfl)
              try simp only [Act.put, List.setIfInBounds_toArray, List.set_cons_zero, List.set_cons_succ]
              refine sched_done ?_
              have HLAST := Lib.hid (hbel.out.trans (hs1.mono hbel.out.size))
              go_wp2_with fail
              exact ⟨⟨k + 1, by omega, by go_num, HLAST.out⟩, by simp [intOf]; omega⟩
          · have hd1 : (x.1 != r.1) = true := by simpa using e1
            have HFD := Lib.hid (HPU.out.other x HXM.out (fun h => e1 h.1))
            clear e1
            go_wp2_with fail
            have hld : ∀ w', Below wr.heap.size wr w' → w'.cell? ⟨b, off + k * 4, none⟩ = some (.int .i64 x.1) ∧ w'.cell? ⟨b, off + k * 4 + 1, none⟩ = some (.int .i64 x.2.1) ∧ w'.cell? ⟨b, off + k * 4 + 2, none⟩ = some (.int .i64 x.2.2.1) ∧ w'.cell? ⟨b, off + k * 4 + 3, none⟩ = some (.int .i64 x.2.2.2) ∧ w'.cell? ⟨g4, 0, none⟩ = some (.int .i64 r.1) ∧ w'.cell? ⟨g4, 1, none⟩ = some (.int .i64 r.2.1) ∧ w'.cell? ⟨g5, 1, none⟩ = some (.slice Ap pL.length cp) := fun w' h => by have p1 := row_kept h GR4.out; have p2 := two_kept h GR5.out; exact ⟨(h.cell (p := ⟨b, _, none⟩) hbl).trans P0.out, (h.cell (p := ⟨b, _, none⟩) hbl).trans P1.out, (h.cell (p := ⟨b, _, none⟩) hbl).trans P2.out, (h.cell (p := ⟨b, _, none⟩) hbl).trans P3.out, p1.1, p1.2.1, p2.2⟩
            have HLD := Lib.hid hld; clear hld
            refine wp_region_sched (fun w' => Below wr.heap.size wr w') [(0, true), (1, true), (2, true), (3, true), (4, true), (5, true), (6, true), (7, true), (8, true), (9, true), (10, true), (11, true), (12, true), (13, true), (14, true), (15, true), (16, true), (17, true), (18, true), (19, true), (20, true), (21, true), (22, true), (23, true), (24, true), (25, true), (26, true), (27, true), (28, true), (29, true), (30, true), (33, true), (34, true), (35, true), (36, true), (31, false), (32, true), (37, true), (38, true)] (by kernel_rfl) (by kernel_rfl) (by kernel_rfl) (by kernel_rfl) (fun _ _ d _ _ h => by cases d <;> exact h) ⟨rfl, rfl, rfl, Nat.le_refl _, fun _ _ => rfl⟩ ?_
            simp only [opsOf, List.filterMap_cons, List.filterMap_nil, Option.map_some, List.getElem?_toArray, List.getElem?_cons_zero, List.getElem?_cons_succ]
            generalize hW0 : ({ heap := wr.heap, tape := wr.tape, drawn := wr.drawn + 1, os := wr.os, output := wr.output } : World) = s0
            have hs0 : Below wr.heap.size wr s0 := by rw [← hW0]; exact ⟨rfl, rfl, rfl, Nat.le_refl _, fun _ _ => rfl⟩
            clear hW0
            -- 0: Op.move
            refine sched_run (v := ?_) (by rfl) ?_ ?_
            rotate_left
            · (intro w' hS'; go_simp; try with_reducible rfl)
            try simp only [Act.put, List.setIfInBounds_toArray, List.set_cons_zero, List.set_cons_succ]
            -- 1: Op.move
            refine sched_run (v := ?_) (by rfl) ?_ ?_
            rotate_left
            · (intro w' hS'; go_simp; try with_reducible rfl)
            try simp only [Act.put, List.setIfInBounds_toArray, List.set_cons_zero, List.set_cons_succ]
            -- 2: Op.indexAddr
            refine sched_run (v := ?_) (by rfl) ?_ ?_
            rotate_left
            · (intro w' hS'; go_simp; try with_reducible rfl)
            try simp only [Act.put, List.setIfInBounds_toArray, List.set_cons_zero, List.set_cons_succ]
            -- 3: Op.fieldAddr
            refine sched_run (v := ?_) (by rfl) ?_ ?_
            rotate_left
            · (intro w' hS'; go_simp; try with_reducible rfl)
            try simp only [Act.put, List.setIfInBounds_toArray, List.set_cons_zero, List.set_cons_succ]
            -- 4: Op.load
            refine sched_run (v := ?_) (by rfl) ?_ ?_
            rotate_left
            · (intro w' hS'; obtain ⟨x0, x1, x2, x3, a0, a1, b1⟩ := HLD.out w' hS'; go_simp; try with_reducible rfl)
            try simp only [Act.put, List.setIfInBounds_toArray, List.set_cons_zero, List.set_cons_succ]
            -- 5: Op.fieldAddr
            refine sched_run (v := ?_) (by rfl) ?_ ?_
            rotate_left
            · (intro w' hS'; go_simp; try with_reducible rfl)
            try simp only [Act.put, List.setIfInBounds_toArray, List.set_cons_zero, List.set_cons_succ]
            -- 6: Op.load
            refine sched_run (v := ?_) (by rfl) ?_ ?_
            rotate_left
            · (intro w' hS'; obtain ⟨x0, x1, x2, x3, a0, a1, b1⟩ := HLD.out w' hS'; go_simp; try with_reducible rfl)
            try simp only [Act.put, List.setIfInBounds_toArray, List.set_cons_zero, List.set_cons_succ]
            -- 7: Op.binOp
            refine sched_run (v := ?_) (by rfl) ?_ ?_
            rotate_left
            · (intro w' hS'; go_simp; try with_reducible rfl)
            try simp only [Act.put, List.setIfInBounds_toArray, List.set_cons_zero, List.set_cons_succ]
            -- 8: Op.move
            refine sched_run (v := ?_) (by rfl) ?_ ?_
            rotate_left
            · (intro w' hS'; go_simp; try with_reducible rfl)
            try simp only [Act.put, List.setIfInBounds_toArray, List.set_cons_zero, List.set_cons_succ]
            -- 9: Op.move
            refine sched_skip (by rfl) ?_
            try simp only [Act.put, List.setIfInBounds_toArray, List.set_cons_zero, List.set_cons_succ]
            -- 10: Op.move
            refine sched_skip (by rfl) ?_
            try simp only [Act.put, List.setIfInBounds_toArray, List.set_cons_zero, List.set_cons_succ]
            -- 11: Op.indexAddr
            refine sched_skip (by rfl) ?_
            try simp only [Act.put, List.setIfInBounds_toArray, List.set_cons_zero, List.set_cons_succ]
            -- 12: Op.fieldAddr
            refine sched_skip (by rfl) ?_
            try simp only [Act.put, List.setIfInBounds_toArray, List.set_cons_zero, List.set_cons_succ]
            -- 13: Op.load
            refine sched_skip (by rfl) ?_
            try simp only [Act.put, List.setIfInBounds_toArray, List.set_cons_zero, List.set_cons_succ]
            -- 14: Op.fieldAddr
            refine sched_skip (by rfl) ?_
            try simp only [Act.put, List.setIfInBounds_toArray, List.set_cons_zero, List.set_cons_succ]
            -- 15: Op.load
            refine sched_skip (by rfl) ?_
            try simp only [Act.put, List.setIfInBounds_toArray, List.set_cons_zero, List.set_cons_succ]
            -- 16: Op.binOp
            refine sched_skip (by rfl) ?_
            try simp only [Act.put, List.setIfInBounds_toArray, List.set_cons_zero, List.set_cons_succ]
            -- 17: Op.pick
            refine sched_run (v := ?_) (by rfl) ?_ ?_
            rotate_left
            · (intro w' hS'; go_simp; try with_reducible rfl)
            try simp only [Act.put, List.setIfInBounds_toArray, List.set_cons_zero, List.set_cons_succ]
            -- 18: Op.move
            refine sched_run (v := ?_) (by rfl) ?_ ?_
            rotate_left
            · (intro w' hS'; go_simp; try with_reducible rfl)
            try simp only [Act.put, List.setIfInBounds_toArray, List.set_cons_zero, List.set_cons_succ]
            -- 19: Op.fieldAddr
            refine sched_run (v := ?_) (by rfl) ?_ ?_
            rotate_left
            · (intro w' hS'; go_simp; try with_reducible rfl)
            try simp only [Act.put, List.setIfInBounds_toArray, List.set_cons_zero, List.set_cons_succ]
            -- 20: Op.load
            refine sched_run (v := ?_) (by rfl) ?_ ?_
            rotate_left
            · (intro w' hS'; obtain ⟨x0, x1, x2, x3, a0, a1, b1⟩ := HLD.out w' hS'; go_simp; try with_reducible rfl)
            try simp only [Act.put, List.setIfInBounds_toArray, List.set_cons_zero, List.set_cons_succ]
            -- 21: Op.move
            refine sched_run (v := ?_) (by rfl) ?_ ?_
            rotate_left
            · (intro w' hS'; go_simp; try with_reducible rfl)
            try simp only [Act.put, List.setIfInBounds_toArray, List.set_cons_zero, List.set_cons_succ]
            -- 22: Op.move
            refine sched_run (v := ?_) (by rfl) ?_ ?_
            rotate_left
            · (intro w' hS'; go_simp; try with_reducible rfl)
            try simp only [Act.put, List.setIfInBounds_toArray, List.set_cons_zero, List.set_cons_succ]
            -- 23: Op.indexAddr
            refine sched_run (v := ?_) (by rfl) ?_ ?_
            rotate_left
            · (intro w' hS'; go_simp; try with_reducible rfl)
            try simp only [Act.put, List.setIfInBounds_toArray, List.set_cons_zero, List.set_cons_succ]
            -- 24: Op.fieldAddr
            refine sched_run (v := ?_) (by rfl) ?_ ?_
            rotate_left
            · (intro w' hS'; go_simp; try with_reducible rfl)
            try simp only [Act.put, List.setIfInBounds_toArray, List.set_cons_zero, List.set_cons_succ]
            -- 25: Op.load
            refine sched_run (v := ?_) (by rfl) ?_ ?_
            rotate_left
            · (intro w' hS'; obtain ⟨x0, x1, x2, x3, a0, a1, b1⟩ := HLD.out w' hS'; go_simp; try with_reducible rfl)
            try simp only [Act.put, List.setIfInBounds_toArray, List.set_cons_zero, List.set_cons_succ]
            -- 26: Op.move
            refine sched_run (v := ?_) (by rfl) ?_ ?_
            rotate_left
            · (intro w' hS'; go_simp; try with_reducible rfl)
            try simp only [Act.put, List.setIfInBounds_toArray, List.set_cons_zero, List.set_cons_succ]
            -- 27: Op.move
            refine sched_run (v := ?_) (by rfl) ?_ ?_
            rotate_left
            · (intro w' hS'; go_simp; try with_reducible rfl)
            try simp only [Act.put, List.setIfInBounds_toArray, List.set_cons_zero, List.set_cons_succ]
            -- 28: Op.indexAddr
            refine sched_run (v := ?_) (by rfl) ?_ ?_
            rotate_left
            · (intro w' hS'; go_simp; try with_reducible rfl)
            try simp only [Act.put, List.setIfInBounds_toArray, List.set_cons_zero, List.set_cons_succ]
            -- 29: Op.fieldAddr
            refine sched_run (v := ?_) (by rfl) ?_ ?_
            rotate_left
            · (intro w' hS'; go_simp; try with_reducible rfl)
            try simp only [Act.put, List.setIfInBounds_toArray, List.set_cons_zero, List.set_cons_succ]
            -- 30: Op.load
            refine sched_run (v := ?_) (by rfl) ?_ ?_
            rotate_left
            · (intro w' hS'; obtain ⟨x0, x1, x2, x3, a0, a1, b1⟩ := HLD.out w' hS'; go_simp; try with_reducible rfl)
            try simp only [Act.put, List.setIfInBounds_toArray, List.set_cons_zero, List.set_cons_succ]
            -- 33: Op.move
            refine sched_run (v := ?_) (by rfl) ?_ ?_
            rotate_left
            · (intro w' hS'; go_simp; try with_reducible rfl)
            try simp only [Act.put, List.setIfInBounds_toArray, List.set_cons_zero, List.set_cons_succ]
            -- 34: Op.move
            refine sched_run (v := ?_) (by rfl) ?_ ?_
            rotate_left
            · (intro w' hS'; go_simp; try with_reducible rfl)
            try simp only [Act.put, List.setIfInBounds_toArray, List.set_cons_zero, List.set_cons_succ]
            -- 35: Op.indexAddr
            refine sched_run (v := ?_) (by rfl) ?_ ?_
            rotate_left
            · (intro w' hS'; go_simp; try with_reducible rfl)
            try simp only [Act.put, List.setIfInBounds_toArray, List.set_cons_zero, List.set_cons_succ]
            -- 36: Op.load
            refine sched_run (v := ?_) (by rfl) ?_ ?_
            rotate_left
            · (intro w' hS'; obtain ⟨x0, x1, x2, x3, a0, a1, b1⟩ := HLD.out w' hS'; go_simp; try with_reducible rfl)
            try simp only [Act.put, List.setIfInBounds_toArray, List.set_cons_zero, List.set_cons_succ]
            -- 31: Op.call
            refine sched_call (by rfl) (fun K hK => ?_)
            go_simp
            refine (implFindRow_a Ap cp pL x.1 x.2.1 _ fpp (by omega) (wfs_of_rowsF HPU.out.new) HWX.out.1 HWX.out.2.1 (HRPW.out.below' hs0)).mono ?_
            rintro e s1 ⟨rfl, hbs0⟩
            have hs1 : Below wr.heap.size wr s1 := hs0.trans (hbs0.mono hs0.size)
            rw [HFD.out.1, HFD.out.2]
            clear hbs0
            refine hK _ _ hs1 ?_
            try simp only [Act.put, List.setIfInBounds_toArray, List.set_cons_zero, List.set_cons_succ]
            -- 32: Op.field
            refine sched_run (v := ?_) (by rfl) ?_ ?_
            rotate_left
            · (intro w' hS'; go_simp; try with_reducible rfl)
            try simp only [Act.put, List.setIfInBounds_toArray, List.set_cons_zero, List.set_cons_succ]
            -- 37: Op.binOp
            refine sched_run (v := ?_) (by rfl) ?_ ?_
            rotate_left
            · (intro w' hS'; go_simp; try with_reducible rfl)
            try simp only [Act.put, List.setIfInBounds_toArray, List.set_cons_zero, List.set_cons_succ]
            -- 38: Op.pick
            refine sched_run (v := ?_) (by rfl) ?_ ?_
            rotate_left
            · (intro w' hS'; go_simp; try with_reducible rfl)
            try simp only [Act.put, List.setIfInBounds_toArray, List.set_cons_zero, List.set_cons_succ]
            refine sched_done ?_
            have HLAST := Lib.hid (hbel.out.trans (hs1.mono hbel.out.size))
            go_wp2_with fail
            exact ⟨⟨k + 1, by omega, by go_num, HLAST.out⟩, by simp [intOf]; omega⟩
        · obtain rfl : k = ls.length := by omega
          obtain ⟨r0, r1, r2, r3⟩ := row_kept (Below.refl wr.heap.size wr) GR4.out
          obtain ⟨t0, t1⟩ := two_kept (Below.refl wr.heap.size wr) GR5.out
          have HWR := Lib.hid (wf_of_rowF HPU.out.row)
          go_wp2_with fail
          refine (implFindRow_a Ap cp pL r.1 r.2.1 _ fpp (by omega) (wfs_of_rowsF HPU.out.new) HWR.out.1 HWR.out.2.1 HRPW.out).mono ?_
          rintro e w7 ⟨rfl, hb7⟩
          clear r0 r1 r2 r3 t0 t1
          generalize hfc : findC pL r.1 r.2.1 = fC
          generalize hfv : findV pL r.1 r.2.1 = fV
          have HFC := Lib.hid hfc; have HFV := Lib.hid hfv; have B7 := Lib.hid hb7
          clear hfc hfv hb7
          go_wp2_with fail
          have hB : Below wr.heap.size wr (w7.alloc (.cells #[.int .i64 fC, .int .i64 fV.1, .int .i64 fV.2.1, .int .i64 fV.2.2.1, .int .i64 fV.2.2.2] 35)) := below_more B7.out _
          have hg14 : (w7.alloc (.cells #[.int .i64 fC, .int .i64 fV.1, .int .i64 fV.2.1, .int .i64 fV.2.2.1, .int .i64 fV.2.2.2] 35)).heap[w7.heap.size]? = some (.cells #[.int .i64 fC, .int .i64 fV.1, .int .i64 fV.2.1, .int .i64 fV.2.2.1, .int .i64 fV.2.2.2] 35 (0, 0)) := heap_new w7 _ rfl
          generalize w7.heap.size = g14 at *
          generalize w7.alloc (.cells #[.int .i64 fC, .int .i64 fV.1, .int .i64 fV.2.1, .int .i64 fV.2.2.1, .int .i64 fV.2.2.2] 35) = X at *
          have K4 := Lib.hid ((hB.block _ (heap_lt GR4.out)).trans GR4.out); have K5 := Lib.hid ((hB.block _ (heap_lt GR5.out)).trans GR5.out); have K14 := Lib.hid hg14
          have KRP := Lib.hid (HRPW.out.below' hB); have KRL := Lib.hid (HRLW.out.below' hB); have KBW := Lib.hid (HBWW.out.trans (hB.mono HBWW.out.size))
          clear hB hg14 B7 GR4 GR5 HRPW HRLW HBWW
          by_cases he : r.2.2.1 = 0
          · have hd3 : (r.2.2.1 == 0) = true := by simpa using he
            have hc4 : fC = 4 := by rw [← HFC.out]; exact (HPU.out.gone he).1
            subst hc4
            clear he
            have hld : ∀ w', Below X.heap.size X w' → w'.cell? ⟨g4, 0, none⟩ = some (.int .i64 r.1) ∧ w'.cell? ⟨g4, 1, none⟩ = some (.int .i64 r.2.1) ∧ w'.cell? ⟨g4, 2, none⟩ = some (.int .i64 r.2.2.1) ∧ w'.cell? ⟨g4, 3, none⟩ = some (.int .i64 r.2.2.2) ∧ w'.cell? ⟨g5, 1, none⟩ = some (.slice Ap pL.length cp) ∧ w'.cell? ⟨g14, 0, none⟩ = some (.int .i64 4) ∧ w'.cell? ⟨g14, 1, none⟩ = some (.int .i64 fV.1) ∧ w'.cell? ⟨g14, 2, none⟩ = some (.int .i64 fV.2.1) ∧ w'.cell? ⟨g14, 3, none⟩ = some (.int .i64 fV.2.2.1) ∧ w'.cell? ⟨g14, 4, none⟩ = some (.int .i64 fV.2.2.2) := fun w' h => by have p1 := row_kept h K4.out; have p2 := two_kept h K5.out; have p3 := rr_kept h K14.out; exact ⟨p1.1, p1.2.1, p1.2.2.1, p1.2.2.2, p2.2, p3.1, p3.2.1, p3.2.2.1, p3.2.2.2.1, p3.2.2.2.2⟩
            have HLD := Lib.hid hld; clear hld
            refine wp_region_sched (fun w' => Below X.heap.size X w') [(0, true), (1, true), (2, false), (3, true), (4, true), (5, true), (6, true), (7, true), (8, true), (9, true), (10, true), (11, true), (12, true), (13, true), (14, true), (15, true), (16, true), (17, true), (18, true), (19, true), (20, true), (21, true), (22, true), (23, true), (24, true), (25, true), (26, true), (27, true), (28, true), (29, true), (30, false), (31, true), (32, false), (33, true), (34, true)] (by kernel_rfl) (by kernel_rfl) (by kernel_rfl) (by kernel_rfl) (fun _ _ d _ _ h => by cases d <;> exact h) ⟨rfl, rfl, rfl, Nat.le_refl _, fun _ _ => rfl⟩ ?_
            simp only [opsOf, List.filterMap_cons, List.filterMap_nil, Option.map_some, List.getElem?_toArray, List.getElem?_cons_zero, List.getElem?_cons_succ]
            generalize hW0 : ({ heap := X.heap, tape := X.tape, drawn := X.drawn + 1, os := X.os, output := X.output } : World) = t0
            have ht0 : Below X.heap.size X t0 := by rw [← hW0]; exact ⟨rfl, rfl, rfl, Nat.le_refl _, fun _ _ => rfl⟩
            clear hW0
            -- 0: Op.fieldAddr
            refine sched_run (v := ?_) (by rfl) ?_ ?_
            rotate_left
            · (intro w' hS'; go_simp; try with_reducible rfl)
            try simp only [Act.put, List.setIfInBounds_toArray, List.set_cons_zero, List.set_cons_succ]
            -- 1: Op.load
            refine sched_run (v := ?_) (by rfl) ?_ ?_
            rotate_left
            · (intro w' hS'; obtain ⟨a0, a1, a2, a3, b1, f0, f1, f2, f3, f4⟩ := HLD.out w' hS'; go_simp; try with_reducible rfl)
            try simp only [Act.put, List.setIfInBounds_toArray, List.set_cons_zero, List.set_cons_succ]
            -- 2: Op.call
            refine sched_call (by rfl) (fun K hK => ?_)
            go_simp
            refine (implRowsFault_a Ap cp pL _ fpp (by omega) (wfs_of_rowsF HPU.out.new) (KRP.out.below' ht0)).mono ?_
            rintro e t1 ⟨rfl, hbt0⟩
            have ht1 : Below X.heap.size X t1 := ht0.trans (hbt0.mono ht0.size)
            rw [HPU.out.new]
            clear hbt0
            refine hK _ _ ht1 ?_
            try simp only [Act.put, List.setIfInBounds_toArray, List.set_cons_zero, List.set_cons_succ]
            -- 3: Op.binOp
            refine sched_run (v := ?_) (by rfl) ?_ ?_
            rotate_left
            · (intro w' hS'; go_simp; try with_reducible rfl)
            try simp only [Act.put, List.setIfInBounds_toArray, List.set_cons_zero, List.set_cons_succ]
            -- 4: Op.move
            refine sched_run (v := ?_) (by rfl) ?_ ?_
            rotate_left
            · (intro w' hS'; go_simp; try with_reducible rfl)
            try simp only [Act.put, List.setIfInBounds_toArray, List.set_cons_zero, List.set_cons_succ]
            -- 5: Op.fieldAddr
            refine sched_run (v := ?_) (by rfl) ?_ ?_
            rotate_left
            · (intro w' hS'; go_simp; try with_reducible rfl)
            try simp only [Act.put, List.setIfInBounds_toArray, List.set_cons_zero, List.set_cons_succ]
            -- 6: Op.load
            refine sched_run (v := ?_) (by rfl) ?_ ?_
            rotate_left
            · (intro w' hS'; obtain ⟨a0, a1, a2, a3, b1, f0, f1, f2, f3, f4⟩ := HLD.out w' hS'; go_simp; try with_reducible rfl)
            try simp only [Act.put, List.setIfInBounds_toArray, List.set_cons_zero, List.set_cons_succ]
            -- 7: Op.binOp
            refine sched_run (v := ?_) (by rfl) ?_ ?_
            rotate_left
            · (intro w' hS'; go_simp; try with_reducible rfl)
            try simp only [Act.put, List.setIfInBounds_toArray, List.set_cons_zero, List.set_cons_succ]
            -- 8: Op.move
            refine sched_run (v := ?_) (by rfl) ?_ ?_
            rotate_left
            · (intro w' hS'; go_simp; try with_reducible rfl)
            try simp only [Act.put, List.setIfInBounds_toArray, List.set_cons_zero, List.set_cons_succ]
            -- 9: Op.fieldAddr
            refine sched_run (v := ?_) (by rfl) ?_ ?_
            rotate_left
            · (intro w' hS'; go_simp; try with_reducible rfl)
            try simp only [Act.put, List.setIfInBounds_toArray, List.set_cons_zero, List.set_cons_succ]
            -- 10: Op.load
            refine sched_run (v := ?_) (by rfl) ?_ ?_
            rotate_left
            · (intro w' hS'; obtain ⟨a0, a1, a2, a3, b1, f0, f1, f2, f3, f4⟩ := HLD.out w' hS'; go_simp; try with_reducible rfl)
            try simp only [Act.put, List.setIfInBounds_toArray, List.set_cons_zero, List.set_cons_succ]
            -- 11: Op.binOp
            refine sched_run (v := ?_) (by rfl) ?_ ?_
            rotate_left
            · (intro w' hS'; go_simp; try with_reducible rfl)
            try simp only [Act.put, List.setIfInBounds_toArray, List.set_cons_zero, List.set_cons_succ]
            -- 12: Op.pick
            refine sched_run (v := ?_) (by rfl) ?_ ?_
            rotate_left
            · (intro w' hS'; go_simp; try with_reducible rfl)
            try simp only [Act.put, List.setIfInBounds_toArray, List.set_cons_zero, List.set_cons_succ]
            -- 13: Op.move
            refine sched_run (v := ?_) (by rfl) ?_ ?_
            rotate_left
            · (intro w' hS'; go_simp; try with_reducible rfl)
            try simp only [Act.put, List.setIfInBounds_toArray, List.set_cons_zero, List.set_cons_succ]
            -- 14: Op.fieldAddr
            refine sched_skip (by rfl) ?_
            try simp only [Act.put, List.setIfInBounds_toArray, List.set_cons_zero, List.set_cons_succ]
            -- 15: Op.load
            refine sched_skip (by rfl) ?_
            try simp only [Act.put, List.setIfInBounds_toArray, List.set_cons_zero, List.set_cons_succ]
            -- 16: Op.binOp
            refine sched_skip (by rfl) ?_
            try simp only [Act.put, List.setIfInBounds_toArray, List.set_cons_zero, List.set_cons_succ]
            -- 17: Op.move
            refine sched_skip (by rfl) ?_
            try simp only [Act.put, List.setIfInBounds_toArray, List.set_cons_zero, List.set_cons_succ]
            -- 18: Op.fieldAddr
            refine sched_skip (by rfl) ?_
            try simp only [Act.put, List.setIfInBounds_toArray, List.set_cons_zero, List.set_cons_succ]
            -- 19: Op.load
            refine sched_skip (by rfl) ?_
            try simp only [Act.put, List.setIfInBounds_toArray, List.set_cons_zero, List.set_cons_succ]
            -- 20: Op.load
            refine sched_skip (by rfl) ?_
            try simp only [Act.put, List.setIfInBounds_toArray, List.set_cons_zero, List.set_cons_succ]
            -- 21: Op.binOp
            refine sched_skip (by rfl) ?_
            try simp only [Act.put, List.setIfInBounds_toArray, List.set_cons_zero, List.set_cons_succ]
            -- 22: Op.pick
            refine sched_skip (by rfl) ?_
            try simp only [Act.put, List.setIfInBounds_toArray, List.set_cons_zero, List.set_cons_succ]
            -- 23: Op.pick
            refine sched_run (v := ?_) (by rfl) ?_ ?_
            rotate_left
            · (intro w' hS'; go_simp; try with_reducible rfl)
            try simp only [Act.put, List.setIfInBounds_toArray, List.set_cons_zero, List.set_cons_succ]
            -- 24: Op.pick
            refine sched_run (v := ?_) (by rfl) ?_ ?_
            rotate_left
            · (intro w' hS'; go_simp; try with_reducible rfl)
            try simp only [Act.put, List.setIfInBounds_toArray, List.set_cons_zero, List.set_cons_succ]
            -- 25: Op.move
            refine sched_run (v := ?_) (by rfl) ?_ ?_
            rotate_left
            · (intro w' hS'; go_simp; try with_reducible rfl)
            try simp only [Act.put, List.setIfInBounds_toArray, List.set_cons_zero, List.set_cons_succ]
            -- 26: Op.fieldAddr
            refine sched_run (v := ?_) (by rfl) ?_ ?_
            rotate_left
            · (intro w' hS'; go_simp; try with_reducible rfl)
            try simp only [Act.put, List.setIfInBounds_toArray, List.set_cons_zero, List.set_cons_succ]
            -- 27: Op.load
            refine sched_run (v := ?_) (by rfl) ?_ ?_
            rotate_left
            · (intro w' hS'; obtain ⟨a0, a1, a2, a3, b1, f0, f1, f2, f3, f4⟩ := HLD.out w' hS'; go_simp; try with_reducible rfl)
            try simp only [Act.put, List.setIfInBounds_toArray, List.set_cons_zero, List.set_cons_succ]
            -- 28: Op.move
            refine sched_run (v := ?_) (by rfl) ?_ ?_
            rotate_left
            · (intro w' hS'; go_simp; try with_reducible rfl)
            try simp only [Act.put, List.setIfInBounds_toArray, List.set_cons_zero, List.set_cons_succ]
            -- 29: Op.load
            refine sched_run (v := ?_) (by rfl) ?_ ?_
            rotate_left
            · (intro w' hS'; obtain ⟨a0, a1, a2, a3, b1, f0, f1, f2, f3, f4⟩ := HLD.out w' hS'; go_simp; try with_reducible rfl)
            try simp only [Act.put, List.setIfInBounds_toArray, List.set_cons_zero, List.set_cons_succ]
            -- 30: Op.call
            refine sched_call (by rfl) (fun K hK => ?_)
            go_simp
            refine (specPutRow_c Al cl ls r _ fl (KRL.out.below' ht1)).mono ?_
            rintro e t2 ⟨_, rfl, ⟨vq, fq, rfl, hrq, _, _⟩, hbt1⟩
            have ht2 : Below X.heap.size X t2 := ht1.trans (hbt1.mono ht1.size)
            rw [HPL.out] at hrq
            obtain ⟨Aq, cq, rfl⟩ := hrq.rows_form
            have HRQ := Lib.hid hrq
            clear hrq
            clear hbt1
            refine hK _ _ ht2 ?_
            try simp only [Act.put, List.setIfInBounds_toArray, List.set_cons_zero, List.set_cons_succ]
            -- 31: Op.field
            refine sched_run (v := ?_) (by rfl) ?_ ?_
            rotate_left
            · (intro w' hS'; go_simp; try with_reducible rfl)
            try simp only [Act.put, List.setIfInBounds_toArray, List.set_cons_zero, List.set_cons_succ]
            -- 32: Op.call
            refine sched_call (by rfl) (fun K hK => ?_)
            go_simp
            refine (implSameRows_a Ap Aq cp cq pL pL _ fpp fq (by omega) (by omega) (wfs_of_rowsF HPU.out.new) (wfs_of_rowsF HPU.out.new) (KRP.out.below' ht2) HRQ.out).mono ?_
            rintro e t3 ⟨rfl, hbt2⟩
            have ht3 : Below X.heap.size X t3 := ht2.trans (hbt2.mono ht2.size)
            clear hbt2
            refine hK _ _ ht3 ?_
            try simp only [Act.put, List.setIfInBounds_toArray, List.set_cons_zero, List.set_cons_succ]
            -- 33: Op.pick
            refine sched_run (v := ?_) (by rfl) ?_ ?_
            rotate_left
            · (intro w' hS'; go_simp; try with_reducible rfl)
            try simp only [Act.put, List.setIfInBounds_toArray, List.set_cons_zero, List.set_cons_succ]
            -- 34: Op.assign
            refine sched_run (v := ?_) (by rfl) ?_ ?_
            rotate_left
            · (intro w' hS'; go_simp; try with_reducible rfl)
            try simp only [Act.put, List.setIfInBounds_toArray, List.set_cons_zero, List.set_cons_succ]
            refine sched_done ?_
            go_wp2_with fail
            go_ret
            exact ⟨by simp, KBW.out.trans (ht3.mono KBW.out.size)⟩
          · have hd3 : (r.2.2.1 == 0) = false := by simpa using he
            have hz := rowF_zero HPU.out.row
            have hd4 : decide (0 < r.2.2.1) = true := by rw [decide_eq_true_eq]; omega
            have hcv : fV = r := by rw [← HFV.out]; exact (HPU.out.self he).2
            subst hcv
            clear he hz
            have hld : ∀ w', Below X.heap.size X w' → w'.cell? ⟨g4, 0, none⟩ = some (.int .i64 fV.1) ∧ w'.cell? ⟨g4, 1, none⟩ = some (.int .i64 fV.2.1) ∧ w'.cell? ⟨g4, 2, none⟩ = some (.int .i64 fV.2.2.1) ∧ w'.cell? ⟨g4, 3, none⟩ = some (.int .i64 fV.2.2.2) ∧ w'.cell? ⟨g5, 1, none⟩ = some (.slice Ap pL.length cp) ∧ w'.cell? ⟨g14, 0, none⟩ = some (.int .i64 fC) ∧ w'.cell? ⟨g14, 1, none⟩ = some (.int .i64 fV.1) ∧ w'.cell? ⟨g14, 2, none⟩ = some (.int .i64 fV.2.1) ∧ w'.cell? ⟨g14, 3, none⟩ = some (.int .i64 fV.2.2.1) ∧ w'.cell? ⟨g14, 4, none⟩ = some (.int .i64 fV.2.2.2) := fun w' h => by have p1 := row_kept h K4.out; have p2 := two_kept h K5.out; have p3 := rr_kept h K14.out; exact ⟨p1.1, p1.2.1, p1.2.2.1, p1.2.2.2, p2.2, p3.1, p3.2.1, p3.2.2.1, p3.2.2.2.1, p3.2.2.2.2⟩
            have HLD := Lib.hid hld; clear hld
            refine wp_region_sched (fun w' => Below X.heap.size X w') [(0, true), (1, true), (2, false), (3, true), (4, true), (5, true), (6, true), (7, true), (8, true), (9, true), (10, true), (11, true), (12, true), (13, true), (14, true), (15, true), (16, true), (17, true), (18, true), (19, true), (20, true), (21, true), (22, true), (23, true), (24, true), (25, true), (26, true), (27, true), (28, true), (29, true), (30, false), (31, true), (32, false), (33, true), (34, true)] (by kernel_rfl) (by kernel_rfl) (by kernel_rfl) (by kernel_rfl) (fun _ _ d _ _ h => by cases d <;> exact h) ⟨rfl, rfl, rfl, Nat.le_refl _, fun _ _ => rfl⟩ ?_
            simp only [opsOf, List.filterMap_cons, List.filterMap_nil, Option.map_some, List.getElem?_toArray, List.getElem?_cons_zero, List.getElem?_cons_succ]
            generalize hW0 : ({ heap := X.heap, tape := X.tape, drawn := X.drawn + 1, os := X.os, output := X.output } : World) = t0
            have ht0 : Below X.heap.size X t0 := by rw [← hW0]; exact ⟨rfl, rfl, rfl, Nat.le_refl _, fun _ _ => rfl⟩
            clear hW0
            -- 0: Op.fieldAddr
            refine sched_run (v := ?_) (by rfl) ?_ ?_
            rotate_left
            · (intro w' hS'; go_simp; try with_reducible rfl)
            try simp only [Act.put, List.setIfInBounds_toArray, List.set_cons_zero, List.set_cons_succ]
            -- 1: Op.load
            refine sched_run (v := ?_) (by rfl) ?_ ?_
            rotate_left
            · (intro w' hS'; obtain ⟨a0, a1, a2, a3, b1, f0, f1, f2, f3, f4⟩ := HLD.out w' hS'; go_simp; try with_reducible rfl)
            try simp only [Act.put, List.setIfInBounds_toArray, List.set_cons_zero, List.set_cons_succ]
            -- 2: Op.call
            refine sched_call (by rfl) (fun K hK => ?_)
            go_simp
            refine (implRowsFault_a Ap cp pL _ fpp (by omega) (wfs_of_rowsF HPU.out.new) (KRP.out.below' ht0)).mono ?_
            rintro e t1 ⟨rfl, hbt0⟩
            have ht1 : Below X.heap.size X t1 := ht0.trans (hbt0.mono ht0.size)
            rw [HPU.out.new]
            clear hbt0
            refine hK _ _ ht1 ?_
            try simp only [Act.put, List.setIfInBounds_toArray, List.set_cons_zero, List.set_cons_succ]
            -- 3: Op.binOp
            refine sched_run (v := ?_) (by rfl) ?_ ?_
            rotate_left
            · (intro w' hS'; go_simp; try with_reducible rfl)
            try simp only [Act.put, List.setIfInBounds_toArray, List.set_cons_zero, List.set_cons_succ]
            -- 4: Op.move
            refine sched_run (v := ?_) (by rfl) ?_ ?_
            rotate_left
            · (intro w' hS'; go_simp; try with_reducible rfl)
            try simp only [Act.put, List.setIfInBounds_toArray, List.set_cons_zero, List.set_cons_succ]
            -- 5: Op.fieldAddr
            refine sched_run (v := ?_) (by rfl) ?_ ?_
            rotate_left
            · (intro w' hS'; go_simp; try with_reducible rfl)
            try simp only [Act.put, List.setIfInBounds_toArray, List.set_cons_zero, List.set_cons_succ]
            -- 6: Op.load
            refine sched_run (v := ?_) (by rfl) ?_ ?_
            rotate_left
            · (intro w' hS'; obtain ⟨a0, a1, a2, a3, b1, f0, f1, f2, f3, f4⟩ := HLD.out w' hS'; go_simp; try with_reducible rfl)
            try simp only [Act.put, List.setIfInBounds_toArray, List.set_cons_zero, List.set_cons_succ]
            -- 7: Op.binOp
            refine sched_run (v := ?_) (by rfl) ?_ ?_
            rotate_left
            · (intro w' hS'; go_simp; try with_reducible rfl)
            try simp only [Act.put, List.setIfInBounds_toArray, List.set_cons_zero, List.set_cons_succ]
            -- 8: Op.move
            refine sched_run (v := ?_) (by rfl) ?_ ?_
            rotate_left
            · (intro w' hS'; go_simp; try with_reducible rfl)
            try simp only [Act.put, List.setIfInBounds_toArray, List.set_cons_zero, List.set_cons_succ]
            -- 9: Op.fieldAddr
            refine sched_skip (by rfl) ?_
            try simp only [Act.put, List.setIfInBounds_toArray, List.set_cons_zero, List.set_cons_succ]
            -- 10: Op.load
            refine sched_skip (by rfl) ?_
            try simp only [Act.put, List.setIfInBounds_toArray, List.set_cons_zero, List.set_cons_succ]
            -- 11: Op.binOp
            refine sched_skip (by rfl) ?_
            try simp only [Act.put, List.setIfInBounds_toArray, List.set_cons_zero, List.set_cons_succ]
            -- 12: Op.pick
            refine sched_run (v := ?_) (by rfl) ?_ ?_
            rotate_left
            · (intro w' hS'; go_simp; try with_reducible rfl)
            try simp only [Act.put, List.setIfInBounds_toArray, List.set_cons_zero, List.set_cons_succ]
            -- 13: Op.move
            refine sched_run (v := ?_) (by rfl) ?_ ?_
            rotate_left
            · (intro w' hS'; go_simp; try with_reducible rfl)
            try simp only [Act.put, List.setIfInBounds_toArray, List.set_cons_zero, List.set_cons_succ]
            -- 14: Op.fieldAddr
            refine sched_run (v := ?_) (by rfl) ?_ ?_
            rotate_left
            · (intro w' hS'; go_simp; try with_reducible rfl)
            try simp only [Act.put, List.setIfInBounds_toArray, List.set_cons_zero, List.set_cons_succ]
            -- 15: Op.load
            refine sched_run (v := ?_) (by rfl) ?_ ?_
            rotate_left
            · (intro w' hS'; obtain ⟨a0, a1, a2, a3, b1, f0, f1, f2, f3, f4⟩ := HLD.out w' hS'; go_simp; try with_reducible rfl)
            try simp only [Act.put, List.setIfInBounds_toArray, List.set_cons_zero, List.set_cons_succ]
            -- 16: Op.binOp
            refine sched_run (v := ?_) (by rfl) ?_ ?_
            rotate_left
            · (intro w' hS'; go_simp; try with_reducible rfl)
            try simp only [Act.put, List.setIfInBounds_toArray, List.set_cons_zero, List.set_cons_succ]
            -- 17: Op.move
            refine sched_run (v := ?_) (by rfl) ?_ ?_
            rotate_left
            · (intro w' hS'; go_simp; try with_reducible rfl)
            try simp only [Act.put, List.setIfInBounds_toArray, List.set_cons_zero, List.set_cons_succ]
            -- 18: Op.fieldAddr
            refine sched_run (v := ?_) (by rfl) ?_ ?_
            rotate_left
            · (intro w' hS'; go_simp; try with_reducible rfl)
            try simp only [Act.put, List.setIfInBounds_toArray, List.set_cons_zero, List.set_cons_succ]
            -- 19: Op.load
            refine sched_run (v := ?_) (by rfl) ?_ ?_
            rotate_left
            · (intro w' hS'; obtain ⟨a0, a1, a2, a3, b1, f0, f1, f2, f3, f4⟩ := HLD.out w' hS'; go_simp; try with_reducible rfl)
            try simp only [Act.put, List.setIfInBounds_toArray, List.set_cons_zero, List.set_cons_succ]
            -- 20: Op.load
            refine sched_run (v := ?_) (by rfl) ?_ ?_
            rotate_left
            · (intro w' hS'; obtain ⟨a0, a1, a2, a3, b1, f0, f1, f2, f3, f4⟩ := HLD.out w' hS'; go_simp; try with_reducible rfl)
            try simp only [Act.put, List.setIfInBounds_toArray, List.set_cons_zero, List.set_cons_succ]
            -- 21: Op.binOp
            refine sched_run (v := ?_) (by rfl) ?_ ?_
            rotate_left
            · (intro w' hS'; go_simp; try with_reducible rfl)
            try simp only [Act.put, List.setIfInBounds_toArray, List.set_cons_zero, List.set_cons_succ]
            -- 22: Op.pick
            refine sched_run (v := ?_) (by rfl) ?_ ?_
            rotate_left
            · (intro w' hS'; go_simp; try with_reducible rfl)
            try simp only [Act.put, List.setIfInBounds_toArray, List.set_cons_zero, List.set_cons_succ]
            -- 23: Op.pick
            refine sched_run (v := ?_) (by rfl) ?_ ?_
            rotate_left
            · (intro w' hS'; go_simp; try with_reducible rfl)
            try simp only [Act.put, List.setIfInBounds_toArray, List.set_cons_zero, List.set_cons_succ]
            -- 24: Op.pick
            refine sched_run (v := ?_) (by rfl) ?_ ?_
            rotate_left
            · (intro w' hS'; go_simp; try with_reducible rfl)
            try simp only [Act.put, List.setIfInBounds_toArray, List.set_cons_zero, List.set_cons_succ]
            -- 25: Op.move
            refine sched_run (v := ?_) (by rfl) ?_ ?_
            rotate_left
            · (intro w' hS'; go_simp; try with_reducible rfl)
            try simp only [Act.put, List.setIfInBounds_toArray, List.set_cons_zero, List.set_cons_succ]
            -- 26: Op.fieldAddr
            refine sched_run (v := ?_) (by rfl) ?_ ?_
            rotate_left
            · (intro w' hS'; go_simp; try with_reducible rfl)
            try simp only [Act.put, List.setIfInBounds_toArray, List.set_cons_zero, List.set_cons_succ]
            -- 27: Op.load
            refine sched_run (v := ?_) (by rfl) ?_ ?_
            rotate_left
            · (intro w' hS'; obtain ⟨a0, a1, a2, a3, b1, f0, f1, f2, f3, f4⟩ := HLD.out w' hS'; go_simp; try with_reducible rfl)
            try simp only [Act.put, List.setIfInBounds_toArray, List.set_cons_zero, List.set_cons_succ]
            -- 28: Op.move
            refine sched_run (v := ?_) (by rfl) ?_ ?_
            rotate_left
            · (intro w' hS'; go_simp; try with_reducible rfl)
            try simp only [Act.put, List.setIfInBounds_toArray, List.set_cons_zero, List.set_cons_succ]
            -- 29: Op.load
            refine sched_run (v := ?_) (by rfl) ?_ ?_
            rotate_left
            · (intro w' hS'; obtain ⟨a0, a1, a2, a3, b1, f0, f1, f2, f3, f4⟩ := HLD.out w' hS'; go_simp; try with_reducible rfl)
            try simp only [Act.put, List.setIfInBounds_toArray, List.set_cons_zero, List.set_cons_succ]
            -- 30: Op.call
            refine sched_call (by rfl) (fun K hK => ?_)
            go_simp
            refine (specPutRow_c Al cl ls fV _ fl (KRL.out.below' ht1)).mono ?_
            rintro e t2 ⟨_, rfl, ⟨vq, fq, rfl, hrq, _, _⟩, hbt1⟩
            have ht2 : Below X.heap.size X t2 := ht1.trans (hbt1.mono ht1.size)
            rw [HPL.out] at hrq
            obtain ⟨Aq, cq, rfl⟩ := hrq.rows_form
            have HRQ := Lib.hid hrq
            clear hrq
            clear hbt1
            refine hK _ _ ht2 ?_
            try simp only [Act.put, List.setIfInBounds_toArray, List.set_cons_zero, List.set_cons_succ]
            -- 31: Op.field
            refine sched_run (v := ?_) (by rfl) ?_ ?_
            rotate_left
            · (intro w' hS'; go_simp; try with_reducible rfl)
            try simp only [Act.put, List.setIfInBounds_toArray, List.set_cons_zero, List.set_cons_succ]
            -- 32: Op.call
            refine sched_call (by rfl) (fun K hK => ?_)
            go_simp
            refine (implSameRows_a Ap Aq cp cq pL pL _ fpp fq (by omega) (by omega) (wfs_of_rowsF HPU.out.new) (wfs_of_rowsF HPU.out.new) (KRP.out.below' ht2) HRQ.out).mono ?_
            rintro e t3 ⟨rfl, hbt2⟩
            have ht3 : Below X.heap.size X t3 := ht2.trans (hbt2.mono ht2.size)
            clear hbt2
            refine hK _ _ ht3 ?_
            try simp only [Act.put, List.setIfInBounds_toArray, List.set_cons_zero, List.set_cons_succ]
            -- 33: Op.pick
            refine sched_run (v := ?_) (by rfl) ?_ ?_
            rotate_left
            · (intro w' hS'; go_simp; try with_reducible rfl)
            try simp only [Act.put, List.setIfInBounds_toArray, List.set_cons_zero, List.set_cons_succ]
            -- 34: Op.assign
            refine sched_run (v := ?_) (by rfl) ?_ ?_
            rotate_left
            · (intro w' hS'; go_simp; try with_reducible rfl)
            try simp only [Act.put, List.setIfInBounds_toArray, List.set_cons_zero, List.set_cons_succ]
            refine sched_done ?_
            go_wp2_with fail
            go_ret
            exact ⟨by simp, KBW.out.trans (ht3.mono KBW.out.size)⟩
    · have hpb : (pC != 0) = true := by simpa using hp0
      clear hp0
      go_wp2_with fail
      have hld : ∀ w', Below V.heap.size V w' → w'.cell? ⟨g4, 0, none⟩ = some (.int .i64 r.1) ∧ w'.cell? ⟨g4, 1, none⟩ = some (.int .i64 r.2.1) ∧ w'.cell? ⟨g4, 2, none⟩ = some (.int .i64 r.2.2.1) ∧ w'.cell? ⟨g4, 3, none⟩ = some (.int .i64 r.2.2.2) ∧ w'.cell? ⟨g5, 0, none⟩ = some (.int .i64 pC) := fun w' h => by have p1 := row_kept h G4.out; have p2 := two_kept h G5.out; exact ⟨p1.1, p1.2.1, p1.2.2.1, p1.2.2.2, p2.1⟩
      have HLD := Lib.hid hld; clear hld
      refine wp_region_sched (fun w' => Below V.heap.size V w') [(0, true), (1, true), (4, true), (5, true), (2, false), (3, true), (6, true), (7, true), (8, true), (10, true), (9, false), (11, false), (12, true), (13, true), (14, true)] (by kernel_rfl) (by kernel_rfl) (by kernel_rfl) (by kernel_rfl) (fun _ _ d _ _ h => by cases d <;> exact h) ⟨rfl, rfl, rfl, Nat.le_refl _, fun _ _ => rfl⟩ ?_
      simp only [opsOf, List.filterMap_cons, List.filterMap_nil, Option.map_some, List.getElem?_toArray, List.getElem?_cons_zero, List.getElem?_cons_succ]
      generalize hW0 : ({ heap := V.heap, tape := V.tape, drawn := V.drawn + 1, os := V.os, output := V.output } : World) = u0
      have hu0 : Below V.heap.size V u0 := by rw [← hW0]; exact ⟨rfl, rfl, rfl, Nat.le_refl _, fun _ _ => rfl⟩
      clear hW0
      -- 0: Op.move
      refine sched_run (v := ?_) (by rfl) ?_ ?_
      rotate_left
      · (intro w' hS'; go_simp; try with_reducible rfl)
      try simp only [Act.put, List.setIfInBounds_toArray, List.set_cons_zero, List.set_cons_succ]
      -- 1: Op.load
      refine sched_run (v := ?_) (by rfl) ?_ ?_
      rotate_left
      · (intro w' hS'; obtain ⟨a0, a1, a2, a3, b0⟩ := HLD.out w' hS'; go_simp; try with_reducible rfl)
      try simp only [Act.put, List.setIfInBounds_toArray, List.set_cons_zero, List.set_cons_succ]
      -- 4: Op.fieldAddr
      refine sched_run (v := ?_) (by rfl) ?_ ?_
      rotate_left
      · (intro w' hS'; go_simp; try with_reducible rfl)
      try simp only [Act.put, List.setIfInBounds_toArray, List.set_cons_zero, List.set_cons_succ]
      -- 5: Op.load
      refine sched_run (v := ?_) (by rfl) ?_ ?_
      rotate_left
      · (intro w' hS'; obtain ⟨a0, a1, a2, a3, b0⟩ := HLD.out w' hS'; go_simp; try with_reducible rfl)
      try simp only [Act.put, List.setIfInBounds_toArray, List.set_cons_zero, List.set_cons_succ]
      -- 2: Op.call
      refine sched_call (by rfl) (fun K hK => ?_)
      go_simp
      refine (specPutRow_c Al cl ls r _ fl (HRL.out.below' hu0)).mono ?_
      rintro e u1 ⟨_, rfl, ⟨vq, fq, rfl, hrq, _, _⟩, hbu0⟩
      have hu1 : Below V.heap.size V u1 := hu0.trans (hbu0.mono hu0.size)
      rw [HPC.out]
      clear hrq
      clear hbu0
      refine hK _ _ hu1 ?_
      try simp only [Act.put, List.setIfInBounds_toArray, List.set_cons_zero, List.set_cons_succ]
      -- 3: Op.field
      refine sched_run (v := ?_) (by rfl) ?_ ?_
      rotate_left
      · (intro w' hS'; go_simp; try with_reducible rfl)
      try simp only [Act.put, List.setIfInBounds_toArray, List.set_cons_zero, List.set_cons_succ]
      -- 6: Op.binOp
      refine sched_run (v := ?_) (by rfl) ?_ ?_
      rotate_left
      · (intro w' hS'; go_simp; try with_reducible rfl)
      try simp only [Act.put, List.setIfInBounds_toArray, List.set_cons_zero, List.set_cons_succ]
      -- 7: Op.move
      refine sched_run (v := ?_) (by rfl) ?_ ?_
      rotate_left
      · (intro w' hS'; go_simp; try with_reducible rfl)
      try simp only [Act.put, List.setIfInBounds_toArray, List.set_cons_zero, List.set_cons_succ]
      -- 8: Op.move
      refine sched_run (v := ?_) (by rfl) ?_ ?_
      rotate_left
      · (intro w' hS'; go_simp; try with_reducible rfl)
      try simp only [Act.put, List.setIfInBounds_toArray, List.set_cons_zero, List.set_cons_succ]
      -- 10: Op.move
      refine sched_run (v := ?_) (by rfl) ?_ ?_
      rotate_left
      · (intro w' hS'; go_simp; try with_reducible rfl)
      try simp only [Act.put, List.setIfInBounds_toArray, List.set_cons_zero, List.set_cons_succ]
      -- 9: Op.call
      refine sched_call (by rfl) (fun K hK => ?_)
      go_simp
      refine (implRowsFault_a Al cl ls _ fl (by omega) (fun q hq => (HML.out q hq).wf) (HRL.out.below' hu1)).mono ?_
      rintro e u2 ⟨rfl, hbu1⟩
      have hu2 : Below V.heap.size V u2 := hu1.trans (hbu1.mono hu1.size)
      clear hbu1
      refine hK _ _ hu2 ?_
      try simp only [Act.put, List.setIfInBounds_toArray, List.set_cons_zero, List.set_cons_succ]
      -- 11: Op.call
      refine sched_call (by rfl) (fun K hK => ?_)
      go_simp
      refine (specRowsFault_c Al cl ls _ fl (HRL.out.below' hu2)).mono ?_
      rintro e u3 ⟨rfl, hbu2⟩
      have hu3 : Below V.heap.size V u3 := hu2.trans (hbu2.mono hu2.size)
      clear hbu2
      refine hK _ _ hu3 ?_
      try simp only [Act.put, List.setIfInBounds_toArray, List.set_cons_zero, List.set_cons_succ]
      -- 12: Op.binOp
      refine sched_run (v := ?_) (by rfl) ?_ ?_
      rotate_left
      · (intro w' hS'; go_simp; try with_reducible rfl)
      try simp only [Act.put, List.setIfInBounds_toArray, List.set_cons_zero, List.set_cons_succ]
      -- 13: Op.pick
      refine sched_run (v := ?_) (by rfl) ?_ ?_
      rotate_left
      · (intro w' hS'; go_simp; try with_reducible rfl)
      try simp only [Act.put, List.setIfInBounds_toArray, List.set_cons_zero, List.set_cons_succ]
      -- 14: Op.assign
      refine sched_run (v := ?_) (by rfl) ?_ ?_
      rotate_left
      · (intro w' hS'; go_simp; try with_reducible rfl)
      try simp only [Act.put, List.setIfInBounds_toArray, List.set_cons_zero, List.set_cons_succ]
      refine sched_done ?_
      go_wp2_with fail
      go_ret
      exact ⟨by simp, HBW.out.trans (hu3.mono HBW.out.size)⟩
end Go.Proofs.Ythmmjkpgepffeaa
