/- The law FnDigests answers true for every slice of bytes: the walk. By a maker (fndigests.py). -/
import Derived.Test.YtldimfmhbdhbnaaGreatG38
import Derived.Test.YtldimfmhbdhbnaaGreatG45
import Derived.Test.YtldimfmhbdhbnaaGreatFin8b
import Derived.Test.YtldimfmhbdhbnaaGreatG31
import Derived.Test.YtldimfmhbdhbnaaGreatG30
import Derived.Test.YtldimfmhbdhbnaaGreatG35
import Derived.Test.YtldimfmhbdhbnaaGreatG46
import Derived.Test.YtldimfmhbdhbnaaGreatG42
import Derived.Test.YtldimfmhbdhbnaaGreatG23
import Derived.Deep.DeepCutAuto
namespace Go.Proofs.YtldimfmhbdhbnaaGreat
open Go.RowKit
set_option linter.unusedSimpArgs false

theorem fldIr0 (x y : Value) (w : World) : (Instr.field 28 (.agg #[x, y]) 0).run Tryz.prog w = .ok x w := by kernel_rfl
theorem fldIr1 (x y : Value) (w : World) : (Instr.field 28 (.agg #[x, y]) 1).run Tryz.prog w = .ok y w := by kernel_rfl
theorem fldPr1 (x y z : Value) (w : World) : (Instr.field 50 (.agg #[x, y, z]) 1).run Tryz.prog w = .ok (.agg #[y, z]) w := by kernel_rfl
theorem fldPs1 (x y : Value) (w : World) : (Instr.field 53 (.agg #[x, y]) 1).run Tryz.prog w = .ok y w := by kernel_rfl
theorem two_kept {w w' : World} {g : Nat} {u v : Value} {t : TypeId} (h : Below w.heap.size w w') (hg : w.heap[g]? = some (.cells #[u, v] t (0, 0))) :
    w'.cell? ⟨g, 0, none⟩ = some u ∧ w'.cell? ⟨g, 1, none⟩ = some v := by
  have := (h.block _ (heap_lt hg)).trans hg
  exact ⟨cell_of_heap this, cell_of_heap this⟩
theorem four_kept {w w' : World} {g : Nat} {u v x y : Value} {t : TypeId} (h : Below w.heap.size w w') (hg : w.heap[g]? = some (.cells #[u, v, x, y] t (0, 0))) :
    w'.cell? ⟨g, 0, none⟩ = some u ∧ w'.cell? ⟨g, 1, none⟩ = some v ∧ w'.cell? ⟨g, 2, none⟩ = some x ∧ w'.cell? ⟨g, 3, none⟩ = some y := by
  have := (h.block _ (heap_lt hg)).trans hg
  exact ⟨cell_of_heap this, cell_of_heap this, cell_of_heap this, cell_of_heap this⟩
theorem wf_far {v : Int} (h : -100000 ≤ v ∧ v ≤ 100000) : (Lit.int .i64 v).wf = true := by
  have e1 : IntKind.i64.min = -9223372036854775808 := rfl
  have e2 : IntKind.i64.max = 9223372036854775807 := rfl
  simp only [Lit.wf, Bool.and_eq_true, decide_eq_true_eq]; omega
theorem MildT.wfD {l : List Pt} (h : MildT l) : WfT l := fun p hp => ⟨wf_mild (h p hp).1, fun r hr => ((h p hp).2 r hr).wf⟩
theorem wfT_both {rs : List R} (h : rowsF rs = 0) : WfT (ppL rs 0) := wfT_right (pp_right (po_zero h)).1
theorem wfF_both {rs : List R} (h : rowsF rs = 0) : WfF (poL rs 0).fs := fun f hf x hx => wf_of_rowF (flat_rows (po_right (po_zero h)).1 x (List.mem_flatten.2 ⟨f, hf, hx⟩)).1
theorem wfm_both {rs : List R} (h : rowsF rs = 0) : (Lit.int .i64 (poL rs 0).mark).wf = true := by rw [(po_right (po_zero h)).2.1]; rfl
theorem rd_bd (rs : List R) (f t : Int) : 0 ≤ (rdP rs f t).2 ∧ (rdP rs f t).2 ≤ 65520 := by
  unfold rdP
  split
  · exact digL_bd _
  · simp
/-- What stands: the first rows and the answer about them; places and parts; two lists of rows and the answer about them; a row. -/
structure DA (rs : List R) (A1 : Option Addr) (c1 : Nat) (f1 : List Nat) (C1 V1 : Int) (gd : Nat) (W : World) : Prop where
  rr : Rd W 4 (.slice A1 rs.length c1) (rcs rs) f1
  bd : W.heap[gd]? = some (.cells #[.int .i64 C1, .int .i64 V1] 28 (0, 0))
structure DB (p : Pl) (Av : Option Addr) (cv : Nat) (fq : List Nat) (gq : Nat) (l : List Pt) (Al : Option Addr) (cl : Nat) (fl : List Nat) (W : World) : Prop where
  pp : PlAt W p (.slice Av p.fs.length cv) fq
  ll : RdP W (.slice Al l.length cl) l fl
  bq : W.heap[gq]? = some (.cells #[.slice Av p.fs.length cv, .int .i64 p.mark] 32 (0, 0))
structure DC (ra : List R) (A2 : Option Addr) (c2 : Nat) (fa : List Nat) (rb : List R) (A3 : Option Addr) (c3 : Nat) (fb : List Nat) (C2 V2 : Int) (gf : Nat) (W : World) : Prop where
  ra : Rd W 4 (.slice A2 ra.length c2) (rcs ra) fa
  rb : Rd W 4 (.slice A3 rb.length c3) (rcs rb) fb
  bf : W.heap[gf]? = some (.cells #[.int .i64 C2, .int .i64 V2] 28 (0, 0))
theorem DA.below' {rs : List R} {A1 : Option Addr} {c1 : Nat} {f1 : List Nat} {C1 V1 : Int} {gd : Nat} {W W' : World} (h : DA rs A1 c1 f1 C1 V1 gd W) (hb : Below W.heap.size W W') : DA rs A1 c1 f1 C1 V1 gd W' :=
  ⟨h.rr.below' hb, (hb.block _ (heap_lt h.bd)).trans h.bd⟩
theorem DB.below' {p : Pl} {Av : Option Addr} {cv : Nat} {fq : List Nat} {gq : Nat} {l : List Pt} {Al : Option Addr} {cl : Nat} {fl : List Nat} {W W' : World} (h : DB p Av cv fq gq l Al cl fl W) (hb : Below W.heap.size W W') : DB p Av cv fq gq l Al cl fl W' :=
  ⟨h.pp.below' hb, h.ll.below' hb, (hb.block _ (heap_lt h.bq)).trans h.bq⟩
theorem DC.below' {ra : List R} {A2 : Option Addr} {c2 : Nat} {fa : List Nat} {rb : List R} {A3 : Option Addr} {c3 : Nat} {fb : List Nat} {C2 V2 : Int} {gf : Nat} {W W' : World} (h : DC ra A2 c2 fa rb A3 c3 fb C2 V2 gf W) (hb : Below W.heap.size W W') : DC ra A2 c2 fa rb A3 c3 fb C2 V2 gf W' :=
  ⟨h.ra.below' hb, h.rb.below' hb, (hb.block _ (heap_lt h.bf)).trans h.bf⟩

set_option maxRecDepth 100000 in
set_option maxHeartbeats 16000000 in
theorem lawDigests_c (a : Option Addr) (len cap : Nat) (z : List Int) (w : World) (h0 : IsRow .u8 w a len cap z) :
    Calls Tryz.prog 3 #[.slice a len cap] w fun e w' => e = .returned (.bool true) ∧ Below w.heap.size w w' := by
  have hlen := h0.len
  have hby := h0.byt
  obtain ⟨fp, hr⟩ := h0.rd
  clear h0
  generalize z.take len = zs at *
  subst hlen
  clear z
  have hmax := hr.len_le
  by_cases hbig : 1048576 < zs.length
  · have HBD := Lib.hid (show decide (1048576 < zs.length) = true by simp [hbig])
    go_enter Tryz.func3, Tryz.ntmps3
    go_wp2_with fail
    refine (bigCode_c _ _ _ _ hmax).mono ?_
    rintro e w1 ⟨rfl, rfl⟩
    rw [HBD.out]
    go_wp2
    go_ret
    exact ⟨rfl, Below.refl _ _⟩
  · have hs : zs.length ≤ 1048576 := by omega
    have HBD := Lib.hid (show decide (1048576 < zs.length) = false by simp [hs])
    have HCR := Lib.hid hr; have HBY := Lib.hid hby
    clear hr hby hbig
    go_enter Tryz.func3, Tryz.ntmps3
    go_wp2_with fail
    refine (bigCode_c _ _ _ _ hmax).mono ?_
    rintro e w0 ⟨rfl, rfl⟩
    rw [HBD.out]
    go_wp2_with fail
    refine (drawRangeDigest_c a cap zs w fp HCR.out HBY.out hs).mono ?_
    rintro e w1 ⟨v1, f1, rs, f, t, rfl, hr1, _, _, hmr, hl1, hf1, ht1, hb1⟩
    obtain ⟨A1, c1, rfl⟩ := hr1.rows_form
    have HR1 := Lib.hid hr1; have HMR := Lib.hid (show ∀ q ∈ rs, WfR q from fun q hq => (hmr q hq).wf); have N1 := Lib.hid hb1
    have HWF := Lib.hid (wf_mild hf1); have HWT := Lib.hid (wf_mild ht1)
    clear hr1 hmr hb1
    go_wp2_with fail
    refine (implRangeDigest_a A1 c1 rs f t _ f1 (by omega) HMR.out HWF.out HWT.out HR1.out).mono ?_
    have hvb := rd_bd rs f t
    obtain ⟨C1, V1, hD1⟩ : ∃ C V, rdP rs f t = (C, V) := ⟨_, _, rfl⟩
    rw [hD1] at hvb ⊢
    have HD1 := Lib.hid hD1; have HVB := Lib.hid hvb
    clear hD1 hvb
    rintro e w2 ⟨rfl, hb2⟩
    unfold pairV
    have N2 := Lib.hid (below_more (N1.out.trans (hb2.mono N1.out.size)) (.cells #[.int .i64 C1, .int .i64 V1] 28))
    have HA := Lib.hid (show DA rs A1 c1 f1 C1 V1 w2.heap.size (w2.alloc (.cells #[.int .i64 C1, .int .i64 V1] 28)) from ⟨(HR1.out.below' hb2).alloc _, heap_new w2 _ rfl⟩)
    clear hb2 HR1 N1
    go_wp2_with fail
    generalize w2.alloc (.cells #[.int .i64 C1, .int .i64 V1] 28) = W2 at *
    generalize w2.heap.size = gd at *
    refine (drawSameDigest_c a cap zs _ fp (HCR.out.below' N2.out) HBY.out hs).mono ?_
    rintro e w3 ⟨p, vq, fq, l, Al, cl, fl, rfl, hrp, hmp, hmk, hszp, hrl, hml, hszl, hb3⟩
    obtain ⟨Av, cv, rfl⟩ := hrp.form
    have N3 := Lib.hid (below_more (N2.out.trans (hb3.mono N2.out.size)) (.cells #[.slice Av p.fs.length cv, .int .i64 p.mark] 32))
    have HA3 := Lib.hid ((HA.out.below' hb3).below' (below_new (.cells #[.slice Av p.fs.length cv, .int .i64 p.mark] 32)))
    have HB3 := Lib.hid (show DB p Av cv fq w3.heap.size l Al cl fl (w3.alloc (.cells #[.slice Av p.fs.length cv, .int .i64 p.mark] 32)) from ⟨hrp.alloc _, hrl.alloc _, heap_new w3 _ rfl⟩)
    have HPW := Lib.hid (show WfF p.fs from fun g hg x hx => (hmp g hg x hx).wf); have HPM := Lib.hid (wf_mild hmk); have HLW := Lib.hid hml.wfD
    have hzp : plsz p ≤ 1048576 := by omega
    have hzl : psz l ≤ 1048576 := by omega
    clear hrp hmp hrl hml hb3 HA N2 hszp hszl hmk
    go_wp2_with fail
    generalize w3.alloc (.cells #[.slice Av p.fs.length cv, .int .i64 p.mark] 32) = W3 at *
    generalize w3.heap.size = gq at *
    refine (drawDifferAt_c a cap zs _ fp (HCR.out.below' N3.out) HBY.out hs).mono ?_
    rintro e w4 ⟨va, vb, fa, fb, ra, rb, rfl, hra, hrb, hma, hmb, hla, hlb, hb4⟩
    obtain ⟨A2, c2, rfl⟩ := hra.rows_form
    obtain ⟨A3, c3, rfl⟩ := hrb.rows_form
    have N4 := Lib.hid (N3.out.trans (hb4.mono N3.out.size))
    have HA4 := Lib.hid (HA3.out.below' hb4); have HB4 := Lib.hid (HB3.out.below' hb4)
    have HRA := Lib.hid hra; have HRB := Lib.hid hrb
    have HMA := Lib.hid (show ∀ q ∈ ra, WfR q from fun q hq => (hma q hq).wf); have HMB := Lib.hid (show ∀ q ∈ rb, WfR q from fun q hq => (hmb q hq).wf)
    clear hra hrb hma hmb hb4 HA3 HB3 N3
    go_wp2_with fail
    refine (implDifferAt_a A2 A3 c2 c3 ra rb _ fa fb (by omega) (by omega) HMA.out HMB.out HRA.out HRB.out).mono ?_
    obtain ⟨C2, V2, hD2⟩ : ∃ C V, dfP ra rb = (C, V) := ⟨_, _, rfl⟩
    rw [hD2]
    have HD2 := Lib.hid hD2
    clear hD2
    rintro e w5 ⟨rfl, hb5⟩
    unfold pairV
    have N5 := Lib.hid (below_more (N4.out.trans (hb5.mono N4.out.size)) (.cells #[.int .i64 C2, .int .i64 V2] 28))
    have HA5 := Lib.hid ((HA4.out.below' hb5).below' (below_new (.cells #[.int .i64 C2, .int .i64 V2] 28))); have HB5 := Lib.hid ((HB4.out.below' hb5).below' (below_new (.cells #[.int .i64 C2, .int .i64 V2] 28)))
    have HC5 := Lib.hid (show DC ra A2 c2 fa rb A3 c3 fb C2 V2 w5.heap.size (w5.alloc (.cells #[.int .i64 C2, .int .i64 V2] 28)) from ⟨(HRA.out.below' hb5).alloc _, (HRB.out.below' hb5).alloc _, heap_new w5 _ rfl⟩)
    clear hb5 HA4 HB4 HRA HRB N4
    go_wp2_with fail
    generalize w5.alloc (.cells #[.int .i64 C2, .int .i64 V2] 28) = W5 at *
    generalize w5.heap.size = gf at *
    refine (drawRowSum_c a cap zs _ fp (HCR.out.below' N5.out) HBY.out hs).mono ?_
    rintro e w6 ⟨r, rfl, hmr, hb6⟩
    have N6 := Lib.hid (below_more (N5.out.trans (hb6.mono N5.out.size)) (.cells #[.int .i64 r.1, .int .i64 r.2.1, .int .i64 r.2.2.1, .int .i64 r.2.2.2] 40))
    have HA6 := Lib.hid ((HA5.out.below' hb6).below' (below_new (.cells #[.int .i64 r.1, .int .i64 r.2.1, .int .i64 r.2.2.1, .int .i64 r.2.2.2] 40))); have HB6 := Lib.hid ((HB5.out.below' hb6).below' (below_new (.cells #[.int .i64 r.1, .int .i64 r.2.1, .int .i64 r.2.2.1, .int .i64 r.2.2.2] 40))); have HC6 := Lib.hid ((HC5.out.below' hb6).below' (below_new (.cells #[.int .i64 r.1, .int .i64 r.2.1, .int .i64 r.2.2.1, .int .i64 r.2.2.2] 40)))
    have HR6 := Lib.hid (heap_new w6 (.cells #[.int .i64 r.1, .int .i64 r.2.1, .int .i64 r.2.2.1, .int .i64 r.2.2.2] 40) rfl)
    have HMW := Lib.hid hmr.wf
    clear hmr hb6 HA5 HB5 HC5 N5
    go_wp2_with fail
    generalize w6.alloc (.cells #[.int .i64 r.1, .int .i64 r.2.1, .int .i64 r.2.2.1, .int .i64 r.2.2.2] 40) = W6 at *
    generalize w6.heap.size = gr at *
    refine (drawAddDigest_c a cap zs _ fp (HCR.out.below' N6.out) HBY.out hs).mono ?_
    rintro e W ⟨u, v, rfl, hu, hv, hb7⟩
    have HN := Lib.hid (N6.out.trans (hb7.mono N6.out.size))
    have DAX := Lib.hid (HA6.out.below' hb7); have DBX := Lib.hid (HB6.out.below' hb7); have DCX := Lib.hid (HC6.out.below' hb7)
    have DRX := Lib.hid ((hb7.block _ (heap_lt HR6.out)).trans HR6.out)
    have HWU := Lib.hid (wf_far (v := u) (by omega)); have HWV := Lib.hid (wf_far (v := v) (by omega))
    obtain ⟨RC, RV, hrs⟩ : ∃ C V, rsP r = (C, V) := ⟨_, _, rfl⟩
    obtain ⟨AC, AV, had⟩ : ∃ C V, adP u v = (C, V) := ⟨_, _, rfl⟩
    obtain ⟨sd, hsd⟩ : ∃ b, sdB p l = b := ⟨_, rfl⟩
    have HRS := Lib.hid hrs; have HAD := Lib.hid had; have HSD := Lib.hid hsd
    clear hb7 HA6 HB6 HC6 HR6 N6 hu hv hrs had hsd
    go_wp2_with fail
    have q0 := fldIr0; have q1 := fldIr1
    go_cut [136] (fun q wc => q = .bool false ∧ Hid (Below W.heap.size W wc))
    case first =>
      by_cases hc2 : C2 = 4
      · as_aux_lemma =>
        obtain ⟨g1, g2, g3⟩ := df_none (a := ra) (b := rb) (by rw [HD2.out]; exact hc2)
        have HFA := Lib.hid g1; have HFB := Lib.hid g2
        have HGA := Lib.hid (show dgP ra = (0, digL ra) by unfold dgP; rw [if_pos g1]); have HGB := Lib.hid (show dgP rb = (0, digL ra) by unfold dgP; rw [if_pos g2, g3])
        generalize digL ra = DG at *
        clear g1 g2 g3
        subst hc2
        have hld : ∀ w', Below W.heap.size W w' → w'.cell? ⟨gq, 0, none⟩ = some (.slice Av p.fs.length cv) ∧ w'.cell? ⟨gq, 1, none⟩ = some (.int .i64 p.mark) ∧ w'.cell? ⟨gf, 0, none⟩ = some (.int .i64 4) ∧ w'.cell? ⟨gf, 1, none⟩ = some (.int .i64 V2) ∧ w'.cell? ⟨gr, 0, none⟩ = some (.int .i64 r.1) ∧ w'.cell? ⟨gr, 1, none⟩ = some (.int .i64 r.2.1) ∧ w'.cell? ⟨gr, 2, none⟩ = some (.int .i64 r.2.2.1) ∧ w'.cell? ⟨gr, 3, none⟩ = some (.int .i64 r.2.2.2) := fun w' h => ⟨(two_kept h DBX.out.bq).1, (two_kept h DBX.out.bq).2, (two_kept h DCX.out.bf).1, (two_kept h DCX.out.bf).2, four_kept h DRX.out⟩
        have HLD := Lib.hid hld; clear hld
        refine wp_region_sched (fun w' => Below W.heap.size W w') [(0, true), (1, true), (3, true), (4, true), (2, false), (5, false), (6, true), (7, true), (8, true), (9, true), (10, true), (11, true), (12, false), (13, true), (14, true), (15, true), (16, true), (17, true), (18, true), (19, true), (20, true), (21, false), (22, true), (23, true), (24, true), (25, true), (26, true), (27, true), (28, true), (29, true), (30, true), (31, false), (32, true), (33, true), (34, true), (35, true), (36, false), (37, true), (38, true), (39, true), (40, true), (43, true), (41, false), (42, true), (44, false), (45, true), (46, true), (47, true), (48, true), (49, true), (50, true), (53, true), (51, false), (52, true), (54, false), (55, true), (56, true), (57, true), (58, true), (59, true), (62, true), (60, false), (61, true), (63, false), (64, true), (65, true), (66, true), (67, true), (68, true), (69, true), (72, true), (73, true), (70, false), (71, true), (74, false), (75, true), (76, true), (77, true), (78, true), (79, true), (80, true), (83, true), (84, true), (81, false), (82, true), (85, false), (86, true), (87, true), (88, true)] (by kernel_rfl) (by kernel_rfl) (by kernel_rfl) (by kernel_rfl) (fun _ _ d _ _ h => by cases d <;> exact h) ⟨rfl, rfl, rfl, Nat.le_refl _, fun _ _ => rfl⟩ ?_
        simp only [opsOf, List.filterMap_cons, List.filterMap_nil, Option.map_some, List.append_eq, List.cons_append, List.nil_append, List.getElem?_toArray, List.getElem?_cons_zero, List.getElem?_cons_succ]
        generalize hW0 : ({ heap := W.heap, tape := W.tape, drawn := W.drawn + 1, os := W.os, output := W.output } : World) = v0
        have hv0 : Below W.heap.size W v0 := by rw [← hW0]; exact ⟨rfl, rfl, rfl, Nat.le_refl _, fun _ _ => rfl⟩
        clear hW0
        refine sched_run (v := ?_) (by rfl) ?_ ?_
        rotate_left
        · (intro w' hS'; obtain ⟨a0, a1, e0, e1, r0, r1, r2, r3⟩ := HLD.out w' hS'; go_simp; try with_reducible rfl)
        try simp only [Act.put, List.setIfInBounds_toArray, List.set_cons_zero, List.set_cons_succ]
        refine sched_run (v := ?_) (by rfl) ?_ ?_
        rotate_left
        · (intro w' hS'; go_simp; try with_reducible rfl)
        try simp only [Act.put, List.setIfInBounds_toArray, List.set_cons_zero, List.set_cons_succ]
        refine sched_run (v := ?_) (by rfl) ?_ ?_
        rotate_left
        · (intro w' hS'; obtain ⟨a0, a1, e0, e1, r0, r1, r2, r3⟩ := HLD.out w' hS'; go_simp; try with_reducible rfl)
        try simp only [Act.put, List.setIfInBounds_toArray, List.set_cons_zero, List.set_cons_succ]
        refine sched_run (v := ?_) (by rfl) ?_ ?_
        rotate_left
        · (intro w' hS'; go_simp; try with_reducible rfl)
        try simp only [Act.put, List.setIfInBounds_toArray, List.set_cons_zero, List.set_cons_succ]
        refine sched_call (by rfl) (fun K hK => ?_)
        go_simp
        refine (implSameDigest_a p (.slice Av p.fs.length cv) Al cl l _ fq fl hzp HPM.out HPW.out hzl HLW.out (DBX.out.pp.below' hv0) (DBX.out.ll.below' hv0)).mono ?_
        rintro e v1 ⟨rfl, hbv0⟩
        have hv1 : Below W.heap.size W v1 := hv0.trans (hbv0.mono hv0.size)
        rw [HSD.out]
        clear hbv0
        refine hK _ _ hv1 ?_
        try simp only [Act.put, List.setIfInBounds_toArray, List.set_cons_zero, List.set_cons_succ]
        refine sched_call (by rfl) (fun K hK => ?_)
        go_simp
        refine (specSameDigest_c p (.slice Av p.fs.length cv) Al cl l _ fq fl hzp hzl (DBX.out.pp.below' hv1) (DBX.out.ll.below' hv1)).mono ?_
        rintro e v2 ⟨rfl, hbv1⟩
        have hv2 : Below W.heap.size W v2 := hv1.trans (hbv1.mono hv1.size)
        rw [HSD.out]
        clear hbv1
        refine hK _ _ hv2 ?_
        try simp only [Act.put, List.setIfInBounds_toArray, List.set_cons_zero, List.set_cons_succ]
        refine sched_run (v := ?_) (by rfl) ?_ ?_
        rotate_left
        · (intro w' hS'; go_simp; try with_reducible rfl)
        try simp only [Act.put, List.setIfInBounds_toArray, List.set_cons_zero, List.set_cons_succ]
        refine sched_run (v := ?_) (by rfl) ?_ ?_
        rotate_left
        · (intro w' hS'; go_simp; try with_reducible rfl)
        try simp only [Act.put, List.setIfInBounds_toArray, List.set_cons_zero, List.set_cons_succ]
        refine sched_run (v := ?_) (by rfl) ?_ ?_
        rotate_left
        · (intro w' hS'; go_simp; try with_reducible rfl)
        try simp only [Act.put, List.setIfInBounds_toArray, List.set_cons_zero, List.set_cons_succ]
        refine sched_run (v := ?_) (by rfl) ?_ ?_
        rotate_left
        · (intro w' hS'; obtain ⟨a0, a1, e0, e1, r0, r1, r2, r3⟩ := HLD.out w' hS'; go_simp; try with_reducible rfl)
        try simp only [Act.put, List.setIfInBounds_toArray, List.set_cons_zero, List.set_cons_succ]
        refine sched_run (v := ?_) (by rfl) ?_ ?_
        rotate_left
        · (intro w' hS'; go_simp; try with_reducible rfl)
        try simp only [Act.put, List.setIfInBounds_toArray, List.set_cons_zero, List.set_cons_succ]
        refine sched_run (v := ?_) (by rfl) ?_ ?_
        rotate_left
        · (intro w' hS'; go_simp; try with_reducible rfl)
        try simp only [Act.put, List.setIfInBounds_toArray, List.set_cons_zero, List.set_cons_succ]
        refine sched_call (by rfl) (fun K hK => ?_)
        go_simp
        refine (specDifferAt_c A2 A3 c2 c3 ra rb _ fa fb (DCX.out.ra.below' hv2) (DCX.out.rb.below' hv2)).mono ?_
        rintro e v3 ⟨rfl, hbv2⟩
        have hv3 : Below W.heap.size W v3 := hv2.trans (hbv2.mono hv2.size)
        rw [HD2.out]
        unfold pairV
        clear hbv2
        refine hK _ _ hv3 ?_
        try simp only [Act.put, List.setIfInBounds_toArray, List.set_cons_zero, List.set_cons_succ]
        refine sched_run (v := ?_) (by rfl) ?_ ?_
        rotate_left
        · (intro w' hS'; go_simp; try with_reducible rfl)
        try simp only [Act.put, List.setIfInBounds_toArray, List.set_cons_zero, List.set_cons_succ]
        refine sched_run (v := ?_) (by rfl) ?_ ?_
        rotate_left
        · (intro w' hS'; go_simp; try with_reducible rfl)
        try simp only [Act.put, List.setIfInBounds_toArray, List.set_cons_zero, List.set_cons_succ]
        refine sched_run (v := ?_) (by rfl) ?_ ?_
        rotate_left
        · (intro w' hS'; go_simp; try with_reducible rfl)
        try simp only [Act.put, List.setIfInBounds_toArray, List.set_cons_zero, List.set_cons_succ]
        refine sched_run (v := ?_) (by rfl) ?_ ?_
        rotate_left
        · (intro w' hS'; go_simp; try with_reducible rfl)
        try simp only [Act.put, List.setIfInBounds_toArray, List.set_cons_zero, List.set_cons_succ]
        refine sched_run (v := ?_) (by rfl) ?_ ?_
        rotate_left
        · (intro w' hS'; go_simp; try with_reducible rfl)
        try simp only [Act.put, List.setIfInBounds_toArray, List.set_cons_zero, List.set_cons_succ]
        refine sched_run (v := ?_) (by rfl) ?_ ?_
        rotate_left
        · (intro w' hS'; obtain ⟨a0, a1, e0, e1, r0, r1, r2, r3⟩ := HLD.out w' hS'; go_simp; try with_reducible rfl)
        try simp only [Act.put, List.setIfInBounds_toArray, List.set_cons_zero, List.set_cons_succ]
        refine sched_run (v := ?_) (by rfl) ?_ ?_
        rotate_left
        · (intro w' hS'; go_simp; try with_reducible rfl)
        try simp only [Act.put, List.setIfInBounds_toArray, List.set_cons_zero, List.set_cons_succ]
        refine sched_run (v := ?_) (by rfl) ?_ ?_
        rotate_left
        · (intro w' hS'; go_simp; try with_reducible rfl)
        try simp only [Act.put, List.setIfInBounds_toArray, List.set_cons_zero, List.set_cons_succ]
        refine sched_call (by rfl) (fun K hK => ?_)
        go_simp
        refine (specDifferAt_c A2 A3 c2 c3 ra rb _ fa fb (DCX.out.ra.below' hv3) (DCX.out.rb.below' hv3)).mono ?_
        rintro e v4 ⟨rfl, hbv3⟩
        have hv4 : Below W.heap.size W v4 := hv3.trans (hbv3.mono hv3.size)
        rw [HD2.out]
        unfold pairV
        clear hbv3
        refine hK _ _ hv4 ?_
        try simp only [Act.put, List.setIfInBounds_toArray, List.set_cons_zero, List.set_cons_succ]
        as_aux_lemma =>
        refine sched_run (v := ?_) (by rfl) ?_ ?_
        rotate_left
        · (intro w' hS'; go_simp; try with_reducible rfl)
        try simp only [Act.put, List.setIfInBounds_toArray, List.set_cons_zero, List.set_cons_succ]
        refine sched_run (v := ?_) (by rfl) ?_ ?_
        rotate_left
        · (intro w' hS'; go_simp; try with_reducible rfl)
        try simp only [Act.put, List.setIfInBounds_toArray, List.set_cons_zero, List.set_cons_succ]
        refine sched_run (v := ?_) (by rfl) ?_ ?_
        rotate_left
        · (intro w' hS'; go_simp; try with_reducible rfl)
        try simp only [Act.put, List.setIfInBounds_toArray, List.set_cons_zero, List.set_cons_succ]
        refine sched_run (v := ?_) (by rfl) ?_ ?_
        rotate_left
        · (intro w' hS'; go_simp; try with_reducible rfl)
        try simp only [Act.put, List.setIfInBounds_toArray, List.set_cons_zero, List.set_cons_succ]
        refine sched_run (v := ?_) (by rfl) ?_ ?_
        rotate_left
        · (intro w' hS'; go_simp; try with_reducible rfl)
        try simp only [Act.put, List.setIfInBounds_toArray, List.set_cons_zero, List.set_cons_succ]
        refine sched_run (v := ?_) (by rfl) ?_ ?_
        rotate_left
        · (intro w' hS'; obtain ⟨a0, a1, e0, e1, r0, r1, r2, r3⟩ := HLD.out w' hS'; go_simp; try with_reducible rfl)
        try simp only [Act.put, List.setIfInBounds_toArray, List.set_cons_zero, List.set_cons_succ]
        refine sched_run (v := ?_) (by rfl) ?_ ?_
        rotate_left
        · (intro w' hS'; go_simp; try with_reducible rfl)
        try simp only [Act.put, List.setIfInBounds_toArray, List.set_cons_zero, List.set_cons_succ]
        refine sched_run (v := ?_) (by rfl) ?_ ?_
        rotate_left
        · (intro w' hS'; go_simp; try with_reducible rfl)
        try simp only [Act.put, List.setIfInBounds_toArray, List.set_cons_zero, List.set_cons_succ]
        refine sched_run (v := ?_) (by rfl) ?_ ?_
        rotate_left
        · (intro w' hS'; go_simp; try with_reducible rfl)
        try simp only [Act.put, List.setIfInBounds_toArray, List.set_cons_zero, List.set_cons_succ]
        refine sched_call (by rfl) (fun K hK => ?_)
        go_simp
        refine (implRowsFault_a A2 c2 ra _ fa (by omega) HMA.out (DCX.out.ra.below' hv4)).mono ?_
        rintro e v5 ⟨rfl, hbv4⟩
        have hv5 : Below W.heap.size W v5 := hv4.trans (hbv4.mono hv4.size)
        rw [HFA.out]
        clear hbv4
        refine hK _ _ hv5 ?_
        try simp only [Act.put, List.setIfInBounds_toArray, List.set_cons_zero, List.set_cons_succ]
        refine sched_run (v := ?_) (by rfl) ?_ ?_
        rotate_left
        · (intro w' hS'; go_simp; try with_reducible rfl)
        try simp only [Act.put, List.setIfInBounds_toArray, List.set_cons_zero, List.set_cons_succ]
        refine sched_run (v := ?_) (by rfl) ?_ ?_
        rotate_left
        · (intro w' hS'; go_simp; try with_reducible rfl)
        try simp only [Act.put, List.setIfInBounds_toArray, List.set_cons_zero, List.set_cons_succ]
        refine sched_run (v := ?_) (by rfl) ?_ ?_
        rotate_left
        · (intro w' hS'; go_simp; try with_reducible rfl)
        try simp only [Act.put, List.setIfInBounds_toArray, List.set_cons_zero, List.set_cons_succ]
        refine sched_run (v := ?_) (by rfl) ?_ ?_
        rotate_left
        · (intro w' hS'; go_simp; try with_reducible rfl)
        try simp only [Act.put, List.setIfInBounds_toArray, List.set_cons_zero, List.set_cons_succ]
        refine sched_call (by rfl) (fun K hK => ?_)
        go_simp
        refine (implRowsFault_a A3 c3 rb _ fb (by omega) HMB.out (DCX.out.rb.below' hv5)).mono ?_
        rintro e v6 ⟨rfl, hbv5⟩
        have hv6 : Below W.heap.size W v6 := hv5.trans (hbv5.mono hv5.size)
        rw [HFB.out]
        clear hbv5
        refine hK _ _ hv6 ?_
        try simp only [Act.put, List.setIfInBounds_toArray, List.set_cons_zero, List.set_cons_succ]
        refine sched_run (v := ?_) (by rfl) ?_ ?_
        rotate_left
        · (intro w' hS'; go_simp; try with_reducible rfl)
        try simp only [Act.put, List.setIfInBounds_toArray, List.set_cons_zero, List.set_cons_succ]
        refine sched_run (v := ?_) (by rfl) ?_ ?_
        rotate_left
        · (intro w' hS'; go_simp; try with_reducible rfl)
        try simp only [Act.put, List.setIfInBounds_toArray, List.set_cons_zero, List.set_cons_succ]
        refine sched_run (v := ?_) (by rfl) ?_ ?_
        rotate_left
        · (intro w' hS'; go_simp; try with_reducible rfl)
        try simp only [Act.put, List.setIfInBounds_toArray, List.set_cons_zero, List.set_cons_succ]
        refine sched_run (v := ?_) (by rfl) ?_ ?_
        rotate_left
        · (intro w' hS'; go_simp; try with_reducible rfl)
        try simp only [Act.put, List.setIfInBounds_toArray, List.set_cons_zero, List.set_cons_succ]
        refine sched_run (v := ?_) (by rfl) ?_ ?_
        rotate_left
        · (intro w' hS'; go_simp; try with_reducible rfl)
        try simp only [Act.put, List.setIfInBounds_toArray, List.set_cons_zero, List.set_cons_succ]
        refine sched_call (by rfl) (fun K hK => ?_)
        go_simp
        refine (implDigestOf_a A2 c2 ra _ fa (by omega) HMA.out (DCX.out.ra.below' hv6)).mono ?_
        rintro e v7 ⟨rfl, hbv6⟩
        have hv7 : Below W.heap.size W v7 := hv6.trans (hbv6.mono hv6.size)
        rw [HGA.out]
        unfold pairV
        clear hbv6
        refine hK _ _ hv7 ?_
        try simp only [Act.put, List.setIfInBounds_toArray, List.set_cons_zero, List.set_cons_succ]
        refine sched_run (v := ?_) (by rfl) ?_ ?_
        rotate_left
        · (intro w' hS'; go_simp; try with_reducible rfl)
        try simp only [Act.put, List.setIfInBounds_toArray, List.set_cons_zero, List.set_cons_succ]
        as_aux_lemma =>
        refine sched_call (by rfl) (fun K hK => ?_)
        go_simp
        refine (implDigestOf_a A3 c3 rb _ fb (by omega) HMB.out (DCX.out.rb.below' hv7)).mono ?_
        rintro e v8 ⟨rfl, hbv7⟩
        have hv8 : Below W.heap.size W v8 := hv7.trans (hbv7.mono hv7.size)
        rw [HGB.out]
        unfold pairV
        clear hbv7
        refine hK _ _ hv8 ?_
        try simp only [Act.put, List.setIfInBounds_toArray, List.set_cons_zero, List.set_cons_succ]
        refine sched_run (v := ?_) (by rfl) ?_ ?_
        rotate_left
        · (intro w' hS'; go_simp; try with_reducible rfl)
        try simp only [Act.put, List.setIfInBounds_toArray, List.set_cons_zero, List.set_cons_succ]
        refine sched_run (v := ?_) (by rfl) ?_ ?_
        rotate_left
        · (intro w' hS'; go_simp; try with_reducible rfl)
        try simp only [Act.put, List.setIfInBounds_toArray, List.set_cons_zero, List.set_cons_succ]
        refine sched_run (v := ?_) (by rfl) ?_ ?_
        rotate_left
        · (intro w' hS'; go_simp; try with_reducible rfl)
        try simp only [Act.put, List.setIfInBounds_toArray, List.set_cons_zero, List.set_cons_succ]
        refine sched_run (v := ?_) (by rfl) ?_ ?_
        rotate_left
        · (intro w' hS'; go_simp; try with_reducible rfl)
        try simp only [Act.put, List.setIfInBounds_toArray, List.set_cons_zero, List.set_cons_succ]
        refine sched_run (v := ?_) (by rfl) ?_ ?_
        rotate_left
        · (intro w' hS'; go_simp; try with_reducible rfl)
        try simp only [Act.put, List.setIfInBounds_toArray, List.set_cons_zero, List.set_cons_succ]
        refine sched_run (v := ?_) (by rfl) ?_ ?_
        rotate_left
        · (intro w' hS'; obtain ⟨a0, a1, e0, e1, r0, r1, r2, r3⟩ := HLD.out w' hS'; go_simp; try with_reducible rfl)
        try simp only [Act.put, List.setIfInBounds_toArray, List.set_cons_zero, List.set_cons_succ]
        refine sched_run (v := ?_) (by rfl) ?_ ?_
        rotate_left
        · (intro w' hS'; obtain ⟨a0, a1, e0, e1, r0, r1, r2, r3⟩ := HLD.out w' hS'; go_simp; try with_reducible rfl)
        try simp only [Act.put, List.setIfInBounds_toArray, List.set_cons_zero, List.set_cons_succ]
        refine sched_call (by rfl) (fun K hK => ?_)
        go_simp
        refine (implRowSum_a r _ HMW.out).mono ?_
        rintro e v9 ⟨rfl, hbv8⟩
        have hv9 : Below W.heap.size W v9 := hv8.trans (hbv8.mono hv8.size)
        rw [HRS.out]
        unfold pairV
        clear hbv8
        refine hK _ _ hv9 ?_
        try simp only [Act.put, List.setIfInBounds_toArray, List.set_cons_zero, List.set_cons_succ]
        refine sched_run (v := ?_) (by rfl) ?_ ?_
        rotate_left
        · (intro w' hS'; go_simp; try with_reducible rfl)
        try simp only [Act.put, List.setIfInBounds_toArray, List.set_cons_zero, List.set_cons_succ]
        refine sched_call (by rfl) (fun K hK => ?_)
        go_simp
        refine (specRowSum_c r _).mono ?_
        rintro e v10 ⟨rfl, hbv9⟩
        have hv10 : Below W.heap.size W v10 := hv9.trans (hbv9.mono hv9.size)
        rw [HRS.out]
        unfold pairV
        clear hbv9
        refine hK _ _ hv10 ?_
        try simp only [Act.put, List.setIfInBounds_toArray, List.set_cons_zero, List.set_cons_succ]
        refine sched_run (v := ?_) (by rfl) ?_ ?_
        rotate_left
        · (intro w' hS'; go_simp; try with_reducible rfl)
        try simp only [Act.put, List.setIfInBounds_toArray, List.set_cons_zero, List.set_cons_succ]
        refine sched_run (v := ?_) (by rfl) ?_ ?_
        rotate_left
        · (intro w' hS'; go_simp; try with_reducible rfl)
        try simp only [Act.put, List.setIfInBounds_toArray, List.set_cons_zero, List.set_cons_succ]
        refine sched_run (v := ?_) (by rfl) ?_ ?_
        rotate_left
        · (intro w' hS'; go_simp; try with_reducible rfl)
        try simp only [Act.put, List.setIfInBounds_toArray, List.set_cons_zero, List.set_cons_succ]
        refine sched_run (v := ?_) (by rfl) ?_ ?_
        rotate_left
        · (intro w' hS'; go_simp; try with_reducible rfl)
        try simp only [Act.put, List.setIfInBounds_toArray, List.set_cons_zero, List.set_cons_succ]
        refine sched_run (v := ?_) (by rfl) ?_ ?_
        rotate_left
        · (intro w' hS'; obtain ⟨a0, a1, e0, e1, r0, r1, r2, r3⟩ := HLD.out w' hS'; go_simp; try with_reducible rfl)
        try simp only [Act.put, List.setIfInBounds_toArray, List.set_cons_zero, List.set_cons_succ]
        refine sched_run (v := ?_) (by rfl) ?_ ?_
        rotate_left
        · (intro w' hS'; obtain ⟨a0, a1, e0, e1, r0, r1, r2, r3⟩ := HLD.out w' hS'; go_simp; try with_reducible rfl)
        try simp only [Act.put, List.setIfInBounds_toArray, List.set_cons_zero, List.set_cons_succ]
        refine sched_call (by rfl) (fun K hK => ?_)
        go_simp
        refine (implRowSum_a r _ HMW.out).mono ?_
        rintro e v11 ⟨rfl, hbv10⟩
        have hv11 : Below W.heap.size W v11 := hv10.trans (hbv10.mono hv10.size)
        rw [HRS.out]
        unfold pairV
        clear hbv10
        refine hK _ _ hv11 ?_
        try simp only [Act.put, List.setIfInBounds_toArray, List.set_cons_zero, List.set_cons_succ]
        refine sched_run (v := ?_) (by rfl) ?_ ?_
        rotate_left
        · (intro w' hS'; go_simp; try with_reducible rfl)
        try simp only [Act.put, List.setIfInBounds_toArray, List.set_cons_zero, List.set_cons_succ]
        refine sched_call (by rfl) (fun K hK => ?_)
        go_simp
        refine (specRowSum_c r _).mono ?_
        rintro e v12 ⟨rfl, hbv11⟩
        have hv12 : Below W.heap.size W v12 := hv11.trans (hbv11.mono hv11.size)
        rw [HRS.out]
        unfold pairV
        clear hbv11
        refine hK _ _ hv12 ?_
        try simp only [Act.put, List.setIfInBounds_toArray, List.set_cons_zero, List.set_cons_succ]
        refine sched_run (v := ?_) (by rfl) ?_ ?_
        rotate_left
        · (intro w' hS'; go_simp; try with_reducible rfl)
        try simp only [Act.put, List.setIfInBounds_toArray, List.set_cons_zero, List.set_cons_succ]
        refine sched_run (v := ?_) (by rfl) ?_ ?_
        rotate_left
        · (intro w' hS'; go_simp; try with_reducible rfl)
        try simp only [Act.put, List.setIfInBounds_toArray, List.set_cons_zero, List.set_cons_succ]
        as_aux_lemma =>
        refine sched_run (v := ?_) (by rfl) ?_ ?_
        rotate_left
        · (intro w' hS'; go_simp; try with_reducible rfl)
        try simp only [Act.put, List.setIfInBounds_toArray, List.set_cons_zero, List.set_cons_succ]
        refine sched_run (v := ?_) (by rfl) ?_ ?_
        rotate_left
        · (intro w' hS'; go_simp; try with_reducible rfl)
        try simp only [Act.put, List.setIfInBounds_toArray, List.set_cons_zero, List.set_cons_succ]
        refine sched_run (v := ?_) (by rfl) ?_ ?_
        rotate_left
        · (intro w' hS'; go_simp; try with_reducible rfl)
        try simp only [Act.put, List.setIfInBounds_toArray, List.set_cons_zero, List.set_cons_succ]
        refine sched_run (v := ?_) (by rfl) ?_ ?_
        rotate_left
        · (intro w' hS'; go_simp; try with_reducible rfl)
        try simp only [Act.put, List.setIfInBounds_toArray, List.set_cons_zero, List.set_cons_succ]
        refine sched_run (v := ?_) (by rfl) ?_ ?_
        rotate_left
        · (intro w' hS'; go_simp; try with_reducible rfl)
        try simp only [Act.put, List.setIfInBounds_toArray, List.set_cons_zero, List.set_cons_succ]
        refine sched_run (v := ?_) (by rfl) ?_ ?_
        rotate_left
        · (intro w' hS'; go_simp; try with_reducible rfl)
        try simp only [Act.put, List.setIfInBounds_toArray, List.set_cons_zero, List.set_cons_succ]
        refine sched_call (by rfl) (fun K hK => ?_)
        go_simp
        refine (implAddDigest_a u v _ HWU.out HWV.out).mono ?_
        rintro e v13 ⟨rfl, hbv12⟩
        have hv13 : Below W.heap.size W v13 := hv12.trans (hbv12.mono hv12.size)
        rw [HAD.out]
        unfold pairV
        clear hbv12
        refine hK _ _ hv13 ?_
        try simp only [Act.put, List.setIfInBounds_toArray, List.set_cons_zero, List.set_cons_succ]
        refine sched_run (v := ?_) (by rfl) ?_ ?_
        rotate_left
        · (intro w' hS'; go_simp; try with_reducible rfl)
        try simp only [Act.put, List.setIfInBounds_toArray, List.set_cons_zero, List.set_cons_succ]
        refine sched_call (by rfl) (fun K hK => ?_)
        go_simp
        refine (specAddDigest_c u v _).mono ?_
        rintro e v14 ⟨rfl, hbv13⟩
        have hv14 : Below W.heap.size W v14 := hv13.trans (hbv13.mono hv13.size)
        rw [HAD.out]
        unfold pairV
        clear hbv13
        refine hK _ _ hv14 ?_
        try simp only [Act.put, List.setIfInBounds_toArray, List.set_cons_zero, List.set_cons_succ]
        refine sched_run (v := ?_) (by rfl) ?_ ?_
        rotate_left
        · (intro w' hS'; go_simp; try with_reducible rfl)
        try simp only [Act.put, List.setIfInBounds_toArray, List.set_cons_zero, List.set_cons_succ]
        refine sched_run (v := ?_) (by rfl) ?_ ?_
        rotate_left
        · (intro w' hS'; go_simp; try with_reducible rfl)
        try simp only [Act.put, List.setIfInBounds_toArray, List.set_cons_zero, List.set_cons_succ]
        refine sched_run (v := ?_) (by rfl) ?_ ?_
        rotate_left
        · (intro w' hS'; go_simp; try with_reducible rfl)
        try simp only [Act.put, List.setIfInBounds_toArray, List.set_cons_zero, List.set_cons_succ]
        refine sched_run (v := ?_) (by rfl) ?_ ?_
        rotate_left
        · (intro w' hS'; go_simp; try with_reducible rfl)
        try simp only [Act.put, List.setIfInBounds_toArray, List.set_cons_zero, List.set_cons_succ]
        refine sched_run (v := ?_) (by rfl) ?_ ?_
        rotate_left
        · (intro w' hS'; go_simp; try with_reducible rfl)
        try simp only [Act.put, List.setIfInBounds_toArray, List.set_cons_zero, List.set_cons_succ]
        refine sched_run (v := ?_) (by rfl) ?_ ?_
        rotate_left
        · (intro w' hS'; go_simp; try with_reducible rfl)
        try simp only [Act.put, List.setIfInBounds_toArray, List.set_cons_zero, List.set_cons_succ]
        refine sched_run (v := ?_) (by rfl) ?_ ?_
        rotate_left
        · (intro w' hS'; go_simp; try with_reducible rfl)
        try simp only [Act.put, List.setIfInBounds_toArray, List.set_cons_zero, List.set_cons_succ]
        refine sched_run (v := ?_) (by rfl) ?_ ?_
        rotate_left
        · (intro w' hS'; go_simp; try with_reducible rfl)
        try simp only [Act.put, List.setIfInBounds_toArray, List.set_cons_zero, List.set_cons_succ]
        refine sched_call (by rfl) (fun K hK => ?_)
        go_simp
        refine (implAddDigest_a u v _ HWU.out HWV.out).mono ?_
        rintro e v15 ⟨rfl, hbv14⟩
        have hv15 : Below W.heap.size W v15 := hv14.trans (hbv14.mono hv14.size)
        rw [HAD.out]
        unfold pairV
        clear hbv14
        refine hK _ _ hv15 ?_
        try simp only [Act.put, List.setIfInBounds_toArray, List.set_cons_zero, List.set_cons_succ]
        refine sched_run (v := ?_) (by rfl) ?_ ?_
        rotate_left
        · (intro w' hS'; go_simp; try with_reducible rfl)
        try simp only [Act.put, List.setIfInBounds_toArray, List.set_cons_zero, List.set_cons_succ]
        refine sched_call (by rfl) (fun K hK => ?_)
        go_simp
        refine (specAddDigest_c u v _).mono ?_
        rintro e v16 ⟨rfl, hbv15⟩
        have hv16 : Below W.heap.size W v16 := hv15.trans (hbv15.mono hv15.size)
        rw [HAD.out]
        unfold pairV
        clear hbv15
        refine hK _ _ hv16 ?_
        try simp only [Act.put, List.setIfInBounds_toArray, List.set_cons_zero, List.set_cons_succ]
        refine sched_run (v := ?_) (by rfl) ?_ ?_
        rotate_left
        · (intro w' hS'; go_simp; try with_reducible rfl)
        try simp only [Act.put, List.setIfInBounds_toArray, List.set_cons_zero, List.set_cons_succ]
        refine sched_run (v := ?_) (by rfl) ?_ ?_
        rotate_left
        · (intro w' hS'; go_simp; try with_reducible rfl)
        try simp only [Act.put, List.setIfInBounds_toArray, List.set_cons_zero, List.set_cons_succ]
        refine sched_run (v := ?_) (by rfl) ?_ ?_
        rotate_left
        · (intro w' hS'; go_simp; try with_reducible rfl)
        try simp only [Act.put, List.setIfInBounds_toArray, List.set_cons_zero, List.set_cons_succ]
        refine sched_done ?_
        go_wp2_with fail
        go_meet
        exact ⟨by simp, Lib.hid hv16⟩
      · as_aux_lemma =>
        have hc2b : (C2 == 4) = false := by simpa using hc2
        clear hc2
        have hld : ∀ w', Below W.heap.size W w' → w'.cell? ⟨gq, 0, none⟩ = some (.slice Av p.fs.length cv) ∧ w'.cell? ⟨gq, 1, none⟩ = some (.int .i64 p.mark) ∧ w'.cell? ⟨gf, 0, none⟩ = some (.int .i64 C2) ∧ w'.cell? ⟨gf, 1, none⟩ = some (.int .i64 V2) ∧ w'.cell? ⟨gr, 0, none⟩ = some (.int .i64 r.1) ∧ w'.cell? ⟨gr, 1, none⟩ = some (.int .i64 r.2.1) ∧ w'.cell? ⟨gr, 2, none⟩ = some (.int .i64 r.2.2.1) ∧ w'.cell? ⟨gr, 3, none⟩ = some (.int .i64 r.2.2.2) := fun w' h => ⟨(two_kept h DBX.out.bq).1, (two_kept h DBX.out.bq).2, (two_kept h DCX.out.bf).1, (two_kept h DCX.out.bf).2, four_kept h DRX.out⟩
        have HLD := Lib.hid hld; clear hld
        refine wp_region_sched (fun w' => Below W.heap.size W w') [(0, true), (1, true), (3, true), (4, true), (2, false), (5, false), (6, true), (7, true), (8, true), (9, true), (10, true), (11, true), (12, false), (13, true), (14, true), (15, true), (16, true), (17, true), (18, true), (19, true), (20, true), (21, false), (22, true), (23, true), (24, true), (25, true), (26, true), (27, true), (28, true), (29, true), (30, true), (31, false), (32, true), (33, true), (34, true), (35, true), (36, false), (37, true), (38, true), (39, true), (40, true), (43, true), (41, false), (42, true), (44, false), (45, true), (46, true), (47, true), (48, true), (49, true), (50, true), (53, true), (51, false), (52, true), (54, false), (55, true), (56, true), (57, true), (58, true), (59, true), (62, true), (60, false), (61, true), (63, false), (64, true), (65, true), (66, true), (67, true), (68, true), (69, true), (72, true), (73, true), (70, false), (71, true), (74, false), (75, true), (76, true), (77, true), (78, true), (79, true), (80, true), (83, true), (84, true), (81, false), (82, true), (85, false), (86, true), (87, true), (88, true)] (by kernel_rfl) (by kernel_rfl) (by kernel_rfl) (by kernel_rfl) (fun _ _ d _ _ h => by cases d <;> exact h) ⟨rfl, rfl, rfl, Nat.le_refl _, fun _ _ => rfl⟩ ?_
        simp only [opsOf, List.filterMap_cons, List.filterMap_nil, Option.map_some, List.append_eq, List.cons_append, List.nil_append, List.getElem?_toArray, List.getElem?_cons_zero, List.getElem?_cons_succ]
        generalize hW0 : ({ heap := W.heap, tape := W.tape, drawn := W.drawn + 1, os := W.os, output := W.output } : World) = v0
        have hv0 : Below W.heap.size W v0 := by rw [← hW0]; exact ⟨rfl, rfl, rfl, Nat.le_refl _, fun _ _ => rfl⟩
        clear hW0
        refine sched_run (v := ?_) (by rfl) ?_ ?_
        rotate_left
        · (intro w' hS'; obtain ⟨a0, a1, e0, e1, r0, r1, r2, r3⟩ := HLD.out w' hS'; go_simp; try with_reducible rfl)
        try simp only [Act.put, List.setIfInBounds_toArray, List.set_cons_zero, List.set_cons_succ]
        refine sched_run (v := ?_) (by rfl) ?_ ?_
        rotate_left
        · (intro w' hS'; go_simp; try with_reducible rfl)
        try simp only [Act.put, List.setIfInBounds_toArray, List.set_cons_zero, List.set_cons_succ]
        refine sched_run (v := ?_) (by rfl) ?_ ?_
        rotate_left
        · (intro w' hS'; obtain ⟨a0, a1, e0, e1, r0, r1, r2, r3⟩ := HLD.out w' hS'; go_simp; try with_reducible rfl)
        try simp only [Act.put, List.setIfInBounds_toArray, List.set_cons_zero, List.set_cons_succ]
        refine sched_run (v := ?_) (by rfl) ?_ ?_
        rotate_left
        · (intro w' hS'; go_simp; try with_reducible rfl)
        try simp only [Act.put, List.setIfInBounds_toArray, List.set_cons_zero, List.set_cons_succ]
        refine sched_call (by rfl) (fun K hK => ?_)
        go_simp
        refine (implSameDigest_a p (.slice Av p.fs.length cv) Al cl l _ fq fl hzp HPM.out HPW.out hzl HLW.out (DBX.out.pp.below' hv0) (DBX.out.ll.below' hv0)).mono ?_
        rintro e v1 ⟨rfl, hbv0⟩
        have hv1 : Below W.heap.size W v1 := hv0.trans (hbv0.mono hv0.size)
        rw [HSD.out]
        clear hbv0
        refine hK _ _ hv1 ?_
        try simp only [Act.put, List.setIfInBounds_toArray, List.set_cons_zero, List.set_cons_succ]
        refine sched_call (by rfl) (fun K hK => ?_)
        go_simp
        refine (specSameDigest_c p (.slice Av p.fs.length cv) Al cl l _ fq fl hzp hzl (DBX.out.pp.below' hv1) (DBX.out.ll.below' hv1)).mono ?_
        rintro e v2 ⟨rfl, hbv1⟩
        have hv2 : Below W.heap.size W v2 := hv1.trans (hbv1.mono hv1.size)
        rw [HSD.out]
        clear hbv1
        refine hK _ _ hv2 ?_
        try simp only [Act.put, List.setIfInBounds_toArray, List.set_cons_zero, List.set_cons_succ]
        refine sched_run (v := ?_) (by rfl) ?_ ?_
        rotate_left
        · (intro w' hS'; go_simp; try with_reducible rfl)
        try simp only [Act.put, List.setIfInBounds_toArray, List.set_cons_zero, List.set_cons_succ]
        refine sched_run (v := ?_) (by rfl) ?_ ?_
        rotate_left
        · (intro w' hS'; go_simp; try with_reducible rfl)
        try simp only [Act.put, List.setIfInBounds_toArray, List.set_cons_zero, List.set_cons_succ]
        refine sched_run (v := ?_) (by rfl) ?_ ?_
        rotate_left
        · (intro w' hS'; go_simp; try with_reducible rfl)
        try simp only [Act.put, List.setIfInBounds_toArray, List.set_cons_zero, List.set_cons_succ]
        refine sched_run (v := ?_) (by rfl) ?_ ?_
        rotate_left
        · (intro w' hS'; obtain ⟨a0, a1, e0, e1, r0, r1, r2, r3⟩ := HLD.out w' hS'; go_simp; try with_reducible rfl)
        try simp only [Act.put, List.setIfInBounds_toArray, List.set_cons_zero, List.set_cons_succ]
        refine sched_run (v := ?_) (by rfl) ?_ ?_
        rotate_left
        · (intro w' hS'; go_simp; try with_reducible rfl)
        try simp only [Act.put, List.setIfInBounds_toArray, List.set_cons_zero, List.set_cons_succ]
        refine sched_run (v := ?_) (by rfl) ?_ ?_
        rotate_left
        · (intro w' hS'; go_simp; try with_reducible rfl)
        try simp only [Act.put, List.setIfInBounds_toArray, List.set_cons_zero, List.set_cons_succ]
        refine sched_call (by rfl) (fun K hK => ?_)
        go_simp
        refine (specDifferAt_c A2 A3 c2 c3 ra rb _ fa fb (DCX.out.ra.below' hv2) (DCX.out.rb.below' hv2)).mono ?_
        rintro e v3 ⟨rfl, hbv2⟩
        have hv3 : Below W.heap.size W v3 := hv2.trans (hbv2.mono hv2.size)
        rw [HD2.out]
        unfold pairV
        clear hbv2
        refine hK _ _ hv3 ?_
        try simp only [Act.put, List.setIfInBounds_toArray, List.set_cons_zero, List.set_cons_succ]
        refine sched_run (v := ?_) (by rfl) ?_ ?_
        rotate_left
        · (intro w' hS'; go_simp; try with_reducible rfl)
        try simp only [Act.put, List.setIfInBounds_toArray, List.set_cons_zero, List.set_cons_succ]
        refine sched_run (v := ?_) (by rfl) ?_ ?_
        rotate_left
        · (intro w' hS'; go_simp; try with_reducible rfl)
        try simp only [Act.put, List.setIfInBounds_toArray, List.set_cons_zero, List.set_cons_succ]
        refine sched_run (v := ?_) (by rfl) ?_ ?_
        rotate_left
        · (intro w' hS'; go_simp; try with_reducible rfl)
        try simp only [Act.put, List.setIfInBounds_toArray, List.set_cons_zero, List.set_cons_succ]
        refine sched_run (v := ?_) (by rfl) ?_ ?_
        rotate_left
        · (intro w' hS'; go_simp; try with_reducible rfl)
        try simp only [Act.put, List.setIfInBounds_toArray, List.set_cons_zero, List.set_cons_succ]
        refine sched_run (v := ?_) (by rfl) ?_ ?_
        rotate_left
        · (intro w' hS'; go_simp; try with_reducible rfl)
        try simp only [Act.put, List.setIfInBounds_toArray, List.set_cons_zero, List.set_cons_succ]
        refine sched_run (v := ?_) (by rfl) ?_ ?_
        rotate_left
        · (intro w' hS'; obtain ⟨a0, a1, e0, e1, r0, r1, r2, r3⟩ := HLD.out w' hS'; go_simp; try with_reducible rfl)
        try simp only [Act.put, List.setIfInBounds_toArray, List.set_cons_zero, List.set_cons_succ]
        refine sched_run (v := ?_) (by rfl) ?_ ?_
        rotate_left
        · (intro w' hS'; go_simp; try with_reducible rfl)
        try simp only [Act.put, List.setIfInBounds_toArray, List.set_cons_zero, List.set_cons_succ]
        refine sched_run (v := ?_) (by rfl) ?_ ?_
        rotate_left
        · (intro w' hS'; go_simp; try with_reducible rfl)
        try simp only [Act.put, List.setIfInBounds_toArray, List.set_cons_zero, List.set_cons_succ]
        refine sched_call (by rfl) (fun K hK => ?_)
        go_simp
        refine (specDifferAt_c A2 A3 c2 c3 ra rb _ fa fb (DCX.out.ra.below' hv3) (DCX.out.rb.below' hv3)).mono ?_
        rintro e v4 ⟨rfl, hbv3⟩
        have hv4 : Below W.heap.size W v4 := hv3.trans (hbv3.mono hv3.size)
        rw [HD2.out]
        unfold pairV
        clear hbv3
        refine hK _ _ hv4 ?_
        try simp only [Act.put, List.setIfInBounds_toArray, List.set_cons_zero, List.set_cons_succ]
        as_aux_lemma =>
        refine sched_run (v := ?_) (by rfl) ?_ ?_
        rotate_left
        · (intro w' hS'; go_simp; try with_reducible rfl)
        try simp only [Act.put, List.setIfInBounds_toArray, List.set_cons_zero, List.set_cons_succ]
        refine sched_run (v := ?_) (by rfl) ?_ ?_
        rotate_left
        · (intro w' hS'; go_simp; try with_reducible rfl)
        try simp only [Act.put, List.setIfInBounds_toArray, List.set_cons_zero, List.set_cons_succ]
        refine sched_run (v := ?_) (by rfl) ?_ ?_
        rotate_left
        · (intro w' hS'; go_simp; try with_reducible rfl)
        try simp only [Act.put, List.setIfInBounds_toArray, List.set_cons_zero, List.set_cons_succ]
        refine sched_run (v := ?_) (by rfl) ?_ ?_
        rotate_left
        · (intro w' hS'; go_simp; try with_reducible rfl)
        try simp only [Act.put, List.setIfInBounds_toArray, List.set_cons_zero, List.set_cons_succ]
        refine sched_run (v := ?_) (by rfl) ?_ ?_
        rotate_left
        · (intro w' hS'; go_simp; try with_reducible rfl)
        try simp only [Act.put, List.setIfInBounds_toArray, List.set_cons_zero, List.set_cons_succ]
        refine sched_run (v := ?_) (by rfl) ?_ ?_
        rotate_left
        · (intro w' hS'; obtain ⟨a0, a1, e0, e1, r0, r1, r2, r3⟩ := HLD.out w' hS'; go_simp; try with_reducible rfl)
        try simp only [Act.put, List.setIfInBounds_toArray, List.set_cons_zero, List.set_cons_succ]
        refine sched_run (v := ?_) (by rfl) ?_ ?_
        rotate_left
        · (intro w' hS'; go_simp; try with_reducible rfl)
        try simp only [Act.put, List.setIfInBounds_toArray, List.set_cons_zero, List.set_cons_succ]
        refine sched_run (v := ?_) (by rfl) ?_ ?_
        rotate_left
        · (intro w' hS'; go_simp; try with_reducible rfl)
        try simp only [Act.put, List.setIfInBounds_toArray, List.set_cons_zero, List.set_cons_succ]
        refine sched_skip (by rfl) ?_
        try simp only [Act.put, List.setIfInBounds_toArray, List.set_cons_zero, List.set_cons_succ]
        refine sched_skip' (by rfl) ?_
        try simp only [Act.put, List.setIfInBounds_toArray, List.set_cons_zero, List.set_cons_succ]
        refine sched_skip (by rfl) ?_
        try simp only [Act.put, List.setIfInBounds_toArray, List.set_cons_zero, List.set_cons_succ]
        refine sched_run (v := ?_) (by rfl) ?_ ?_
        rotate_left
        · (intro w' hS'; go_simp; try with_reducible rfl)
        try simp only [Act.put, List.setIfInBounds_toArray, List.set_cons_zero, List.set_cons_succ]
        refine sched_run (v := ?_) (by rfl) ?_ ?_
        rotate_left
        · (intro w' hS'; go_simp; try with_reducible rfl)
        try simp only [Act.put, List.setIfInBounds_toArray, List.set_cons_zero, List.set_cons_succ]
        refine sched_skip (by rfl) ?_
        try simp only [Act.put, List.setIfInBounds_toArray, List.set_cons_zero, List.set_cons_succ]
        refine sched_skip' (by rfl) ?_
        try simp only [Act.put, List.setIfInBounds_toArray, List.set_cons_zero, List.set_cons_succ]
        refine sched_skip (by rfl) ?_
        try simp only [Act.put, List.setIfInBounds_toArray, List.set_cons_zero, List.set_cons_succ]
        refine sched_run (v := ?_) (by rfl) ?_ ?_
        rotate_left
        · (intro w' hS'; go_simp; try with_reducible rfl)
        try simp only [Act.put, List.setIfInBounds_toArray, List.set_cons_zero, List.set_cons_succ]
        refine sched_run (v := ?_) (by rfl) ?_ ?_
        rotate_left
        · (intro w' hS'; go_simp; try with_reducible rfl)
        try simp only [Act.put, List.setIfInBounds_toArray, List.set_cons_zero, List.set_cons_succ]
        refine sched_skip (by rfl) ?_
        try simp only [Act.put, List.setIfInBounds_toArray, List.set_cons_zero, List.set_cons_succ]
        refine sched_skip (by rfl) ?_
        try simp only [Act.put, List.setIfInBounds_toArray, List.set_cons_zero, List.set_cons_succ]
        refine sched_skip' (by rfl) ?_
        try simp only [Act.put, List.setIfInBounds_toArray, List.set_cons_zero, List.set_cons_succ]
        refine sched_skip (by rfl) ?_
        try simp only [Act.put, List.setIfInBounds_toArray, List.set_cons_zero, List.set_cons_succ]
        as_aux_lemma =>
        refine sched_skip' (by rfl) ?_
        try simp only [Act.put, List.setIfInBounds_toArray, List.set_cons_zero, List.set_cons_succ]
        refine sched_skip (by rfl) ?_
        try simp only [Act.put, List.setIfInBounds_toArray, List.set_cons_zero, List.set_cons_succ]
        refine sched_skip (by rfl) ?_
        try simp only [Act.put, List.setIfInBounds_toArray, List.set_cons_zero, List.set_cons_succ]
        refine sched_run (v := ?_) (by rfl) ?_ ?_
        rotate_left
        · (intro w' hS'; go_simp; try with_reducible rfl)
        try simp only [Act.put, List.setIfInBounds_toArray, List.set_cons_zero, List.set_cons_succ]
        refine sched_run (v := ?_) (by rfl) ?_ ?_
        rotate_left
        · (intro w' hS'; go_simp; try with_reducible rfl)
        try simp only [Act.put, List.setIfInBounds_toArray, List.set_cons_zero, List.set_cons_succ]
        refine sched_run (v := ?_) (by rfl) ?_ ?_
        rotate_left
        · (intro w' hS'; go_simp; try with_reducible rfl)
        try simp only [Act.put, List.setIfInBounds_toArray, List.set_cons_zero, List.set_cons_succ]
        refine sched_run (v := ?_) (by rfl) ?_ ?_
        rotate_left
        · (intro w' hS'; obtain ⟨a0, a1, e0, e1, r0, r1, r2, r3⟩ := HLD.out w' hS'; go_simp; try with_reducible rfl)
        try simp only [Act.put, List.setIfInBounds_toArray, List.set_cons_zero, List.set_cons_succ]
        refine sched_run (v := ?_) (by rfl) ?_ ?_
        rotate_left
        · (intro w' hS'; obtain ⟨a0, a1, e0, e1, r0, r1, r2, r3⟩ := HLD.out w' hS'; go_simp; try with_reducible rfl)
        try simp only [Act.put, List.setIfInBounds_toArray, List.set_cons_zero, List.set_cons_succ]
        refine sched_call (by rfl) (fun K hK => ?_)
        go_simp
        refine (implRowSum_a r _ HMW.out).mono ?_
        rintro e v5 ⟨rfl, hbv4⟩
        have hv5 : Below W.heap.size W v5 := hv4.trans (hbv4.mono hv4.size)
        rw [HRS.out]
        unfold pairV
        clear hbv4
        refine hK _ _ hv5 ?_
        try simp only [Act.put, List.setIfInBounds_toArray, List.set_cons_zero, List.set_cons_succ]
        refine sched_run (v := ?_) (by rfl) ?_ ?_
        rotate_left
        · (intro w' hS'; go_simp; try with_reducible rfl)
        try simp only [Act.put, List.setIfInBounds_toArray, List.set_cons_zero, List.set_cons_succ]
        refine sched_call (by rfl) (fun K hK => ?_)
        go_simp
        refine (specRowSum_c r _).mono ?_
        rintro e v6 ⟨rfl, hbv5⟩
        have hv6 : Below W.heap.size W v6 := hv5.trans (hbv5.mono hv5.size)
        rw [HRS.out]
        unfold pairV
        clear hbv5
        refine hK _ _ hv6 ?_
        try simp only [Act.put, List.setIfInBounds_toArray, List.set_cons_zero, List.set_cons_succ]
        refine sched_run (v := ?_) (by rfl) ?_ ?_
        rotate_left
        · (intro w' hS'; go_simp; try with_reducible rfl)
        try simp only [Act.put, List.setIfInBounds_toArray, List.set_cons_zero, List.set_cons_succ]
        refine sched_run (v := ?_) (by rfl) ?_ ?_
        rotate_left
        · (intro w' hS'; go_simp; try with_reducible rfl)
        try simp only [Act.put, List.setIfInBounds_toArray, List.set_cons_zero, List.set_cons_succ]
        refine sched_run (v := ?_) (by rfl) ?_ ?_
        rotate_left
        · (intro w' hS'; go_simp; try with_reducible rfl)
        try simp only [Act.put, List.setIfInBounds_toArray, List.set_cons_zero, List.set_cons_succ]
        refine sched_run (v := ?_) (by rfl) ?_ ?_
        rotate_left
        · (intro w' hS'; go_simp; try with_reducible rfl)
        try simp only [Act.put, List.setIfInBounds_toArray, List.set_cons_zero, List.set_cons_succ]
        refine sched_run (v := ?_) (by rfl) ?_ ?_
        rotate_left
        · (intro w' hS'; obtain ⟨a0, a1, e0, e1, r0, r1, r2, r3⟩ := HLD.out w' hS'; go_simp; try with_reducible rfl)
        try simp only [Act.put, List.setIfInBounds_toArray, List.set_cons_zero, List.set_cons_succ]
        refine sched_run (v := ?_) (by rfl) ?_ ?_
        rotate_left
        · (intro w' hS'; obtain ⟨a0, a1, e0, e1, r0, r1, r2, r3⟩ := HLD.out w' hS'; go_simp; try with_reducible rfl)
        try simp only [Act.put, List.setIfInBounds_toArray, List.set_cons_zero, List.set_cons_succ]
        refine sched_call (by rfl) (fun K hK => ?_)
        go_simp
        refine (implRowSum_a r _ HMW.out).mono ?_
        rintro e v7 ⟨rfl, hbv6⟩
        have hv7 : Below W.heap.size W v7 := hv6.trans (hbv6.mono hv6.size)
        rw [HRS.out]
        unfold pairV
        clear hbv6
        refine hK _ _ hv7 ?_
        try simp only [Act.put, List.setIfInBounds_toArray, List.set_cons_zero, List.set_cons_succ]
        refine sched_run (v := ?_) (by rfl) ?_ ?_
        rotate_left
        · (intro w' hS'; go_simp; try with_reducible rfl)
        try simp only [Act.put, List.setIfInBounds_toArray, List.set_cons_zero, List.set_cons_succ]
        refine sched_call (by rfl) (fun K hK => ?_)
        go_simp
        refine (specRowSum_c r _).mono ?_
        rintro e v8 ⟨rfl, hbv7⟩
        have hv8 : Below W.heap.size W v8 := hv7.trans (hbv7.mono hv7.size)
        rw [HRS.out]
        unfold pairV
        clear hbv7
        refine hK _ _ hv8 ?_
        try simp only [Act.put, List.setIfInBounds_toArray, List.set_cons_zero, List.set_cons_succ]
        refine sched_run (v := ?_) (by rfl) ?_ ?_
        rotate_left
        · (intro w' hS'; go_simp; try with_reducible rfl)
        try simp only [Act.put, List.setIfInBounds_toArray, List.set_cons_zero, List.set_cons_succ]
        refine sched_run (v := ?_) (by rfl) ?_ ?_
        rotate_left
        · (intro w' hS'; go_simp; try with_reducible rfl)
        try simp only [Act.put, List.setIfInBounds_toArray, List.set_cons_zero, List.set_cons_succ]
        as_aux_lemma =>
        refine sched_run (v := ?_) (by rfl) ?_ ?_
        rotate_left
        · (intro w' hS'; go_simp; try with_reducible rfl)
        try simp only [Act.put, List.setIfInBounds_toArray, List.set_cons_zero, List.set_cons_succ]
        refine sched_run (v := ?_) (by rfl) ?_ ?_
        rotate_left
        · (intro w' hS'; go_simp; try with_reducible rfl)
        try simp only [Act.put, List.setIfInBounds_toArray, List.set_cons_zero, List.set_cons_succ]
        refine sched_run (v := ?_) (by rfl) ?_ ?_
        rotate_left
        · (intro w' hS'; go_simp; try with_reducible rfl)
        try simp only [Act.put, List.setIfInBounds_toArray, List.set_cons_zero, List.set_cons_succ]
        refine sched_run (v := ?_) (by rfl) ?_ ?_
        rotate_left
        · (intro w' hS'; go_simp; try with_reducible rfl)
        try simp only [Act.put, List.setIfInBounds_toArray, List.set_cons_zero, List.set_cons_succ]
        refine sched_run (v := ?_) (by rfl) ?_ ?_
        rotate_left
        · (intro w' hS'; go_simp; try with_reducible rfl)
        try simp only [Act.put, List.setIfInBounds_toArray, List.set_cons_zero, List.set_cons_succ]
        refine sched_run (v := ?_) (by rfl) ?_ ?_
        rotate_left
        · (intro w' hS'; go_simp; try with_reducible rfl)
        try simp only [Act.put, List.setIfInBounds_toArray, List.set_cons_zero, List.set_cons_succ]
        refine sched_call (by rfl) (fun K hK => ?_)
        go_simp
        refine (implAddDigest_a u v _ HWU.out HWV.out).mono ?_
        rintro e v9 ⟨rfl, hbv8⟩
        have hv9 : Below W.heap.size W v9 := hv8.trans (hbv8.mono hv8.size)
        rw [HAD.out]
        unfold pairV
        clear hbv8
        refine hK _ _ hv9 ?_
        try simp only [Act.put, List.setIfInBounds_toArray, List.set_cons_zero, List.set_cons_succ]
        refine sched_run (v := ?_) (by rfl) ?_ ?_
        rotate_left
        · (intro w' hS'; go_simp; try with_reducible rfl)
        try simp only [Act.put, List.setIfInBounds_toArray, List.set_cons_zero, List.set_cons_succ]
        refine sched_call (by rfl) (fun K hK => ?_)
        go_simp
        refine (specAddDigest_c u v _).mono ?_
        rintro e v10 ⟨rfl, hbv9⟩
        have hv10 : Below W.heap.size W v10 := hv9.trans (hbv9.mono hv9.size)
        rw [HAD.out]
        unfold pairV
        clear hbv9
        refine hK _ _ hv10 ?_
        try simp only [Act.put, List.setIfInBounds_toArray, List.set_cons_zero, List.set_cons_succ]
        refine sched_run (v := ?_) (by rfl) ?_ ?_
        rotate_left
        · (intro w' hS'; go_simp; try with_reducible rfl)
        try simp only [Act.put, List.setIfInBounds_toArray, List.set_cons_zero, List.set_cons_succ]
        refine sched_run (v := ?_) (by rfl) ?_ ?_
        rotate_left
        · (intro w' hS'; go_simp; try with_reducible rfl)
        try simp only [Act.put, List.setIfInBounds_toArray, List.set_cons_zero, List.set_cons_succ]
        refine sched_run (v := ?_) (by rfl) ?_ ?_
        rotate_left
        · (intro w' hS'; go_simp; try with_reducible rfl)
        try simp only [Act.put, List.setIfInBounds_toArray, List.set_cons_zero, List.set_cons_succ]
        refine sched_run (v := ?_) (by rfl) ?_ ?_
        rotate_left
        · (intro w' hS'; go_simp; try with_reducible rfl)
        try simp only [Act.put, List.setIfInBounds_toArray, List.set_cons_zero, List.set_cons_succ]
        refine sched_run (v := ?_) (by rfl) ?_ ?_
        rotate_left
        · (intro w' hS'; go_simp; try with_reducible rfl)
        try simp only [Act.put, List.setIfInBounds_toArray, List.set_cons_zero, List.set_cons_succ]
        refine sched_run (v := ?_) (by rfl) ?_ ?_
        rotate_left
        · (intro w' hS'; go_simp; try with_reducible rfl)
        try simp only [Act.put, List.setIfInBounds_toArray, List.set_cons_zero, List.set_cons_succ]
        refine sched_run (v := ?_) (by rfl) ?_ ?_
        rotate_left
        · (intro w' hS'; go_simp; try with_reducible rfl)
        try simp only [Act.put, List.setIfInBounds_toArray, List.set_cons_zero, List.set_cons_succ]
        refine sched_run (v := ?_) (by rfl) ?_ ?_
        rotate_left
        · (intro w' hS'; go_simp; try with_reducible rfl)
        try simp only [Act.put, List.setIfInBounds_toArray, List.set_cons_zero, List.set_cons_succ]
        refine sched_call (by rfl) (fun K hK => ?_)
        go_simp
        refine (implAddDigest_a u v _ HWU.out HWV.out).mono ?_
        rintro e v11 ⟨rfl, hbv10⟩
        have hv11 : Below W.heap.size W v11 := hv10.trans (hbv10.mono hv10.size)
        rw [HAD.out]
        unfold pairV
        clear hbv10
        refine hK _ _ hv11 ?_
        try simp only [Act.put, List.setIfInBounds_toArray, List.set_cons_zero, List.set_cons_succ]
        refine sched_run (v := ?_) (by rfl) ?_ ?_
        rotate_left
        · (intro w' hS'; go_simp; try with_reducible rfl)
        try simp only [Act.put, List.setIfInBounds_toArray, List.set_cons_zero, List.set_cons_succ]
        refine sched_call (by rfl) (fun K hK => ?_)
        go_simp
        refine (specAddDigest_c u v _).mono ?_
        rintro e v12 ⟨rfl, hbv11⟩
        have hv12 : Below W.heap.size W v12 := hv11.trans (hbv11.mono hv11.size)
        rw [HAD.out]
        unfold pairV
        clear hbv11
        refine hK _ _ hv12 ?_
        try simp only [Act.put, List.setIfInBounds_toArray, List.set_cons_zero, List.set_cons_succ]
        refine sched_run (v := ?_) (by rfl) ?_ ?_
        rotate_left
        · (intro w' hS'; go_simp; try with_reducible rfl)
        try simp only [Act.put, List.setIfInBounds_toArray, List.set_cons_zero, List.set_cons_succ]
        refine sched_run (v := ?_) (by rfl) ?_ ?_
        rotate_left
        · (intro w' hS'; go_simp; try with_reducible rfl)
        try simp only [Act.put, List.setIfInBounds_toArray, List.set_cons_zero, List.set_cons_succ]
        refine sched_run (v := ?_) (by rfl) ?_ ?_
        rotate_left
        · (intro w' hS'; go_simp; try with_reducible rfl)
        try simp only [Act.put, List.setIfInBounds_toArray, List.set_cons_zero, List.set_cons_succ]
        refine sched_done ?_
        go_wp2_with fail
        go_meet
        exact ⟨by simp, Lib.hid hv12⟩
    case rest =>
      as_aux_lemma =>
      obtain ⟨rfl, HVC⟩ := hcut
      have ⟨V, hV⟩ : ∃ x, x = wc := ⟨_, rfl⟩
      subst hV
      have DA2 := Lib.hid (DAX.out.below' HVC.out)
      have HN2 := Lib.hid (HN.out.trans (HVC.out.mono HN.out.size))
      clear DAX DBX DCX DRX HN HVC
      obtain ⟨p0, p1, _, _, hzp⟩ := two_at DA2.out.bd
      by_cases hc1 : C1 = 0
      · have hwh := dig_whole (rs := rs) (f := f) (t := t) (by rw [HD1.out]; exact hc1)
        rw [HD1.out] at hwh
        obtain ⟨e1, e2, e3, e4, e5, e6⟩ := hwh
        try simp only at e2 e4
        have b1 := digL_bd (cutR rs 0 f); have b2 := digL_bd (cutR rs t 100); have b3 := addS_bd (digL (cutR rs 0 f)) V1
        have hsb := sd_both e5
        have hw1 := wfT_both e5; have hw2 := wfF_both e5; have hw3 := wfm_both e5; have hpz := po_zero e5
        have hzP := poL_sz rs 0; have hzQ := ppL_sz rs 0
        generalize digL (cutR rs 0 f) = X0 at *
        generalize addS X0 V1 = Y1 at *
        generalize digL (cutR rs t 100) = X2 at *
        generalize digL rs = DX at *
        generalize hPP : poL rs 0 = PP at *
        generalize hQQ : ppL rs 0 = QQ at *
        have hvb2 := HVB.out
        try simp only at hvb2
        have wx0 := wf_far (v := X0) (by omega); have wv1 := wf_far (v := V1) (by omega); have wx2 := wf_far (v := X2) (by omega); have wy1 := wf_far (v := Y1) (by omega)
        have wf0 := wf_far (v := 0) (by omega); have wf1 := wf_far (v := 100) (by omega)
        have hl9 : rs.length ≤ 1048576 := by omega
        have E1 := Lib.hid e1; have E2 := Lib.hid e2; have E3 := Lib.hid e3; have E4 := Lib.hid e4; have E6 := Lib.hid e6; have HSB := Lib.hid hsb
        have HW1 := Lib.hid hw1; have HW2 := Lib.hid hw2; have HW3 := Lib.hid hw3; have HPZ := Lib.hid hpz; have HPP := Lib.hid hPP; have HQQ := Lib.hid hQQ
        clear e1 e2 e3 e4 e5 e6 hsb hw1 hw2 hw3 hpz hPP hQQ b1 b2 b3 hvb2
        subst hc1
        go_wp2_with fail
        clear p0 p1 hzp
        go_cut [15] (fun q wc => ∃ g, q = .pointer (some ⟨g, 0, none⟩) ∧ Hid (wc.heap[g]? = some (.cells #[.int .i64 0, .int .i64 DX] 28 (0, 0))) ∧ Hid (Below V.heap.size V wc))
        case first =>
          as_aux_lemma =>
          have hld : ∀ w', Below V.heap.size V w' → w'.cell? ⟨gd, 0, none⟩ = some (.int .i64 0) ∧ w'.cell? ⟨gd, 1, none⟩ = some (.int .i64 V1) := fun w' h => two_kept h DA2.out.bd
          have HLD := Lib.hid hld; clear hld
          refine wp_region_sch (fun w' => Below V.heap.size V w') (.run 0 (.run 1 (.run 4 (.run 5 (.run 8 (.run 9 (.fork 2 13 (.run 3 (.fork 6 13 (.run 7 (.fork 10 13 (.run 11 (.fork 12 13 (.one 13 (.one 14 .done)) (.one 12 (.one 14 .done)))) (.one 10 (.run 11 (.one 12 (.one 14 .done)))))) (.one 6 (.run 7 (.one 10 (.run 11 (.one 12 (.one 14 .done)))))))) (.one 2 (.run 3 (.one 6 (.run 7 (.one 10 (.run 11 (.one 12 (.one 14 .done))))))))))))))) (by kernel_rfl) (by kernel_rfl) (by kernel_rfl) (by kernel_rfl) (fun _ _ d _ _ h => by cases d <;> exact h) ⟨rfl, rfl, rfl, Nat.le_refl _, fun _ _ => rfl⟩ ?_
          simp only [Sch.res, Option.map_some, Option.bind_some, List.getElem?_toArray, List.getElem?_cons_zero, List.getElem?_cons_succ, wpSchR_some]
          generalize hW0 : ({ heap := V.heap, tape := V.tape, drawn := V.drawn + 1, os := V.os, output := V.output } : World) = y0
          have hy0 : Below V.heap.size V y0 := by rw [← hW0]; exact ⟨rfl, rfl, rfl, Nat.le_refl _, fun _ _ => rfl⟩
          clear hW0
          refine sch_run (v := ?_) (by rfl) ?_ ?_
          rotate_left
          · (intro w' hS'; obtain ⟨b0, b1⟩ := HLD.out w' hS'; go_simp; try with_reducible rfl)
          try simp only [Act.put, List.setIfInBounds_toArray, List.set_cons_zero, List.set_cons_succ]
          refine sch_run (v := ?_) (by rfl) ?_ ?_
          rotate_left
          · (intro w' hS'; obtain ⟨b0, b1⟩ := HLD.out w' hS'; go_simp; try with_reducible rfl)
          try simp only [Act.put, List.setIfInBounds_toArray, List.set_cons_zero, List.set_cons_succ]
          refine sch_run (v := ?_) (by rfl) ?_ ?_
          rotate_left
          · (intro w' hS'; obtain ⟨b0, b1⟩ := HLD.out w' hS'; go_simp; try with_reducible rfl)
          try simp only [Act.put, List.setIfInBounds_toArray, List.set_cons_zero, List.set_cons_succ]
          refine sch_run (v := ?_) (by rfl) ?_ ?_
          rotate_left
          · (intro w' hS'; obtain ⟨b0, b1⟩ := HLD.out w' hS'; go_simp; try with_reducible rfl)
          try simp only [Act.put, List.setIfInBounds_toArray, List.set_cons_zero, List.set_cons_succ]
          refine sch_run (v := ?_) (by rfl) ?_ ?_
          rotate_left
          · (intro w' hS'; obtain ⟨b0, b1⟩ := HLD.out w' hS'; go_simp; try with_reducible rfl)
          try simp only [Act.put, List.setIfInBounds_toArray, List.set_cons_zero, List.set_cons_succ]
          refine sch_run (v := ?_) (by rfl) ?_ ?_
          rotate_left
          · (intro w' hS'; obtain ⟨b0, b1⟩ := HLD.out w' hS'; go_simp; try with_reducible rfl)
          try simp only [Act.put, List.setIfInBounds_toArray, List.set_cons_zero, List.set_cons_succ]
          refine sch_fork (by rfl) (by rfl) (fun K hK => ?_) (fun K hK => ?_)
          · skip
            go_simp
            refine (implRangeDigest_a A1 c1 rs 0 f _ f1 hl9 HMR.out wf0 HWF.out (DA2.out.rr.below' hy0)).mono ?_
            rw [E1.out]
            rintro e y1 ⟨rfl, hby1⟩
            unfold pairV
            have hy1 : Below V.heap.size V y1 := hy0.trans (hby1.mono hy0.size)
            clear hby1
            refine hK _ _ hy1 ?_
            try simp only [Act.put, List.setIfInBounds_toArray, List.set_cons_zero, List.set_cons_succ]
            refine sch_run (v := ?_) (by rfl) ?_ ?_
            rotate_left
            · (intro w' hS'; obtain ⟨b0, b1⟩ := HLD.out w' hS'; go_simp; try with_reducible rfl)
            try simp only [Act.put, List.setIfInBounds_toArray, List.set_cons_zero, List.set_cons_succ]
            refine sch_fork (by rfl) (by rfl) (fun K hK => ?_) (fun K hK => ?_)
            · skip
              go_simp
              refine (implAddDigest_a X0 V1 _ wx0 wv1).mono ?_
              rw [E2.out]
              rintro e y2 ⟨rfl, hby2⟩
              unfold pairV
              have hy2 : Below V.heap.size V y2 := hy1.trans (hby2.mono hy1.size)
              clear hby2
              refine hK _ _ hy2 ?_
              try simp only [Act.put, List.setIfInBounds_toArray, List.set_cons_zero, List.set_cons_succ]
              refine sch_run (v := ?_) (by rfl) ?_ ?_
              rotate_left
              · (intro w' hS'; obtain ⟨b0, b1⟩ := HLD.out w' hS'; go_simp; try with_reducible rfl)
              try simp only [Act.put, List.setIfInBounds_toArray, List.set_cons_zero, List.set_cons_succ]
              refine sch_fork (by rfl) (by rfl) (fun K hK => ?_) (fun K hK => ?_)
              · skip
                go_simp
                refine (implRangeDigest_a A1 c1 rs t 100 _ f1 hl9 HMR.out HWT.out wf1 (DA2.out.rr.below' hy2)).mono ?_
                rw [E3.out]
                rintro e y3 ⟨rfl, hby3⟩
                unfold pairV
                have hy3 : Below V.heap.size V y3 := hy2.trans (hby3.mono hy2.size)
                clear hby3
                refine hK _ _ hy3 ?_
                try simp only [Act.put, List.setIfInBounds_toArray, List.set_cons_zero, List.set_cons_succ]
                refine sch_run (v := ?_) (by rfl) ?_ ?_
                rotate_left
                · (intro w' hS'; obtain ⟨b0, b1⟩ := HLD.out w' hS'; go_simp; try with_reducible rfl)
                try simp only [Act.put, List.setIfInBounds_toArray, List.set_cons_zero, List.set_cons_succ]
                refine sch_fork (by rfl) (by rfl) (fun K hK => ?_) (fun K hK => ?_)
                · skip
                  go_simp
                  refine (implAddDigest_a Y1 X2 _ wy1 wx2).mono ?_
                  rw [E4.out]
                  rintro e y4 ⟨rfl, hby4⟩
                  unfold pairV
                  have hy4 : Below V.heap.size V y4 := hy3.trans (hby4.mono hy3.size)
                  clear hby4
                  refine hK _ _ hy4 ?_
                  try simp only [Act.put, List.setIfInBounds_toArray, List.set_cons_zero, List.set_cons_succ]
                  refine sch_one (by rfl) (fun K hK => ?_)
                  go_simp
                  have ggy5 := Lib.hid (heap_new y4 (.cells #[.int .i64 0, .int .i64 0] 28) rfl)
                  have hly5 := hy4.size
                  have hy5 := below_more hy4 (.cells #[.int .i64 0, .int .i64 0] 28)
                  refine hK _ _ hy5 ?_
                  try simp only [Act.put, List.setIfInBounds_toArray, List.set_cons_zero, List.set_cons_succ]
                  generalize y4.alloc (.cells #[.int .i64 0, .int .i64 0] 28) = y5 at *
                  generalize y4.heap.size = gay5 at *
                  refine sch_one (by rfl) (fun K hK => ?_)
                  obtain ⟨z0, z1, z2, z3, z4⟩ := two_at ggy5.out
                  go_simp
                  refine hK _ _ ((hy5.setCell (by exact hly5) _).setCell (by exact hly5) _) (sch_done ?_)
                  try simp only [Act.put, List.setIfInBounds_toArray, List.set_cons_zero, List.set_cons_succ]
                  clear z0 z1 z2 z3 z4
                  go_wp2_with fail
                  go_meet
                  exact ⟨_, rfl, Lib.hid (heap_set1 (heap_set1 ggy5.out)), Lib.hid ((hy5.setCell (by exact hly5) _).setCell (by exact hly5) _)⟩
                · as_aux_lemma =>
                  go_simp
                  have ggy6 := Lib.hid (heap_new y3 (.cells #[.int .i64 0, .int .i64 0] 28) rfl)
                  have hly6 := hy3.size
                  have hy6 := below_more hy3 (.cells #[.int .i64 0, .int .i64 0] 28)
                  refine hK _ _ hy6 ?_
                  try simp only [Act.put, List.setIfInBounds_toArray, List.set_cons_zero, List.set_cons_succ]
                  generalize y3.alloc (.cells #[.int .i64 0, .int .i64 0] 28) = y6 at *
                  generalize y3.heap.size = gay6 at *
                  refine sch_one (by rfl) (fun K hK => ?_)
                  go_simp
                  refine (implAddDigest_a Y1 X2 _ wy1 wx2).mono ?_
                  rw [E4.out]
                  rintro e y7 ⟨rfl, hby7⟩
                  unfold pairV
                  have hy7 : Below V.heap.size V y7 := hy6.trans (hby7.mono hy6.size)
                  have ggy7 := Lib.hid ((hby7.block _ (heap_lt ggy6.out)).trans ggy6.out)
                  clear hby7
                  refine hK _ _ hy7 ?_
                  try simp only [Act.put, List.setIfInBounds_toArray, List.set_cons_zero, List.set_cons_succ]
                  refine sch_one (by rfl) (fun K hK => ?_)
                  obtain ⟨z0, z1, z2, z3, z4⟩ := two_at ggy7.out
                  go_simp
                  refine hK _ _ ((hy7.setCell (by exact hly6) _).setCell (by exact hly6) _) (sch_done ?_)
                  try simp only [Act.put, List.setIfInBounds_toArray, List.set_cons_zero, List.set_cons_succ]
                  clear z0 z1 z2 z3 z4
                  go_wp2_with fail
                  go_meet
                  exact ⟨_, rfl, Lib.hid (heap_set1 (heap_set1 ggy7.out)), Lib.hid ((hy7.setCell (by exact hly6) _).setCell (by exact hly6) _)⟩
              · as_aux_lemma =>
                go_simp
                have ggy8 := Lib.hid (heap_new y2 (.cells #[.int .i64 0, .int .i64 0] 28) rfl)
                have hly8 := hy2.size
                have hy8 := below_more hy2 (.cells #[.int .i64 0, .int .i64 0] 28)
                refine hK _ _ hy8 ?_
                try simp only [Act.put, List.setIfInBounds_toArray, List.set_cons_zero, List.set_cons_succ]
                generalize y2.alloc (.cells #[.int .i64 0, .int .i64 0] 28) = y8 at *
                generalize y2.heap.size = gay8 at *
                refine sch_one (by rfl) (fun K hK => ?_)
                go_simp
                refine (implRangeDigest_a A1 c1 rs t 100 _ f1 hl9 HMR.out HWT.out wf1 (DA2.out.rr.below' hy8)).mono ?_
                rw [E3.out]
                rintro e y9 ⟨rfl, hby9⟩
                unfold pairV
                have hy9 : Below V.heap.size V y9 := hy8.trans (hby9.mono hy8.size)
                have ggy9 := Lib.hid ((hby9.block _ (heap_lt ggy8.out)).trans ggy8.out)
                clear hby9
                refine hK _ _ hy9 ?_
                try simp only [Act.put, List.setIfInBounds_toArray, List.set_cons_zero, List.set_cons_succ]
                refine sch_run (v := ?_) (by rfl) ?_ ?_
                rotate_left
                · (intro w' hS'; obtain ⟨b0, b1⟩ := HLD.out w' hS'; go_simp; try with_reducible rfl)
                try simp only [Act.put, List.setIfInBounds_toArray, List.set_cons_zero, List.set_cons_succ]
                refine sch_one (by rfl) (fun K hK => ?_)
                go_simp
                refine (implAddDigest_a Y1 X2 _ wy1 wx2).mono ?_
                rw [E4.out]
                rintro e y10 ⟨rfl, hby10⟩
                unfold pairV
                have hy10 : Below V.heap.size V y10 := hy9.trans (hby10.mono hy9.size)
                have ggy10 := Lib.hid ((hby10.block _ (heap_lt ggy9.out)).trans ggy9.out)
                clear hby10
                refine hK _ _ hy10 ?_
                try simp only [Act.put, List.setIfInBounds_toArray, List.set_cons_zero, List.set_cons_succ]
                refine sch_one (by rfl) (fun K hK => ?_)
                obtain ⟨z0, z1, z2, z3, z4⟩ := two_at ggy10.out
                go_simp
                refine hK _ _ ((hy10.setCell (by exact hly8) _).setCell (by exact hly8) _) (sch_done ?_)
                try simp only [Act.put, List.setIfInBounds_toArray, List.set_cons_zero, List.set_cons_succ]
                clear z0 z1 z2 z3 z4
                go_wp2_with fail
                go_meet
                exact ⟨_, rfl, Lib.hid (heap_set1 (heap_set1 ggy10.out)), Lib.hid ((hy10.setCell (by exact hly8) _).setCell (by exact hly8) _)⟩
            · as_aux_lemma =>
              go_simp
              have ggy11 := Lib.hid (heap_new y1 (.cells #[.int .i64 0, .int .i64 0] 28) rfl)
              have hly11 := hy1.size
              have hy11 := below_more hy1 (.cells #[.int .i64 0, .int .i64 0] 28)
              refine hK _ _ hy11 ?_
              try simp only [Act.put, List.setIfInBounds_toArray, List.set_cons_zero, List.set_cons_succ]
              generalize y1.alloc (.cells #[.int .i64 0, .int .i64 0] 28) = y11 at *
              generalize y1.heap.size = gay11 at *
              refine sch_one (by rfl) (fun K hK => ?_)
              go_simp
              refine (implAddDigest_a X0 V1 _ wx0 wv1).mono ?_
              rw [E2.out]
              rintro e y12 ⟨rfl, hby12⟩
              unfold pairV
              have hy12 : Below V.heap.size V y12 := hy11.trans (hby12.mono hy11.size)
              have ggy12 := Lib.hid ((hby12.block _ (heap_lt ggy11.out)).trans ggy11.out)
              clear hby12
              refine hK _ _ hy12 ?_
              try simp only [Act.put, List.setIfInBounds_toArray, List.set_cons_zero, List.set_cons_succ]
              refine sch_run (v := ?_) (by rfl) ?_ ?_
              rotate_left
              · (intro w' hS'; obtain ⟨b0, b1⟩ := HLD.out w' hS'; go_simp; try with_reducible rfl)
              try simp only [Act.put, List.setIfInBounds_toArray, List.set_cons_zero, List.set_cons_succ]
              refine sch_one (by rfl) (fun K hK => ?_)
              go_simp
              refine (implRangeDigest_a A1 c1 rs t 100 _ f1 hl9 HMR.out HWT.out wf1 (DA2.out.rr.below' hy12)).mono ?_
              rw [E3.out]
              rintro e y13 ⟨rfl, hby13⟩
              unfold pairV
              have hy13 : Below V.heap.size V y13 := hy12.trans (hby13.mono hy12.size)
              have ggy13 := Lib.hid ((hby13.block _ (heap_lt ggy12.out)).trans ggy12.out)
              clear hby13
              refine hK _ _ hy13 ?_
              try simp only [Act.put, List.setIfInBounds_toArray, List.set_cons_zero, List.set_cons_succ]
              refine sch_run (v := ?_) (by rfl) ?_ ?_
              rotate_left
              · (intro w' hS'; obtain ⟨b0, b1⟩ := HLD.out w' hS'; go_simp; try with_reducible rfl)
              try simp only [Act.put, List.setIfInBounds_toArray, List.set_cons_zero, List.set_cons_succ]
              refine sch_one (by rfl) (fun K hK => ?_)
              go_simp
              refine (implAddDigest_a Y1 X2 _ wy1 wx2).mono ?_
              rw [E4.out]
              rintro e y14 ⟨rfl, hby14⟩
              unfold pairV
              have hy14 : Below V.heap.size V y14 := hy13.trans (hby14.mono hy13.size)
              have ggy14 := Lib.hid ((hby14.block _ (heap_lt ggy13.out)).trans ggy13.out)
              clear hby14
              refine hK _ _ hy14 ?_
              try simp only [Act.put, List.setIfInBounds_toArray, List.set_cons_zero, List.set_cons_succ]
              refine sch_one (by rfl) (fun K hK => ?_)
              obtain ⟨z0, z1, z2, z3, z4⟩ := two_at ggy14.out
              go_simp
              refine hK _ _ ((hy14.setCell (by exact hly11) _).setCell (by exact hly11) _) (sch_done ?_)
              try simp only [Act.put, List.setIfInBounds_toArray, List.set_cons_zero, List.set_cons_succ]
              clear z0 z1 z2 z3 z4
              go_wp2_with fail
              go_meet
              exact ⟨_, rfl, Lib.hid (heap_set1 (heap_set1 ggy14.out)), Lib.hid ((hy14.setCell (by exact hly11) _).setCell (by exact hly11) _)⟩
          · as_aux_lemma =>
            go_simp
            have ggy15 := Lib.hid (heap_new y0 (.cells #[.int .i64 0, .int .i64 0] 28) rfl)
            have hly15 := hy0.size
            have hy15 := below_more hy0 (.cells #[.int .i64 0, .int .i64 0] 28)
            refine hK _ _ hy15 ?_
            try simp only [Act.put, List.setIfInBounds_toArray, List.set_cons_zero, List.set_cons_succ]
            generalize y0.alloc (.cells #[.int .i64 0, .int .i64 0] 28) = y15 at *
            generalize y0.heap.size = gay15 at *
            refine sch_one (by rfl) (fun K hK => ?_)
            go_simp
            refine (implRangeDigest_a A1 c1 rs 0 f _ f1 hl9 HMR.out wf0 HWF.out (DA2.out.rr.below' hy15)).mono ?_
            rw [E1.out]
            rintro e y16 ⟨rfl, hby16⟩
            unfold pairV
            have hy16 : Below V.heap.size V y16 := hy15.trans (hby16.mono hy15.size)
            have ggy16 := Lib.hid ((hby16.block _ (heap_lt ggy15.out)).trans ggy15.out)
            clear hby16
            refine hK _ _ hy16 ?_
            try simp only [Act.put, List.setIfInBounds_toArray, List.set_cons_zero, List.set_cons_succ]
            refine sch_run (v := ?_) (by rfl) ?_ ?_
            rotate_left
            · (intro w' hS'; obtain ⟨b0, b1⟩ := HLD.out w' hS'; go_simp; try with_reducible rfl)
            try simp only [Act.put, List.setIfInBounds_toArray, List.set_cons_zero, List.set_cons_succ]
            refine sch_one (by rfl) (fun K hK => ?_)
            go_simp
            refine (implAddDigest_a X0 V1 _ wx0 wv1).mono ?_
            rw [E2.out]
            rintro e y17 ⟨rfl, hby17⟩
            unfold pairV
            have hy17 : Below V.heap.size V y17 := hy16.trans (hby17.mono hy16.size)
            have ggy17 := Lib.hid ((hby17.block _ (heap_lt ggy16.out)).trans ggy16.out)
            clear hby17
            refine hK _ _ hy17 ?_
            try simp only [Act.put, List.setIfInBounds_toArray, List.set_cons_zero, List.set_cons_succ]
            refine sch_run (v := ?_) (by rfl) ?_ ?_
            rotate_left
            · (intro w' hS'; obtain ⟨b0, b1⟩ := HLD.out w' hS'; go_simp; try with_reducible rfl)
            try simp only [Act.put, List.setIfInBounds_toArray, List.set_cons_zero, List.set_cons_succ]
            refine sch_one (by rfl) (fun K hK => ?_)
            go_simp
            refine (implRangeDigest_a A1 c1 rs t 100 _ f1 hl9 HMR.out HWT.out wf1 (DA2.out.rr.below' hy17)).mono ?_
            rw [E3.out]
            rintro e y18 ⟨rfl, hby18⟩
            unfold pairV
            have hy18 : Below V.heap.size V y18 := hy17.trans (hby18.mono hy17.size)
            have ggy18 := Lib.hid ((hby18.block _ (heap_lt ggy17.out)).trans ggy17.out)
            clear hby18
            refine hK _ _ hy18 ?_
            try simp only [Act.put, List.setIfInBounds_toArray, List.set_cons_zero, List.set_cons_succ]
            refine sch_run (v := ?_) (by rfl) ?_ ?_
            rotate_left
            · (intro w' hS'; obtain ⟨b0, b1⟩ := HLD.out w' hS'; go_simp; try with_reducible rfl)
            try simp only [Act.put, List.setIfInBounds_toArray, List.set_cons_zero, List.set_cons_succ]
            refine sch_one (by rfl) (fun K hK => ?_)
            go_simp
            refine (implAddDigest_a Y1 X2 _ wy1 wx2).mono ?_
            rw [E4.out]
            rintro e y19 ⟨rfl, hby19⟩
            unfold pairV
            have hy19 : Below V.heap.size V y19 := hy18.trans (hby19.mono hy18.size)
            have ggy19 := Lib.hid ((hby19.block _ (heap_lt ggy18.out)).trans ggy18.out)
            clear hby19
            refine hK _ _ hy19 ?_
            try simp only [Act.put, List.setIfInBounds_toArray, List.set_cons_zero, List.set_cons_succ]
            refine sch_one (by rfl) (fun K hK => ?_)
            obtain ⟨z0, z1, z2, z3, z4⟩ := two_at ggy19.out
            go_simp
            refine hK _ _ ((hy19.setCell (by exact hly15) _).setCell (by exact hly15) _) (sch_done ?_)
            try simp only [Act.put, List.setIfInBounds_toArray, List.set_cons_zero, List.set_cons_succ]
            clear z0 z1 z2 z3 z4
            go_wp2_with fail
            go_meet
            exact ⟨_, rfl, Lib.hid (heap_set1 (heap_set1 ggy19.out)), Lib.hid ((hy19.setCell (by exact hly15) _).setCell (by exact hly15) _)⟩
        case rest =>
          as_aux_lemma =>
          obtain ⟨gz, rfl, HGZ, HZB⟩ := hcut
          have ⟨Z, hZ⟩ : ∃ x, x = wc := ⟨_, rfl⟩
          subst hZ
          have DA3 := Lib.hid (DA2.out.below' HZB.out)
          have HN3 := Lib.hid (HN2.out.trans (HZB.out.mono HN2.out.size))
          have q2 := fldPr1; have q3 := fldPs1
          clear DA2 HN2 HZB
          go_wp2_with fail
          have hld : ∀ w', Below Z.heap.size Z w' → w'.cell? ⟨gz, 0, none⟩ = some (.int .i64 0) ∧ w'.cell? ⟨gz, 1, none⟩ = some (.int .i64 DX) ∧ w'.cell? ⟨gd, 0, none⟩ = some (.int .i64 0) ∧ w'.cell? ⟨gd, 1, none⟩ = some (.int .i64 V1) := fun w' h => ⟨(two_kept h HGZ.out).1, (two_kept h HGZ.out).2, two_kept h DA3.out.bd⟩
          have HLD := Lib.hid hld; clear hld
          refine wp_region_sched (fun w' => Below Z.heap.size Z w') [(0, true), (1, true), (2, true), (3, false), (4, true), (5, true), (6, true), (7, true), (10, true), (8, false), (9, true), (11, false), (12, true), (13, false), (14, true), (15, true), (16, true), (17, true), (18, true), (19, true), (20, true), (21, false), (22, true), (23, true), (24, true), (25, true)] (by kernel_rfl) (by kernel_rfl) (by kernel_rfl) (by kernel_rfl) (fun _ _ d _ _ h => by cases d <;> exact h) ⟨rfl, rfl, rfl, Nat.le_refl _, fun _ _ => rfl⟩ ?_
          simp only [opsOf, List.filterMap_cons, List.filterMap_nil, Option.map_some, List.getElem?_toArray, List.getElem?_cons_zero, List.getElem?_cons_succ]
          generalize hW0 : ({ heap := Z.heap, tape := Z.tape, drawn := Z.drawn + 1, os := Z.os, output := Z.output } : World) = s0
          have hs0 : Below Z.heap.size Z s0 := by rw [← hW0]; exact ⟨rfl, rfl, rfl, Nat.le_refl _, fun _ _ => rfl⟩
          clear hW0
          refine sched_run (v := ?_) (by rfl) ?_ ?_
          rotate_left
          · (intro w' hS'; go_simp; try with_reducible rfl)
          try simp only [Act.put, List.setIfInBounds_toArray, List.set_cons_zero, List.set_cons_succ]
          refine sched_run (v := ?_) (by rfl) ?_ ?_
          rotate_left
          · (intro w' hS'; obtain ⟨a0, a1, b0, b1⟩ := HLD.out w' hS'; go_simp; try with_reducible rfl)
          try simp only [Act.put, List.setIfInBounds_toArray, List.set_cons_zero, List.set_cons_succ]
          refine sched_run (v := ?_) (by rfl) ?_ ?_
          rotate_left
          · (intro w' hS'; go_simp; try with_reducible rfl)
          try simp only [Act.put, List.setIfInBounds_toArray, List.set_cons_zero, List.set_cons_succ]
          refine sched_call (by rfl) (fun K hK => ?_)
          go_simp
          refine (implDigestOf_a A1 c1 rs _ f1 hl9 HMR.out (DA3.out.rr.below' hs0)).mono ?_
          rintro e s1 ⟨rfl, hbs0⟩
          have hs1 : Below Z.heap.size Z s1 := hs0.trans (hbs0.mono hs0.size)
          rw [E6.out]
          unfold pairV
          clear hbs0
          refine hK _ _ hs1 ?_
          try simp only [Act.put, List.setIfInBounds_toArray, List.set_cons_zero, List.set_cons_succ]
          refine sched_run (v := ?_) (by rfl) ?_ ?_
          rotate_left
          · (intro w' hS'; go_simp; try with_reducible rfl)
          try simp only [Act.put, List.setIfInBounds_toArray, List.set_cons_zero, List.set_cons_succ]
          refine sched_run (v := ?_) (by rfl) ?_ ?_
          rotate_left
          · (intro w' hS'; go_simp; try with_reducible rfl)
          try simp only [Act.put, List.setIfInBounds_toArray, List.set_cons_zero, List.set_cons_succ]
          refine sched_run (v := ?_) (by rfl) ?_ ?_
          rotate_left
          · (intro w' hS'; go_simp; try with_reducible rfl)
          try simp only [Act.put, List.setIfInBounds_toArray, List.set_cons_zero, List.set_cons_succ]
          refine sched_run (v := ?_) (by rfl) ?_ ?_
          rotate_left
          · (intro w' hS'; go_simp; try with_reducible rfl)
          try simp only [Act.put, List.setIfInBounds_toArray, List.set_cons_zero, List.set_cons_succ]
          refine sched_run (v := ?_) (by rfl) ?_ ?_
          rotate_left
          · (intro w' hS'; go_simp; try with_reducible rfl)
          try simp only [Act.put, List.setIfInBounds_toArray, List.set_cons_zero, List.set_cons_succ]
          refine sched_call (by rfl) (fun K hK => ?_)
          go_simp
          refine (implPlacesOf_a A1 c1 rs 0 _ f1 hl9 HMR.out wf0 (DA3.out.rr.below' hs1)).mono ?_
          rintro e s2 ⟨vO, fO, rfl, hro, _, _, hbs1⟩
          have hs2 : Below Z.heap.size Z s2 := hs1.trans (hbs1.mono hs1.size)
          rw [HPP.out] at hro
          rw [HPZ.out, HPP.out]
          obtain ⟨AO, cO, rfl⟩ := hro.form
          have HRO := Lib.hid hro
          clear hro
          clear hbs1
          refine hK _ _ hs2 ?_
          try simp only [Act.put, List.setIfInBounds_toArray, List.set_cons_zero, List.set_cons_succ]
          refine sched_run (v := ?_) (by rfl) ?_ ?_
          rotate_left
          · (intro w' hS'; go_simp; try with_reducible rfl)
          try simp only [Act.put, List.setIfInBounds_toArray, List.set_cons_zero, List.set_cons_succ]
          refine sched_call (by rfl) (fun K hK => ?_)
          go_simp
          refine (implPartsFrom_a A1 c1 rs 0 _ f1 hl9 HMR.out wf0 (DA3.out.rr.below' hs2)).mono ?_
          rintro e s3 ⟨vG, fG, rfl, hrg, _, _, hbs2⟩
          have hs3 : Below Z.heap.size Z s3 := hs2.trans (hbs2.mono hs2.size)
          rw [HQQ.out] at hrg
          rw [HPZ.out]
          obtain ⟨AG, cG, rfl, _⟩ := hrg.form
          have HRG := Lib.hid hrg
          have HRO2 := Lib.hid (HRO.out.below' hbs2)
          clear hrg HRO
          clear hbs2
          refine hK _ _ hs3 ?_
          try simp only [Act.put, List.setIfInBounds_toArray, List.set_cons_zero, List.set_cons_succ]
          refine sched_run (v := ?_) (by rfl) ?_ ?_
          rotate_left
          · (intro w' hS'; go_simp; try with_reducible rfl)
          try simp only [Act.put, List.setIfInBounds_toArray, List.set_cons_zero, List.set_cons_succ]
          refine sched_call (by rfl) (fun K hK => ?_)
          go_simp
          refine (implSameDigest_a PP (.slice AO PP.fs.length cO) AG cG QQ _ fO fG hzP HW3.out HW2.out hzQ HW1.out HRO2.out HRG.out).mono ?_
          rintro e s4 ⟨rfl, hbs3⟩
          have hs4 : Below Z.heap.size Z s4 := hs3.trans (hbs3.mono hs3.size)
          rw [HSB.out]
          clear hbs3
          refine hK _ _ hs4 ?_
          try simp only [Act.put, List.setIfInBounds_toArray, List.set_cons_zero, List.set_cons_succ]
          refine sched_run (v := ?_) (by rfl) ?_ ?_
          rotate_left
          · (intro w' hS'; go_simp; try with_reducible rfl)
          try simp only [Act.put, List.setIfInBounds_toArray, List.set_cons_zero, List.set_cons_succ]
          refine sched_run (v := ?_) (by rfl) ?_ ?_
          rotate_left
          · (intro w' hS'; go_simp; try with_reducible rfl)
          try simp only [Act.put, List.setIfInBounds_toArray, List.set_cons_zero, List.set_cons_succ]
          refine sched_run (v := ?_) (by rfl) ?_ ?_
          rotate_left
          · (intro w' hS'; go_simp; try with_reducible rfl)
          try simp only [Act.put, List.setIfInBounds_toArray, List.set_cons_zero, List.set_cons_succ]
          refine sched_run (v := ?_) (by rfl) ?_ ?_
          rotate_left
          · (intro w' hS'; obtain ⟨a0, a1, b0, b1⟩ := HLD.out w' hS'; go_simp; try with_reducible rfl)
          try simp only [Act.put, List.setIfInBounds_toArray, List.set_cons_zero, List.set_cons_succ]
          refine sched_run (v := ?_) (by rfl) ?_ ?_
          rotate_left
          · (intro w' hS'; go_simp; try with_reducible rfl)
          try simp only [Act.put, List.setIfInBounds_toArray, List.set_cons_zero, List.set_cons_succ]
          refine sched_run (v := ?_) (by rfl) ?_ ?_
          rotate_left
          · (intro w' hS'; go_simp; try with_reducible rfl)
          try simp only [Act.put, List.setIfInBounds_toArray, List.set_cons_zero, List.set_cons_succ]
          refine sched_run (v := ?_) (by rfl) ?_ ?_
          rotate_left
          · (intro w' hS'; go_simp; try with_reducible rfl)
          try simp only [Act.put, List.setIfInBounds_toArray, List.set_cons_zero, List.set_cons_succ]
          refine sched_call (by rfl) (fun K hK => ?_)
          go_simp
          refine (specRangeDigest_c A1 c1 rs f t _ f1 (DA3.out.rr.below' hs4)).mono ?_
          rintro e s5 ⟨rfl, hbs4⟩
          have hs5 : Below Z.heap.size Z s5 := hs4.trans (hbs4.mono hs4.size)
          rw [HD1.out]
          unfold pairV
          clear hbs4
          refine hK _ _ hs5 ?_
          try simp only [Act.put, List.setIfInBounds_toArray, List.set_cons_zero, List.set_cons_succ]
          refine sched_run (v := ?_) (by rfl) ?_ ?_
          rotate_left
          · (intro w' hS'; go_simp; try with_reducible rfl)
          try simp only [Act.put, List.setIfInBounds_toArray, List.set_cons_zero, List.set_cons_succ]
          refine sched_run (v := ?_) (by rfl) ?_ ?_
          rotate_left
          · (intro w' hS'; go_simp; try with_reducible rfl)
          try simp only [Act.put, List.setIfInBounds_toArray, List.set_cons_zero, List.set_cons_succ]
          refine sched_run (v := ?_) (by rfl) ?_ ?_
          rotate_left
          · (intro w' hS'; go_simp; try with_reducible rfl)
          try simp only [Act.put, List.setIfInBounds_toArray, List.set_cons_zero, List.set_cons_succ]
          refine sched_run (v := ?_) (by rfl) ?_ ?_
          rotate_left
          · (intro w' hS'; go_simp; try with_reducible rfl)
          try simp only [Act.put, List.setIfInBounds_toArray, List.set_cons_zero, List.set_cons_succ]
          refine sched_done ?_
          go_wp2_with fail
          go_ret
          exact ⟨by simp, HN3.out.trans (hs5.mono HN3.out.size)⟩
      · as_aux_lemma =>
        have hcb : (C1 != 0) = true := by simpa using hc1
        clear hc1
        go_wp2_with fail
        clear p0 p1 hzp
        have hld : ∀ w', Below V.heap.size V w' → w'.cell? ⟨gd, 0, none⟩ = some (.int .i64 C1) ∧ True := fun w' h => ⟨(two_kept h DA2.out.bd).1, trivial⟩
        have HLD := Lib.hid hld; clear hld
        refine wp_region_sched (fun w' => Below V.heap.size V w') [(0, true), (1, true), (2, true), (5, true), (6, true), (3, false), (4, true), (7, true), (8, true)] (by kernel_rfl) (by kernel_rfl) (by kernel_rfl) (by kernel_rfl) (fun _ _ d _ _ h => by cases d <;> exact h) ⟨rfl, rfl, rfl, Nat.le_refl _, fun _ _ => rfl⟩ ?_
        simp only [opsOf, List.filterMap_cons, List.filterMap_nil, Option.map_some, List.getElem?_toArray, List.getElem?_cons_zero, List.getElem?_cons_succ]
        generalize hW0 : ({ heap := V.heap, tape := V.tape, drawn := V.drawn + 1, os := V.os, output := V.output } : World) = u0
        have hu0 : Below V.heap.size V u0 := by rw [← hW0]; exact ⟨rfl, rfl, rfl, Nat.le_refl _, fun _ _ => rfl⟩
        clear hW0
        refine sched_run (v := ?_) (by rfl) ?_ ?_
        rotate_left
        · (intro w' hS'; go_simp; try with_reducible rfl)
        try simp only [Act.put, List.setIfInBounds_toArray, List.set_cons_zero, List.set_cons_succ]
        refine sched_run (v := ?_) (by rfl) ?_ ?_
        rotate_left
        · (intro w' hS'; go_simp; try with_reducible rfl)
        try simp only [Act.put, List.setIfInBounds_toArray, List.set_cons_zero, List.set_cons_succ]
        refine sched_run (v := ?_) (by rfl) ?_ ?_
        rotate_left
        · (intro w' hS'; go_simp; try with_reducible rfl)
        try simp only [Act.put, List.setIfInBounds_toArray, List.set_cons_zero, List.set_cons_succ]
        refine sched_run (v := ?_) (by rfl) ?_ ?_
        rotate_left
        · (intro w' hS'; go_simp; try with_reducible rfl)
        try simp only [Act.put, List.setIfInBounds_toArray, List.set_cons_zero, List.set_cons_succ]
        refine sched_run (v := ?_) (by rfl) ?_ ?_
        rotate_left
        · (intro w' hS'; obtain ⟨a0, _⟩ := HLD.out w' hS'; go_simp; try with_reducible rfl)
        try simp only [Act.put, List.setIfInBounds_toArray, List.set_cons_zero, List.set_cons_succ]
        refine sched_call (by rfl) (fun K hK => ?_)
        go_simp
        refine (specRangeDigest_c A1 c1 rs f t _ f1 (DA2.out.rr.below' hu0)).mono ?_
        rintro e u1 ⟨rfl, hbu0⟩
        have hu1 : Below V.heap.size V u1 := hu0.trans (hbu0.mono hu0.size)
        rw [HD1.out]
        unfold pairV
        clear hbu0
        refine hK _ _ hu1 ?_
        try simp only [Act.put, List.setIfInBounds_toArray, List.set_cons_zero, List.set_cons_succ]
        refine sched_run (v := ?_) (by rfl) ?_ ?_
        rotate_left
        · (intro w' hS'; go_simp; try with_reducible rfl)
        try simp only [Act.put, List.setIfInBounds_toArray, List.set_cons_zero, List.set_cons_succ]
        refine sched_run (v := ?_) (by rfl) ?_ ?_
        rotate_left
        · (intro w' hS'; go_simp; try with_reducible rfl)
        try simp only [Act.put, List.setIfInBounds_toArray, List.set_cons_zero, List.set_cons_succ]
        refine sched_run (v := ?_) (by rfl) ?_ ?_
        rotate_left
        · (intro w' hS'; go_simp; try with_reducible rfl)
        try simp only [Act.put, List.setIfInBounds_toArray, List.set_cons_zero, List.set_cons_succ]
        refine sched_done ?_
        go_wp2_with fail
        go_ret
        exact ⟨by simp, HN2.out.trans (hu1.mono HN2.out.size)⟩
end Go.Proofs.YtldimfmhbdhbnaaGreat
