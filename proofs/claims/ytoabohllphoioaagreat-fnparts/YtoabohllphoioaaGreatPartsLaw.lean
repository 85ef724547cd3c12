/- The law FnParts answers true for every slice of bytes: the walk. By a maker (fnparts.py). -/
import Derived.Test.YtoabohllphoioaaGreatLwBig
import Derived.Test.YtoabohllphoioaaGreatDraw7b
import Derived.Test.YtoabohllphoioaaGreatFin7
import Derived.Test.YtoabohllphoioaaGreatImpl2b
import Derived.Test.YtoabohllphoioaaGreatG31
import Derived.Test.YtoabohllphoioaaGreatG30
import Derived.Test.YtoabohllphoioaaGreatSpec7b
import Derived.Test.YtoabohllphoioaaGreatG29
import Derived.Test.YtoabohllphoioaaGreatSame7
import Derived.Test.YtoabohllphoioaaGreatSum7
import Derived.Test.YtoabohllphoioaaGreatG23
namespace Go.Proofs.YtoabohllphoioaaGreat
open Go.RowKit

theorem fldPs0 (x y : Value) (w : World) : (Instr.field 29 (.agg #[x, y]) 0).run Tryz.prog w = .ok x w := by kernel_rfl
theorem fldPs1 (x y : Value) (w : World) : (Instr.field 29 (.agg #[x, y]) 1).run Tryz.prog w = .ok y w := by kernel_rfl
theorem fldRs1 (x y : Value) (w : World) : (Instr.field 46 (.agg #[x, y]) 1).run Tryz.prog w = .ok y w := by kernel_rfl
theorem fldIr0 (x y : Value) (w : World) : (Instr.field 40 (.agg #[x, y]) 0).run Tryz.prog w = .ok x w := by kernel_rfl
theorem fldIr1 (x y : Value) (w : World) : (Instr.field 40 (.agg #[x, y]) 1).run Tryz.prog w = .ok y w := by kernel_rfl
theorem fldPl1 (x y z : Value) (w : World) : (Instr.field 54 (.agg #[x, y, z]) 1).run Tryz.prog w = .ok (.agg #[y, z]) w := by kernel_rfl
theorem two_kept {w w' : World} {g : Nat} {u v : Value} {t : TypeId} (h : Below w.heap.size w w') (hg : w.heap[g]? = some (.cells #[u, v] t (0, 0))) :
    w'.cell? ⟨g, 0, none⟩ = some u ∧ w'.cell? ⟨g, 1, none⟩ = some v := by
  have := (h.block _ (heap_lt hg)).trans hg
  exact ⟨cell_of_heap this, cell_of_heap this⟩
theorem four_kept {w w' : World} {g : Nat} {u v x y : Value} {t : TypeId} (h : Below w.heap.size w w') (hg : w.heap[g]? = some (.cells #[u, v, x, y] t (0, 0))) :
    w'.cell? ⟨g, 0, none⟩ = some u ∧ w'.cell? ⟨g, 1, none⟩ = some v ∧ w'.cell? ⟨g, 2, none⟩ = some x ∧ w'.cell? ⟨g, 3, none⟩ = some y := by
  have := (h.block _ (heap_lt hg)).trans hg
  exact ⟨cell_of_heap this, cell_of_heap this, cell_of_heap this, cell_of_heap this⟩
theorem MildT.wf {l : List Pt} (h : MildT l) : WfT l := fun p hp => ⟨wf_mild (h p hp).1, fun r hr => ((h p hp).2 r hr).wf⟩
theorem wfs_of_rowsF {L : List R} (h : rowsF L = 0) : ∀ x ∈ L, WfR x := fun x hx => wf_of_rowF ((rowsF_rising h).1.above x hx).1
/-- What stands: the parts made of rows; the drawn parts and row; the written parts. -/
structure PA (rs : List R) (A1 : Option Addr) (c1 : Nat) (f1 : List Nat) (C1 : Int) (P : List Pt) (AP : Option Addr) (cP : Nat) (fP : List Nat) (gp : Nat) (W : World) : Prop where
  rr : Rd W 4 (.slice A1 rs.length c1) (rcs rs) f1
  pp : RdP W (.slice AP P.length cP) P fP
  bp : W.heap[gp]? = some (.cells #[.int .i64 C1, .slice AP P.length cP] 29 (0, 0))
structure PB (l : List Pt) (Al : Option Addr) (cl : Nat) (fl : List Nat) (r : R) (gr : Nat) (W : World) : Prop where
  ll : RdP W (.slice Al l.length cl) l fl
  br : W.heap[gr]? = some (.cells #[.int .i64 r.1, .int .i64 r.2.1, .int .i64 r.2.2.1, .int .i64 r.2.2.2] 32 (0, 0))
structure PC (C2 : Int) (Q : List Pt) (AQ : Option Addr) (cQ : Nat) (fQ : List Nat) (gw : Nat) (W : World) : Prop where
  qq : RdP W (.slice AQ Q.length cQ) Q fQ
  bw : W.heap[gw]? = some (.cells #[.int .i64 C2, .slice AQ Q.length cQ] 29 (0, 0))
theorem PA.below' {rs : List R} {A1 : Option Addr} {c1 : Nat} {f1 : List Nat} {C1 : Int} {P : List Pt} {AP : Option Addr} {cP : Nat} {fP : List Nat} {gp : Nat} {W W' : World} (h : PA rs A1 c1 f1 C1 P AP cP fP gp W) (hb : Below W.heap.size W W') : PA rs A1 c1 f1 C1 P AP cP fP gp W' :=
  ⟨h.rr.below' hb, h.pp.below' hb, (hb.block _ (heap_lt h.bp)).trans h.bp⟩
theorem PB.below' {l : List Pt} {Al : Option Addr} {cl : Nat} {fl : List Nat} {r : R} {gr : Nat} {W W' : World} (h : PB l Al cl fl r gr W) (hb : Below W.heap.size W W') : PB l Al cl fl r gr W' :=
  ⟨h.ll.below' hb, (hb.block _ (heap_lt h.br)).trans h.br⟩
theorem PC.below' {C2 : Int} {Q : List Pt} {AQ : Option Addr} {cQ : Nat} {fQ : List Nat} {gw : Nat} {W W' : World} (h : PC C2 Q AQ cQ fQ gw W) (hb : Below W.heap.size W W') : PC C2 Q AQ cQ fQ gw W' :=
  ⟨h.qq.below' hb, (hb.block _ (heap_lt h.bw)).trans h.bw⟩

set_option maxRecDepth 100000 in
set_option maxHeartbeats 16000000 in
theorem lawParts_c (a : Option Addr) (len cap : Nat) (z : List Int) (w : World) (h0 : IsRow .u8 w a len cap z) :
    Calls Tryz.prog 3 #[.slice a len cap] w fun e w' => e = .returned (.bool true) ∧ Below w.heap.size w w' := by
  have hlen := h0.len
  have hby := h0.byt
  obtain ⟨fp, hr⟩ := h0.rd
  clear h0
  generalize z.take len = zs at *
  subst hlen
  clear z
  have hmax := hr.len_le
  by_cases hbig : 1048576 < zs.length
  · have HBD := Lib.hid (show decide (1048576 < zs.length) = true by simp [hbig])
    go_enter Tryz.func3, Tryz.ntmps3
    go_wp2_with fail
    refine (bigCode_c _ _ _ _ hmax).mono ?_
    rintro e w1 ⟨rfl, rfl⟩
    rw [HBD.out]
    go_wp2
    go_ret
    exact ⟨rfl, Below.refl _ _⟩
  · have hs : zs.length ≤ 1048576 := by omega
    have HBD := Lib.hid (show decide (1048576 < zs.length) = false by simp [hs])
    have HCR := Lib.hid hr; have HBY := Lib.hid hby
    clear hr hby hbig
    go_enter Tryz.func3, Tryz.ntmps3
    go_wp2_with fail
    refine (bigCode_c _ _ _ _ hmax).mono ?_
    rintro e w0 ⟨rfl, rfl⟩
    rw [HBD.out]
    go_wp2_with fail
    refine (drawPartsFrom_c a cap zs w fp HCR.out HBY.out hs).mono ?_
    rintro e w1 ⟨rs, A1, c1, f1, m1, rfl, hr1, hmr, hl1, hm1, hb1⟩
    have HR1 := Lib.hid hr1; have HMR := Lib.hid hmr; have N1 := Lib.hid hb1
    clear hr1 hmr hb1
    go_wp2_with fail
    refine (implPartsFrom_a A1 c1 rs m1 _ f1 (by omega) (fun q hq => (HMR.out q hq).wf) (wf_mild hm1) HR1.out).mono ?_
    have hszP := ppL_sz rs m1
    generalize hC1 : poC rs m1 = C1 at *
    generalize hP : ppL rs m1 = P at *
    have HC1 := Lib.hid hC1; have HP := Lib.hid hP
    clear hC1 hP
    rintro e w2 ⟨vP, fP, rfl, hrP, _, _, hb2⟩
    obtain ⟨AP, cP, rfl, _⟩ := hrP.form
    have N2 := Lib.hid (below_more (N1.out.trans (hb2.mono N1.out.size)) (.cells #[.int .i64 C1, .slice AP P.length cP] 29))
    have HA := Lib.hid (show PA rs A1 c1 f1 C1 P AP cP fP w2.heap.size (w2.alloc (.cells #[.int .i64 C1, .slice AP P.length cP] 29)) from ⟨(HR1.out.below' hb2).alloc _, hrP.alloc _, heap_new w2 _ rfl⟩)
    clear hrP hb2 HR1 N1
    go_wp2_with fail
    generalize w2.alloc (.cells #[.int .i64 C1, .slice AP P.length cP] 29) = W2 at *
    generalize w2.heap.size = gp at *
    refine (drawWritePart_c a cap zs _ fp (HCR.out.below' N2.out) HBY.out hs).mono ?_
    rintro e w3 ⟨l, Al, cl, fl, r, m, rfl, hrl, _, _, _, hml, hszl, hmr, hm, hb3⟩
    have N3 := Lib.hid (below_more (N2.out.trans (hb3.mono N2.out.size)) (.cells #[.int .i64 r.1, .int .i64 r.2.1, .int .i64 r.2.2.1, .int .i64 r.2.2.2] 32))
    have HA3 := Lib.hid ((HA.out.below' hb3).below' (below_new (.cells #[.int .i64 r.1, .int .i64 r.2.1, .int .i64 r.2.2.1, .int .i64 r.2.2.2] 32)))
    have HB3 := Lib.hid (show PB l Al cl fl r w3.heap.size (w3.alloc (.cells #[.int .i64 r.1, .int .i64 r.2.1, .int .i64 r.2.2.1, .int .i64 r.2.2.2] 32)) from ⟨hrl.alloc _, heap_new w3 _ rfl⟩)
    have HML := Lib.hid hml; have HMW := Lib.hid hmr
    clear hrl hml hmr hb3 HA N2
    go_wp2_with fail
    generalize w3.alloc (.cells #[.int .i64 r.1, .int .i64 r.2.1, .int .i64 r.2.2.1, .int .i64 r.2.2.2] 32) = W3 at *
    generalize w3.heap.size = gr at *
    obtain ⟨b0, b1, b2, b3, _, _, _, _, hzb⟩ := four_at HB3.out.br
    go_wp2_with fail
    have hszQ := wqL_sz l r m
    refine (implWritePart_a Al cl l r m _ fl (by omega) HML.out.wf HMW.out.wf (wf_mild hm) HB3.out.ll).mono ?_
    generalize hC2 : wqC l r m = C2 at *
    generalize hQ : wqL l r m = Q at *
    have HC2 := Lib.hid hC2; have HQ := Lib.hid hQ
    clear hC2 hQ
    rintro e w4 ⟨vQ, fQ, rfl, hrQ, _, _, hb4⟩
    obtain ⟨AQ, cQ, rfl, _⟩ := hrQ.form
    have N4 := Lib.hid (below_more (N3.out.trans (hb4.mono N3.out.size)) (.cells #[.int .i64 C2, .slice AQ Q.length cQ] 29))
    have HA4 := Lib.hid ((HA3.out.below' hb4).below' (below_new (.cells #[.int .i64 C2, .slice AQ Q.length cQ] 29)))
    have HB4 := Lib.hid ((HB3.out.below' hb4).below' (below_new (.cells #[.int .i64 C2, .slice AQ Q.length cQ] 29)))
    have HC4 := Lib.hid (show PC C2 Q AQ cQ fQ w4.heap.size (w4.alloc (.cells #[.int .i64 C2, .slice AQ Q.length cQ] 29)) from ⟨hrQ.alloc _, heap_new w4 _ rfl⟩)
    clear hrQ hb4 HA3 HB3 N3 b0 b1 b2 b3 hzb
    go_wp2_with fail
    generalize w4.alloc (.cells #[.int .i64 C2, .slice AQ Q.length cQ] 29) = W4 at *
    generalize w4.heap.size = gw at *
    refine (drawLeastMark_c a cap zs _ fp (HCR.out.below' N4.out) HBY.out hs).mono ?_
    rintro e w5 ⟨x, Ax, cx, fx, rfl, hrx, _, _, _, hmx, hszx, hb5⟩
    have N5 := Lib.hid (N4.out.trans (hb5.mono N4.out.size))
    have HA5 := Lib.hid (HA4.out.below' hb5); have HB5 := Lib.hid (HB4.out.below' hb5); have HC5 := Lib.hid (HC4.out.below' hb5)
    have HX5 := Lib.hid hrx; have HMX := Lib.hid hmx
    clear hrx hmx hb5 HA4 HB4 HC4 N4
    go_wp2_with fail
    refine (drawPartOf_c a cap zs _ fp (HCR.out.below' N5.out) HBY.out hs).mono ?_
    rintro e w6 ⟨k, t, rfl, hk, ht, hb6⟩
    have N6 := Lib.hid (N5.out.trans (hb6.mono N5.out.size))
    have HA6 := Lib.hid (HA5.out.below' hb6); have HB6 := Lib.hid (HB5.out.below' hb6); have HC6 := Lib.hid (HC5.out.below' hb6); have HX6 := Lib.hid (HX5.out.below' hb6)
    clear hb6 HA5 HB5 HC5 HX5 N5
    generalize hLM : lmP x = lm at *
    generalize hPO : poP k t = po at *
    have HLM := Lib.hid hLM; have HPO := Lib.hid hPO
    clear hLM hPO
    obtain ⟨lm0, lm1⟩ := lm
    obtain ⟨po0, po1⟩ := po
    have fi0 := fldIr0; have fi1 := fldIr1
    go_wp2_with fail
    refine (implLeastMark_a Ax cx x _ fx (by omega) HMX.out.wf HX6.out).mono ?_
    rw [HLM.out]
    rintro e w7 ⟨rfl, hb7⟩
    unfold pairV
    have N7 := Lib.hid (N6.out.trans (hb7.mono N6.out.size))
    have HA7 := Lib.hid (HA6.out.below' hb7); have HB7 := Lib.hid (HB6.out.below' hb7); have HC7 := Lib.hid (HC6.out.below' hb7)
    have HX7 := Lib.hid (HX6.out.below' hb7)
    clear hb7 HA6 HB6 HC6 N6 HX6
    go_wp2_with fail
    refine (specLeastMark_c Ax cx x _ fx (by omega) HX7.out).mono ?_
    rw [HLM.out]
    rintro e w8 ⟨rfl, hb8⟩
    unfold pairV
    have N8 := Lib.hid (N7.out.trans (hb8.mono N7.out.size))
    have HA8 := Lib.hid (HA7.out.below' hb8); have HB8 := Lib.hid (HB7.out.below' hb8); have HC8 := Lib.hid (HC7.out.below' hb8)
    have HX8 := Lib.hid (HX7.out.below' hb8)
    clear hb8 HA7 HB7 HC7 N7 HX7
    go_wp2_with fail
    refine (implLeastMark_a Ax cx x _ fx (by omega) HMX.out.wf HX8.out).mono ?_
    rw [HLM.out]
    rintro e w9 ⟨rfl, hb9⟩
    unfold pairV
    have N9 := Lib.hid (N8.out.trans (hb9.mono N8.out.size))
    have HA9 := Lib.hid (HA8.out.below' hb9); have HB9 := Lib.hid (HB8.out.below' hb9); have HC9 := Lib.hid (HC8.out.below' hb9)
    have HX9 := Lib.hid (HX8.out.below' hb9)
    clear hb9 HA8 HB8 HC8 N8 HX8
    go_wp2_with fail
    refine (specLeastMark_c Ax cx x _ fx (by omega) HX9.out).mono ?_
    rw [HLM.out]
    rintro e w10 ⟨rfl, hb10⟩
    unfold pairV
    have N10 := Lib.hid (N9.out.trans (hb10.mono N9.out.size))
    have HA10 := Lib.hid (HA9.out.below' hb10); have HB10 := Lib.hid (HB9.out.below' hb10); have HC10 := Lib.hid (HC9.out.below' hb10)
    have HX10 := Lib.hid (HX9.out.below' hb10)
    clear hb10 HA9 HB9 HC9 N9 HX9
    go_wp2_with fail
    refine (implPartOf_a k t _ (wf_mild hk) (wf_mild ht)).mono ?_
    rw [HPO.out]
    rintro e w11 ⟨rfl, hb11⟩
    unfold pairV
    have N11 := Lib.hid (N10.out.trans (hb11.mono N10.out.size))
    have HA11 := Lib.hid (HA10.out.below' hb11); have HB11 := Lib.hid (HB10.out.below' hb11); have HC11 := Lib.hid (HC10.out.below' hb11)
    clear hb11 HA10 HB10 HC10 N10
    go_wp2_with fail
    refine (specPartOf_c k t _).mono ?_
    rw [HPO.out]
    rintro e w12 ⟨rfl, hb12⟩
    unfold pairV
    have N12 := Lib.hid (N11.out.trans (hb12.mono N11.out.size))
    have HA12 := Lib.hid (HA11.out.below' hb12); have HB12 := Lib.hid (HB11.out.below' hb12); have HC12 := Lib.hid (HC11.out.below' hb12)
    clear hb12 HA11 HB11 HC11 N11
    go_wp2_with fail
    refine (implPartOf_a k t _ (wf_mild hk) (wf_mild ht)).mono ?_
    rw [HPO.out]
    rintro e w13 ⟨rfl, hb13⟩
    unfold pairV
    have N13 := Lib.hid (N12.out.trans (hb13.mono N12.out.size))
    have HA13 := Lib.hid (HA12.out.below' hb13); have HB13 := Lib.hid (HB12.out.below' hb13); have HC13 := Lib.hid (HC12.out.below' hb13)
    clear hb13 HA12 HB12 HC12 N12
    go_wp2_with fail
    refine (specPartOf_c k t _).mono ?_
    rw [HPO.out]
    rintro e w14 ⟨rfl, hb14⟩
    unfold pairV
    have N14 := Lib.hid (N13.out.trans (hb14.mono N13.out.size))
    have HA14 := Lib.hid (HA13.out.below' hb14); have HB14 := Lib.hid (HB13.out.below' hb14); have HC14 := Lib.hid (HC13.out.below' hb14)
    clear hb14 HA13 HB13 HC13 N13
    go_wp2_with fail
    have q0 := fldPs0; have q1 := fldPs1
    clear fi0 fi1 hk ht HLM HPO HX10 HMX hszx
    generalize w14 = W at *
    have HA := HA14; have HB := HB14; have HC := HC14; have HN := N14
    clear HA14 HB14 HC14 N14
    have PBX := HB
    clear HB
    by_cases hc2 : C2 = 0
    · obtain ⟨hQ0, hTW⟩ := wq_fault (HC2.out.trans hc2)
      rw [HQ.out] at hQ0 hTW
      have HQ0 := Lib.hid hQ0; have HTW := Lib.hid hTW; have HWQ := Lib.hid (wfT_right hQ0)
      clear hQ0 hTW
      subst hc2
      have hld : ∀ w', Below W.heap.size W w' → w'.cell? ⟨gw, 0, none⟩ = some (.int .i64 0) ∧ w'.cell? ⟨gw, 1, none⟩ = some (.slice AQ Q.length cQ) ∧ w'.cell? ⟨gr, 0, none⟩ = some (.int .i64 r.1) ∧ w'.cell? ⟨gr, 1, none⟩ = some (.int .i64 r.2.1) ∧ w'.cell? ⟨gr, 2, none⟩ = some (.int .i64 r.2.2.1) ∧ w'.cell? ⟨gr, 3, none⟩ = some (.int .i64 r.2.2.2) := fun w' h => ⟨(two_kept h HC.out.bw).1, (two_kept h HC.out.bw).2, four_kept h PBX.out.br⟩
      have HLD := Lib.hid hld; clear hld
      refine wp_region_sched (fun w' => Below W.heap.size W w') [(0, true), (1, true), (2, true), (3, true), (4, true), (5, false), (6, true), (7, true), (8, true), (9, true), (10, true), (11, true), (12, true), (13, true), (14, true), (15, false), (16, true), (17, true), (18, true), (19, true), (20, true), (21, true), (24, true), (25, true), (22, false), (23, true), (26, false), (27, true), (28, true), (29, true), (30, true), (31, true), (32, true), (33, true), (34, true), (35, false), (36, true), (37, false), (38, true), (39, true), (40, true), (41, true)] (by kernel_rfl) (by kernel_rfl) (by kernel_rfl) (by kernel_rfl) (fun _ _ d _ _ h => by cases d <;> exact h) ⟨rfl, rfl, rfl, Nat.le_refl _, fun _ _ => rfl⟩ ?_
      simp only [opsOf, List.filterMap_cons, List.filterMap_nil, Option.map_some, List.getElem?_toArray, List.getElem?_cons_zero, List.getElem?_cons_succ]
      generalize hW0 : ({ heap := W.heap, tape := W.tape, drawn := W.drawn + 1, os := W.os, output := W.output } : World) = v0
      have hv0 : Below W.heap.size W v0 := by rw [← hW0]; exact ⟨rfl, rfl, rfl, Nat.le_refl _, fun _ _ => rfl⟩
      clear hW0
      refine sched_run (v := ?_) (by rfl) ?_ ?_
      rotate_left
      · (intro w' hS'; go_simp; try with_reducible rfl)
      try simp only [Act.put, List.setIfInBounds_toArray, List.set_cons_zero, List.set_cons_succ]
      refine sched_run (v := ?_) (by rfl) ?_ ?_
      rotate_left
      · (intro w' hS'; obtain ⟨a0, a1, r0, r1, r2, r3⟩ := HLD.out w' hS'; go_simp; try with_reducible rfl)
      try simp only [Act.put, List.setIfInBounds_toArray, List.set_cons_zero, List.set_cons_succ]
      refine sched_run (v := ?_) (by rfl) ?_ ?_
      rotate_left
      · (intro w' hS'; go_simp; try with_reducible rfl)
      try simp only [Act.put, List.setIfInBounds_toArray, List.set_cons_zero, List.set_cons_succ]
      refine sched_run (v := ?_) (by rfl) ?_ ?_
      rotate_left
      · (intro w' hS'; obtain ⟨a0, a1, r0, r1, r2, r3⟩ := HLD.out w' hS'; go_simp; try with_reducible rfl)
      try simp only [Act.put, List.setIfInBounds_toArray, List.set_cons_zero, List.set_cons_succ]
      refine sched_run (v := ?_) (by rfl) ?_ ?_
      rotate_left
      · (intro w' hS'; go_simp; try with_reducible rfl)
      try simp only [Act.put, List.setIfInBounds_toArray, List.set_cons_zero, List.set_cons_succ]
      refine sched_call (by rfl) (fun K hK => ?_)
      go_simp
      refine (specWritePart_r Al cl l r m _ fl (by omega) (PBX.out.ll.below' hv0)).mono ?_
      rintro e v1 ⟨vq, fq, rfl, hrq, _, _, hbv0⟩
      have hv1 : Below W.heap.size W v1 := hv0.trans (hbv0.mono hv0.size)
      rw [HC2.out]
      clear hrq
      clear hbv0
      refine hK _ _ hv1 ?_
      try simp only [Act.put, List.setIfInBounds_toArray, List.set_cons_zero, List.set_cons_succ]
      refine sched_run (v := ?_) (by rfl) ?_ ?_
      rotate_left
      · (intro w' hS'; go_simp; try with_reducible rfl)
      try simp only [Act.put, List.setIfInBounds_toArray, List.set_cons_zero, List.set_cons_succ]
      refine sched_run (v := ?_) (by rfl) ?_ ?_
      rotate_left
      · (intro w' hS'; go_simp; try with_reducible rfl)
      try simp only [Act.put, List.setIfInBounds_toArray, List.set_cons_zero, List.set_cons_succ]
      refine sched_run (v := ?_) (by rfl) ?_ ?_
      rotate_left
      · (intro w' hS'; go_simp; try with_reducible rfl)
      try simp only [Act.put, List.setIfInBounds_toArray, List.set_cons_zero, List.set_cons_succ]
      refine sched_run (v := ?_) (by rfl) ?_ ?_
      rotate_left
      · (intro w' hS'; go_simp; try with_reducible rfl)
      try simp only [Act.put, List.setIfInBounds_toArray, List.set_cons_zero, List.set_cons_succ]
      refine sched_run (v := ?_) (by rfl) ?_ ?_
      rotate_left
      · (intro w' hS'; obtain ⟨a0, a1, r0, r1, r2, r3⟩ := HLD.out w' hS'; go_simp; try with_reducible rfl)
      try simp only [Act.put, List.setIfInBounds_toArray, List.set_cons_zero, List.set_cons_succ]
      refine sched_run (v := ?_) (by rfl) ?_ ?_
      rotate_left
      · (intro w' hS'; go_simp; try with_reducible rfl)
      try simp only [Act.put, List.setIfInBounds_toArray, List.set_cons_zero, List.set_cons_succ]
      refine sched_run (v := ?_) (by rfl) ?_ ?_
      rotate_left
      · (intro w' hS'; go_simp; try with_reducible rfl)
      try simp only [Act.put, List.setIfInBounds_toArray, List.set_cons_zero, List.set_cons_succ]
      refine sched_run (v := ?_) (by rfl) ?_ ?_
      rotate_left
      · (intro w' hS'; go_simp; try with_reducible rfl)
      try simp only [Act.put, List.setIfInBounds_toArray, List.set_cons_zero, List.set_cons_succ]
      refine sched_run (v := ?_) (by rfl) ?_ ?_
      rotate_left
      · (intro w' hS'; obtain ⟨a0, a1, r0, r1, r2, r3⟩ := HLD.out w' hS'; go_simp; try with_reducible rfl)
      try simp only [Act.put, List.setIfInBounds_toArray, List.set_cons_zero, List.set_cons_succ]
      refine sched_call (by rfl) (fun K hK => ?_)
      go_simp
      refine (implPartsFault_a AQ cQ Q _ fQ hszQ HWQ.out (HC.out.qq.below' hv1)).mono ?_
      rintro e v2 ⟨rfl, hbv1⟩
      have hv2 : Below W.heap.size W v2 := hv1.trans (hbv1.mono hv1.size)
      rw [HQ0.out]
      clear hbv1
      refine hK _ _ hv2 ?_
      try simp only [Act.put, List.setIfInBounds_toArray, List.set_cons_zero, List.set_cons_succ]
      refine sched_run (v := ?_) (by rfl) ?_ ?_
      rotate_left
      · (intro w' hS'; go_simp; try with_reducible rfl)
      try simp only [Act.put, List.setIfInBounds_toArray, List.set_cons_zero, List.set_cons_succ]
      refine sched_run (v := ?_) (by rfl) ?_ ?_
      rotate_left
      · (intro w' hS'; go_simp; try with_reducible rfl)
      try simp only [Act.put, List.setIfInBounds_toArray, List.set_cons_zero, List.set_cons_succ]
      refine sched_run (v := ?_) (by rfl) ?_ ?_
      rotate_left
      · (intro w' hS'; go_simp; try with_reducible rfl)
      try simp only [Act.put, List.setIfInBounds_toArray, List.set_cons_zero, List.set_cons_succ]
      refine sched_run (v := ?_) (by rfl) ?_ ?_
      rotate_left
      · (intro w' hS'; obtain ⟨a0, a1, r0, r1, r2, r3⟩ := HLD.out w' hS'; go_simp; try with_reducible rfl)
      try simp only [Act.put, List.setIfInBounds_toArray, List.set_cons_zero, List.set_cons_succ]
      refine sched_run (v := ?_) (by rfl) ?_ ?_
      rotate_left
      · (intro w' hS'; obtain ⟨a0, a1, r0, r1, r2, r3⟩ := HLD.out w' hS'; go_simp; try with_reducible rfl)
      try simp only [Act.put, List.setIfInBounds_toArray, List.set_cons_zero, List.set_cons_succ]
      refine sched_run (v := ?_) (by rfl) ?_ ?_
      rotate_left
      · (intro w' hS'; go_simp; try with_reducible rfl)
      try simp only [Act.put, List.setIfInBounds_toArray, List.set_cons_zero, List.set_cons_succ]
      refine sched_run (v := ?_) (by rfl) ?_ ?_
      rotate_left
      · (intro w' hS'; go_simp; try with_reducible rfl)
      try simp only [Act.put, List.setIfInBounds_toArray, List.set_cons_zero, List.set_cons_succ]
      refine sched_run (v := ?_) (by rfl) ?_ ?_
      rotate_left
      · (intro w' hS'; obtain ⟨a0, a1, r0, r1, r2, r3⟩ := HLD.out w' hS'; go_simp; try with_reducible rfl)
      try simp only [Act.put, List.setIfInBounds_toArray, List.set_cons_zero, List.set_cons_succ]
      refine sched_call (by rfl) (fun K hK => ?_)
      go_simp
      refine (implWritePart_a AQ cQ Q r m _ fQ hszQ HWQ.out HMW.out.wf (wf_mild hm) (HC.out.qq.below' hv2)).mono ?_
      rintro e v3 ⟨vr, fr, rfl, hrr, _, _, hbv2⟩
      have hv3 : Below W.heap.size W v3 := hv2.trans (hbv2.mono hv2.size)
      rw [HTW.out] at hrr
      obtain ⟨Ar, cr, rfl, _⟩ := hrr.form
      have HRR := Lib.hid hrr
      clear hrr
      clear hbv2
      refine hK _ _ hv3 ?_
      try simp only [Act.put, List.setIfInBounds_toArray, List.set_cons_zero, List.set_cons_succ]
      refine sched_run (v := ?_) (by rfl) ?_ ?_
      rotate_left
      · (intro w' hS'; go_simp; try with_reducible rfl)
      try simp only [Act.put, List.setIfInBounds_toArray, List.set_cons_zero, List.set_cons_succ]
      refine sched_call (by rfl) (fun K hK => ?_)
      go_simp
      refine (implSameParts_a Ar AQ cr cQ Q Q _ fr fQ hszQ hszQ HWQ.out HWQ.out HRR.out (HC.out.qq.below' hv3)).mono ?_
      rintro e v4 ⟨rfl, hbv3⟩
      have hv4 : Below W.heap.size W v4 := hv3.trans (hbv3.mono hv3.size)
      clear hbv3
      refine hK _ _ hv4 ?_
      try simp only [Act.put, List.setIfInBounds_toArray, List.set_cons_zero, List.set_cons_succ]
      refine sched_run (v := ?_) (by rfl) ?_ ?_
      rotate_left
      · (intro w' hS'; go_simp; try with_reducible rfl)
      try simp only [Act.put, List.setIfInBounds_toArray, List.set_cons_zero, List.set_cons_succ]
      refine sched_run (v := ?_) (by rfl) ?_ ?_
      rotate_left
      · (intro w' hS'; go_simp; try with_reducible rfl)
      try simp only [Act.put, List.setIfInBounds_toArray, List.set_cons_zero, List.set_cons_succ]
      refine sched_run (v := ?_) (by rfl) ?_ ?_
      rotate_left
      · (intro w' hS'; go_simp; try with_reducible rfl)
      try simp only [Act.put, List.setIfInBounds_toArray, List.set_cons_zero, List.set_cons_succ]
      refine sched_run (v := ?_) (by rfl) ?_ ?_
      rotate_left
      · (intro w' hS'; go_simp; try with_reducible rfl)
      try simp only [Act.put, List.setIfInBounds_toArray, List.set_cons_zero, List.set_cons_succ]
      refine sched_run (v := ?_) (by rfl) ?_ ?_
      rotate_left
      · (intro w' hS'; obtain ⟨a0, a1, r0, r1, r2, r3⟩ := HLD.out w' hS'; go_simp; try with_reducible rfl)
      try simp only [Act.put, List.setIfInBounds_toArray, List.set_cons_zero, List.set_cons_succ]
      refine sched_run (v := ?_) (by rfl) ?_ ?_
      rotate_left
      · (intro w' hS'; go_simp; try with_reducible rfl)
      try simp only [Act.put, List.setIfInBounds_toArray, List.set_cons_zero, List.set_cons_succ]
      refine sched_run (v := ?_) (by rfl) ?_ ?_
      rotate_left
      · (intro w' hS'; obtain ⟨a0, a1, r0, r1, r2, r3⟩ := HLD.out w' hS'; go_simp; try with_reducible rfl)
      try simp only [Act.put, List.setIfInBounds_toArray, List.set_cons_zero, List.set_cons_succ]
      refine sched_run (v := ?_) (by rfl) ?_ ?_
      rotate_left
      · (intro w' hS'; go_simp; try with_reducible rfl)
      try simp only [Act.put, List.setIfInBounds_toArray, List.set_cons_zero, List.set_cons_succ]
      refine sched_call (by rfl) (fun K hK => ?_)
      go_simp
      refine (specWritePart_r Al cl l r m _ fl (by omega) (PBX.out.ll.below' hv4)).mono ?_
      rintro e v5 ⟨vz, fz, rfl, hrz, _, _, hbv4⟩
      have hv5 : Below W.heap.size W v5 := hv4.trans (hbv4.mono hv4.size)
      rw [HQ.out] at hrz
      obtain ⟨Az, cz, rfl, _⟩ := hrz.form
      have HRZ := Lib.hid hrz
      clear hrz
      clear hbv4
      refine hK _ _ hv5 ?_
      try simp only [Act.put, List.setIfInBounds_toArray, List.set_cons_zero, List.set_cons_succ]
      refine sched_run (v := ?_) (by rfl) ?_ ?_
      rotate_left
      · (intro w' hS'; go_simp; try with_reducible rfl)
      try simp only [Act.put, List.setIfInBounds_toArray, List.set_cons_zero, List.set_cons_succ]
      refine sched_call (by rfl) (fun K hK => ?_)
      go_simp
      refine (implSameParts_a AQ Az cQ cz Q Q _ fQ fz hszQ hszQ HWQ.out HWQ.out (HC.out.qq.below' hv5) HRZ.out).mono ?_
      rintro e v6 ⟨rfl, hbv5⟩
      have hv6 : Below W.heap.size W v6 := hv5.trans (hbv5.mono hv5.size)
      clear hbv5
      refine hK _ _ hv6 ?_
      try simp only [Act.put, List.setIfInBounds_toArray, List.set_cons_zero, List.set_cons_succ]
      refine sched_run (v := ?_) (by rfl) ?_ ?_
      rotate_left
      · (intro w' hS'; go_simp; try with_reducible rfl)
      try simp only [Act.put, List.setIfInBounds_toArray, List.set_cons_zero, List.set_cons_succ]
      refine sched_run (v := ?_) (by rfl) ?_ ?_
      rotate_left
      · (intro w' hS'; go_simp; try with_reducible rfl)
      try simp only [Act.put, List.setIfInBounds_toArray, List.set_cons_zero, List.set_cons_succ]
      refine sched_run (v := ?_) (by rfl) ?_ ?_
      rotate_left
      · (intro w' hS'; go_simp; try with_reducible rfl)
      try simp only [Act.put, List.setIfInBounds_toArray, List.set_cons_zero, List.set_cons_succ]
      refine sched_run (v := ?_) (by rfl) ?_ ?_
      rotate_left
      · (intro w' hS'; go_simp; try with_reducible rfl)
      try simp only [Act.put, List.setIfInBounds_toArray, List.set_cons_zero, List.set_cons_succ]
      refine sched_done ?_
      have HVW := Lib.hid hv6
      have HA2 := Lib.hid (HA.out.below' HVW.out)
      have HN2 := Lib.hid (HN.out.trans (HVW.out.mono HN.out.size))
      clear HLD HA PBX HC HN HVW
      clear hv0
      clear hv1
      clear hv2
      clear hv3
      clear hv4
      clear hv5
      clear hv6
      generalize v6 = V at *
      obtain ⟨p0, p1, _, _, hzp⟩ := two_at HA2.out.bp
      by_cases hc1 : C1 = 0
      · obtain ⟨hP0, hRO, hLV⟩ := pp_right (HC1.out.trans hc1)
        have hP0' : partsF P = 0 := by rw [← HP.out]; exact hP0
        have hRO' : riL (poL rs m1) = roL P := by rw [← HP.out]; exact hRO.symm
        have hLM : lmP P = (0, m1) := by unfold lmP; rw [hP0', ← HP.out, hLV]
        have hmk : (poL rs m1).mark = m1 := by unfold poL; rw [if_pos (HC1.out.trans hc1)]
        have hwf : WfF (poL rs m1).fs := by
          unfold poL; rw [if_pos (HC1.out.trans hc1)]
          intro f hf q hq
          obtain ⟨i, hi, rfl⟩ := List.mem_iff_getElem.1 hf
          have hq' : q ∈ (filesOf rs)[i] := hq
          rw [filesOf_get] at hq'
          exact (HMR.out q (List.mem_filter.1 hq').1).wf
        have hsl := roL_len P
        have hsw : ∀ q ∈ roL P, WfR q := by
          unfold roL; rw [if_pos hP0']
          exact wfs_of_rowsF (roL_facts hP0').2.2.2
        have HP0 := Lib.hid hP0'; have HRO := Lib.hid hRO'; have HLM := Lib.hid hLM; have HMK := Lib.hid (show (Lit.int .i64 (poL rs m1).mark).wf = true by rw [hmk]; exact wf_mild hm1); have HWF := Lib.hid hwf; have HSW := Lib.hid hsw
        have HWP := Lib.hid (wfT_right hP0')
        have HSZ := Lib.hid (poL_sz rs m1)
        have hrc : roC P = 0 := hP0'
        clear hP0 hRO hLV hP0' hRO' hLM hmk hwf hsw
        subst hc1
        go_wp2_with fail
        refine (implRowsOf_a AP cP P _ fP hszP HWP.out HA2.out.pp).mono ?_
        rw [hrc]
        rintro e w5 ⟨_, rfl, ⟨vs, fs, rfl, hrs, _, _⟩, hb5⟩
        obtain ⟨As, cs, rfl⟩ := hrs.rows_form
        generalize hS : roL P = S at *
        have HS := Lib.hid hS
        have HN3 := Lib.hid (below_more (HN2.out.trans (hb5.mono HN2.out.size)) (.cells #[.int .i64 0, .slice As S.length cs] 46))
        have HA3 := Lib.hid ((HA2.out.below' hb5).below' (below_new (.cells #[.int .i64 0, .slice As S.length cs] 46)))
        have HS3 := Lib.hid (hrs.alloc (.cells #[.int .i64 0, .slice As S.length cs] 46))
        have GI := Lib.hid (heap_new w5 (.cells #[.int .i64 0, .slice As S.length cs] 46) rfl)
        clear hrs hb5 HA2 HN2 p0 p1 hzp hS hrc
        go_wp2_with fail
        generalize w5.alloc (.cells #[.int .i64 0, .slice As S.length cs] 46) = X at *
        generalize w5.heap.size = gi at *
        have q2 := fldRs1; have q3 := fldIr1; have q4 := fldPl1
        have hld : ∀ w', Below X.heap.size X w' → w'.cell? ⟨gp, 1, none⟩ = some (.slice AP P.length cP) ∧ w'.cell? ⟨gi, 0, none⟩ = some (.int .i64 0) ∧ w'.cell? ⟨gi, 1, none⟩ = some (.slice As S.length cs) := fun w' h => ⟨(two_kept h HA3.out.bp).2, (two_kept h GI.out).1, (two_kept h GI.out).2⟩
        have HLD := Lib.hid hld; clear hld
        refine wp_region_sched (fun w' => Below X.heap.size X w') [(0, true), (1, true), (2, false), (3, true), (4, true), (5, true), (6, true), (7, true), (8, true), (9, true), (10, true), (11, true), (12, true), (13, true), (14, false), (15, true), (16, false), (17, true), (18, false), (19, true), (20, true), (21, true), (22, true), (25, true), (23, false), (24, true), (26, true), (27, true), (28, true)] (by kernel_rfl) (by kernel_rfl) (by kernel_rfl) (by kernel_rfl) (fun _ _ d _ _ h => by cases d <;> exact h) ⟨rfl, rfl, rfl, Nat.le_refl _, fun _ _ => rfl⟩ ?_
        simp only [opsOf, List.filterMap_cons, List.filterMap_nil, Option.map_some, List.getElem?_toArray, List.getElem?_cons_zero, List.getElem?_cons_succ]
        generalize hW0 : ({ heap := X.heap, tape := X.tape, drawn := X.drawn + 1, os := X.os, output := X.output } : World) = u0
        have hu0 : Below X.heap.size X u0 := by rw [← hW0]; exact ⟨rfl, rfl, rfl, Nat.le_refl _, fun _ _ => rfl⟩
        clear hW0
        refine sched_run (v := ?_) (by rfl) ?_ ?_
        rotate_left
        · (intro w' hS'; go_simp; try with_reducible rfl)
        try simp only [Act.put, List.setIfInBounds_toArray, List.set_cons_zero, List.set_cons_succ]
        refine sched_run (v := ?_) (by rfl) ?_ ?_
        rotate_left
        · (intro w' hS'; obtain ⟨a1, b0, b1⟩ := HLD.out w' hS'; go_simp; try with_reducible rfl)
        try simp only [Act.put, List.setIfInBounds_toArray, List.set_cons_zero, List.set_cons_succ]
        refine sched_call (by rfl) (fun K hK => ?_)
        go_simp
        refine (implPartsFault_a AP cP P _ fP hszP HWP.out (HA3.out.pp.below' hu0)).mono ?_
        rintro e u1 ⟨rfl, hbu0⟩
        have hu1 : Below X.heap.size X u1 := hu0.trans (hbu0.mono hu0.size)
        rw [HP0.out]
        clear hbu0
        refine hK _ _ hu1 ?_
        try simp only [Act.put, List.setIfInBounds_toArray, List.set_cons_zero, List.set_cons_succ]
        refine sched_run (v := ?_) (by rfl) ?_ ?_
        rotate_left
        · (intro w' hS'; go_simp; try with_reducible rfl)
        try simp only [Act.put, List.setIfInBounds_toArray, List.set_cons_zero, List.set_cons_succ]
        refine sched_run (v := ?_) (by rfl) ?_ ?_
        rotate_left
        · (intro w' hS'; go_simp; try with_reducible rfl)
        try simp only [Act.put, List.setIfInBounds_toArray, List.set_cons_zero, List.set_cons_succ]
        refine sched_run (v := ?_) (by rfl) ?_ ?_
        rotate_left
        · (intro w' hS'; go_simp; try with_reducible rfl)
        try simp only [Act.put, List.setIfInBounds_toArray, List.set_cons_zero, List.set_cons_succ]
        refine sched_run (v := ?_) (by rfl) ?_ ?_
        rotate_left
        · (intro w' hS'; obtain ⟨a1, b0, b1⟩ := HLD.out w' hS'; go_simp; try with_reducible rfl)
        try simp only [Act.put, List.setIfInBounds_toArray, List.set_cons_zero, List.set_cons_succ]
        refine sched_run (v := ?_) (by rfl) ?_ ?_
        rotate_left
        · (intro w' hS'; go_simp; try with_reducible rfl)
        try simp only [Act.put, List.setIfInBounds_toArray, List.set_cons_zero, List.set_cons_succ]
        refine sched_run (v := ?_) (by rfl) ?_ ?_
        rotate_left
        · (intro w' hS'; go_simp; try with_reducible rfl)
        try simp only [Act.put, List.setIfInBounds_toArray, List.set_cons_zero, List.set_cons_succ]
        refine sched_run (v := ?_) (by rfl) ?_ ?_
        rotate_left
        · (intro w' hS'; go_simp; try with_reducible rfl)
        try simp only [Act.put, List.setIfInBounds_toArray, List.set_cons_zero, List.set_cons_succ]
        refine sched_run (v := ?_) (by rfl) ?_ ?_
        rotate_left
        · (intro w' hS'; go_simp; try with_reducible rfl)
        try simp only [Act.put, List.setIfInBounds_toArray, List.set_cons_zero, List.set_cons_succ]
        refine sched_run (v := ?_) (by rfl) ?_ ?_
        rotate_left
        · (intro w' hS'; obtain ⟨a1, b0, b1⟩ := HLD.out w' hS'; go_simp; try with_reducible rfl)
        try simp only [Act.put, List.setIfInBounds_toArray, List.set_cons_zero, List.set_cons_succ]
        refine sched_run (v := ?_) (by rfl) ?_ ?_
        rotate_left
        · (intro w' hS'; go_simp; try with_reducible rfl)
        try simp only [Act.put, List.setIfInBounds_toArray, List.set_cons_zero, List.set_cons_succ]
        refine sched_run (v := ?_) (by rfl) ?_ ?_
        rotate_left
        · (intro w' hS'; go_simp; try with_reducible rfl)
        try simp only [Act.put, List.setIfInBounds_toArray, List.set_cons_zero, List.set_cons_succ]
        refine sched_call (by rfl) (fun K hK => ?_)
        go_simp
        refine (implPlacesOf_a A1 c1 rs m1 _ f1 (by omega) (fun q hq => (HMR.out q hq).wf) (wf_mild hm1) (HA3.out.rr.below' hu1)).mono ?_
        rintro e u2 ⟨vo, fo, rfl, hro, _, _, hbu1⟩
        have hu2 : Below X.heap.size X u2 := hu1.trans (hbu1.mono hu1.size)
        have HOO := Lib.hid hro
        clear hro
        clear hbu1
        refine hK _ _ hu2 ?_
        try simp only [Act.put, List.setIfInBounds_toArray, List.set_cons_zero, List.set_cons_succ]
        refine sched_run (v := ?_) (by rfl) ?_ ?_
        rotate_left
        · (intro w' hS'; go_simp; try with_reducible rfl)
        try simp only [Act.put, List.setIfInBounds_toArray, List.set_cons_zero, List.set_cons_succ]
        refine sched_call (by rfl) (fun K hK => ?_)
        go_simp
        refine (implRowsIn_a (poL rs m1) vo _ fo HSZ.out HMK.out HWF.out HOO.out).mono ?_
        rintro e u3 ⟨_, rfl, ⟨vt, ft, rfl, hrt, _, _⟩, hbu2⟩
        have hu3 : Below X.heap.size X u3 := hu2.trans (hbu2.mono hu2.size)
        rw [HRO.out] at hrt
        obtain ⟨At, ct, rfl⟩ := hrt.rows_form
        have HRT := Lib.hid hrt
        clear hrt
        clear hbu2
        refine hK _ _ hu3 ?_
        try simp only [Act.put, List.setIfInBounds_toArray, List.set_cons_zero, List.set_cons_succ]
        refine sched_run (v := ?_) (by rfl) ?_ ?_
        rotate_left
        · (intro w' hS'; go_simp; try with_reducible rfl)
        try simp only [Act.put, List.setIfInBounds_toArray, List.set_cons_zero, List.set_cons_succ]
        refine sched_call (by rfl) (fun K hK => ?_)
        go_simp
        refine (implSameRows_a As At cs ct S S _ fs ft (by omega) (by omega) HSW.out HSW.out (HS3.out.below' hu3) HRT.out).mono ?_
        rintro e u4 ⟨rfl, hbu3⟩
        have hu4 : Below X.heap.size X u4 := hu3.trans (hbu3.mono hu3.size)
        clear hbu3
        refine hK _ _ hu4 ?_
        try simp only [Act.put, List.setIfInBounds_toArray, List.set_cons_zero, List.set_cons_succ]
        refine sched_run (v := ?_) (by rfl) ?_ ?_
        rotate_left
        · (intro w' hS'; go_simp; try with_reducible rfl)
        try simp only [Act.put, List.setIfInBounds_toArray, List.set_cons_zero, List.set_cons_succ]
        refine sched_run (v := ?_) (by rfl) ?_ ?_
        rotate_left
        · (intro w' hS'; go_simp; try with_reducible rfl)
        try simp only [Act.put, List.setIfInBounds_toArray, List.set_cons_zero, List.set_cons_succ]
        refine sched_run (v := ?_) (by rfl) ?_ ?_
        rotate_left
        · (intro w' hS'; go_simp; try with_reducible rfl)
        try simp only [Act.put, List.setIfInBounds_toArray, List.set_cons_zero, List.set_cons_succ]
        refine sched_run (v := ?_) (by rfl) ?_ ?_
        rotate_left
        · (intro w' hS'; obtain ⟨a1, b0, b1⟩ := HLD.out w' hS'; go_simp; try with_reducible rfl)
        try simp only [Act.put, List.setIfInBounds_toArray, List.set_cons_zero, List.set_cons_succ]
        refine sched_run (v := ?_) (by rfl) ?_ ?_
        rotate_left
        · (intro w' hS'; go_simp; try with_reducible rfl)
        try simp only [Act.put, List.setIfInBounds_toArray, List.set_cons_zero, List.set_cons_succ]
        refine sched_call (by rfl) (fun K hK => ?_)
        go_simp
        refine (implLeastMark_a AP cP P _ fP hszP HWP.out (HA3.out.pp.below' hu4)).mono ?_
        rintro e u5 ⟨rfl, hbu4⟩
        have hu5 : Below X.heap.size X u5 := hu4.trans (hbu4.mono hu4.size)
        rw [HLM.out]
        unfold pairV
        clear hbu4
        refine hK _ _ hu5 ?_
        try simp only [Act.put, List.setIfInBounds_toArray, List.set_cons_zero, List.set_cons_succ]
        refine sched_run (v := ?_) (by rfl) ?_ ?_
        rotate_left
        · (intro w' hS'; go_simp; try with_reducible rfl)
        try simp only [Act.put, List.setIfInBounds_toArray, List.set_cons_zero, List.set_cons_succ]
        refine sched_run (v := ?_) (by rfl) ?_ ?_
        rotate_left
        · (intro w' hS'; go_simp; try with_reducible rfl)
        try simp only [Act.put, List.setIfInBounds_toArray, List.set_cons_zero, List.set_cons_succ]
        refine sched_run (v := ?_) (by rfl) ?_ ?_
        rotate_left
        · (intro w' hS'; go_simp; try with_reducible rfl)
        try simp only [Act.put, List.setIfInBounds_toArray, List.set_cons_zero, List.set_cons_succ]
        refine sched_run (v := ?_) (by rfl) ?_ ?_
        rotate_left
        · (intro w' hS'; go_simp; try with_reducible rfl)
        try simp only [Act.put, List.setIfInBounds_toArray, List.set_cons_zero, List.set_cons_succ]
        refine sched_done ?_
        go_wp2_with fail
        go_ret
        exact ⟨by simp, HN3.out.trans (hu5.mono HN3.out.size)⟩
      · have hcb : (C1 != 0) = true := by simpa using hc1
        clear hc1
        go_wp2_with fail
        have hld : ∀ w', Below V.heap.size V w' → w'.cell? ⟨gp, 0, none⟩ = some (.int .i64 C1) ∧ True := fun w' h => ⟨(two_kept h HA2.out.bp).1, trivial⟩
        have HLD := Lib.hid hld; clear hld
        refine wp_region_sched (fun w' => Below V.heap.size V w') [(0, true), (1, true), (4, true), (5, true), (2, false), (3, true), (6, true), (7, true)] (by kernel_rfl) (by kernel_rfl) (by kernel_rfl) (by kernel_rfl) (fun _ _ d _ _ h => by cases d <;> exact h) ⟨rfl, rfl, rfl, Nat.le_refl _, fun _ _ => rfl⟩ ?_
        simp only [opsOf, List.filterMap_cons, List.filterMap_nil, Option.map_some, List.getElem?_toArray, List.getElem?_cons_zero, List.getElem?_cons_succ]
        generalize hW0 : ({ heap := V.heap, tape := V.tape, drawn := V.drawn + 1, os := V.os, output := V.output } : World) = u0
        have hu0 : Below V.heap.size V u0 := by rw [← hW0]; exact ⟨rfl, rfl, rfl, Nat.le_refl _, fun _ _ => rfl⟩
        clear hW0
        refine sched_run (v := ?_) (by rfl) ?_ ?_
        rotate_left
        · (intro w' hS'; go_simp; try with_reducible rfl)
        try simp only [Act.put, List.setIfInBounds_toArray, List.set_cons_zero, List.set_cons_succ]
        refine sched_run (v := ?_) (by rfl) ?_ ?_
        rotate_left
        · (intro w' hS'; go_simp; try with_reducible rfl)
        try simp only [Act.put, List.setIfInBounds_toArray, List.set_cons_zero, List.set_cons_succ]
        refine sched_run (v := ?_) (by rfl) ?_ ?_
        rotate_left
        · (intro w' hS'; go_simp; try with_reducible rfl)
        try simp only [Act.put, List.setIfInBounds_toArray, List.set_cons_zero, List.set_cons_succ]
        refine sched_run (v := ?_) (by rfl) ?_ ?_
        rotate_left
        · (intro w' hS'; obtain ⟨a0, _⟩ := HLD.out w' hS'; go_simp; try with_reducible rfl)
        try simp only [Act.put, List.setIfInBounds_toArray, List.set_cons_zero, List.set_cons_succ]
        refine sched_call (by rfl) (fun K hK => ?_)
        go_simp
        refine (specPartsFrom_r A1 c1 rs m1 _ f1 (by omega) (HA2.out.rr.below' hu0)).mono ?_
        rintro e u1 ⟨vq, fq, rfl, hrq, _, _, hbu0⟩
        have hu1 : Below V.heap.size V u1 := hu0.trans (hbu0.mono hu0.size)
        rw [HC1.out]
        clear hrq
        clear hbu0
        refine hK _ _ hu1 ?_
        try simp only [Act.put, List.setIfInBounds_toArray, List.set_cons_zero, List.set_cons_succ]
        refine sched_run (v := ?_) (by rfl) ?_ ?_
        rotate_left
        · (intro w' hS'; go_simp; try with_reducible rfl)
        try simp only [Act.put, List.setIfInBounds_toArray, List.set_cons_zero, List.set_cons_succ]
        refine sched_run (v := ?_) (by rfl) ?_ ?_
        rotate_left
        · (intro w' hS'; go_simp; try with_reducible rfl)
        try simp only [Act.put, List.setIfInBounds_toArray, List.set_cons_zero, List.set_cons_succ]
        refine sched_run (v := ?_) (by rfl) ?_ ?_
        rotate_left
        · (intro w' hS'; go_simp; try with_reducible rfl)
        try simp only [Act.put, List.setIfInBounds_toArray, List.set_cons_zero, List.set_cons_succ]
        refine sched_done ?_
        go_wp2_with fail
        go_ret
        exact ⟨by simp, HN2.out.trans (hu1.mono HN2.out.size)⟩
    · have hjb : (C2 == 0) = false := by simpa using hc2
      clear hc2
      have hld : ∀ w', Below W.heap.size W w' → w'.cell? ⟨gw, 0, none⟩ = some (.int .i64 C2) ∧ w'.cell? ⟨gw, 1, none⟩ = some (.slice AQ Q.length cQ) ∧ w'.cell? ⟨gr, 0, none⟩ = some (.int .i64 r.1) ∧ w'.cell? ⟨gr, 1, none⟩ = some (.int .i64 r.2.1) ∧ w'.cell? ⟨gr, 2, none⟩ = some (.int .i64 r.2.2.1) ∧ w'.cell? ⟨gr, 3, none⟩ = some (.int .i64 r.2.2.2) := fun w' h => ⟨(two_kept h HC.out.bw).1, (two_kept h HC.out.bw).2, four_kept h PBX.out.br⟩
      have HLD := Lib.hid hld; clear hld
      refine wp_region_sched (fun w' => Below W.heap.size W w') [(0, true), (1, true), (2, true), (3, true), (4, true), (5, false), (6, true), (7, true), (8, true), (9, true), (10, true), (11, true), (12, true), (13, true), (14, true), (15, false), (16, true), (17, true), (18, true), (19, true), (20, true), (21, true), (24, true), (25, true), (22, false), (23, true), (26, false), (27, true), (28, true), (29, true), (30, true), (31, true), (32, true), (33, true), (34, true), (35, false), (36, true), (37, false), (38, true), (39, true), (40, true), (41, true)] (by kernel_rfl) (by kernel_rfl) (by kernel_rfl) (by kernel_rfl) (fun _ _ d _ _ h => by cases d <;> exact h) ⟨rfl, rfl, rfl, Nat.le_refl _, fun _ _ => rfl⟩ ?_
      simp only [opsOf, List.filterMap_cons, List.filterMap_nil, Option.map_some, List.getElem?_toArray, List.getElem?_cons_zero, List.getElem?_cons_succ]
      generalize hW0 : ({ heap := W.heap, tape := W.tape, drawn := W.drawn + 1, os := W.os, output := W.output } : World) = v0
      have hv0 : Below W.heap.size W v0 := by rw [← hW0]; exact ⟨rfl, rfl, rfl, Nat.le_refl _, fun _ _ => rfl⟩
      clear hW0
      refine sched_run (v := ?_) (by rfl) ?_ ?_
      rotate_left
      · (intro w' hS'; go_simp; try with_reducible rfl)
      try simp only [Act.put, List.setIfInBounds_toArray, List.set_cons_zero, List.set_cons_succ]
      refine sched_run (v := ?_) (by rfl) ?_ ?_
      rotate_left
      · (intro w' hS'; obtain ⟨a0, a1, r0, r1, r2, r3⟩ := HLD.out w' hS'; go_simp; try with_reducible rfl)
      try simp only [Act.put, List.setIfInBounds_toArray, List.set_cons_zero, List.set_cons_succ]
      refine sched_run (v := ?_) (by rfl) ?_ ?_
      rotate_left
      · (intro w' hS'; go_simp; try with_reducible rfl)
      try simp only [Act.put, List.setIfInBounds_toArray, List.set_cons_zero, List.set_cons_succ]
      refine sched_run (v := ?_) (by rfl) ?_ ?_
      rotate_left
      · (intro w' hS'; obtain ⟨a0, a1, r0, r1, r2, r3⟩ := HLD.out w' hS'; go_simp; try with_reducible rfl)
      try simp only [Act.put, List.setIfInBounds_toArray, List.set_cons_zero, List.set_cons_succ]
      refine sched_run (v := ?_) (by rfl) ?_ ?_
      rotate_left
      · (intro w' hS'; go_simp; try with_reducible rfl)
      try simp only [Act.put, List.setIfInBounds_toArray, List.set_cons_zero, List.set_cons_succ]
      refine sched_call (by rfl) (fun K hK => ?_)
      go_simp
      refine (specWritePart_r Al cl l r m _ fl (by omega) (PBX.out.ll.below' hv0)).mono ?_
      rintro e v1 ⟨vq, fq, rfl, hrq, _, _, hbv0⟩
      have hv1 : Below W.heap.size W v1 := hv0.trans (hbv0.mono hv0.size)
      rw [HC2.out]
      clear hrq
      clear hbv0
      refine hK _ _ hv1 ?_
      try simp only [Act.put, List.setIfInBounds_toArray, List.set_cons_zero, List.set_cons_succ]
      refine sched_run (v := ?_) (by rfl) ?_ ?_
      rotate_left
      · (intro w' hS'; go_simp; try with_reducible rfl)
      try simp only [Act.put, List.setIfInBounds_toArray, List.set_cons_zero, List.set_cons_succ]
      refine sched_run (v := ?_) (by rfl) ?_ ?_
      rotate_left
      · (intro w' hS'; go_simp; try with_reducible rfl)
      try simp only [Act.put, List.setIfInBounds_toArray, List.set_cons_zero, List.set_cons_succ]
      refine sched_run (v := ?_) (by rfl) ?_ ?_
      rotate_left
      · (intro w' hS'; go_simp; try with_reducible rfl)
      try simp only [Act.put, List.setIfInBounds_toArray, List.set_cons_zero, List.set_cons_succ]
      refine sched_run (v := ?_) (by rfl) ?_ ?_
      rotate_left
      · (intro w' hS'; go_simp; try with_reducible rfl)
      try simp only [Act.put, List.setIfInBounds_toArray, List.set_cons_zero, List.set_cons_succ]
      refine sched_run (v := ?_) (by rfl) ?_ ?_
      rotate_left
      · (intro w' hS'; obtain ⟨a0, a1, r0, r1, r2, r3⟩ := HLD.out w' hS'; go_simp; try with_reducible rfl)
      try simp only [Act.put, List.setIfInBounds_toArray, List.set_cons_zero, List.set_cons_succ]
      refine sched_run (v := ?_) (by rfl) ?_ ?_
      rotate_left
      · (intro w' hS'; go_simp; try with_reducible rfl)
      try simp only [Act.put, List.setIfInBounds_toArray, List.set_cons_zero, List.set_cons_succ]
      refine sched_run (v := ?_) (by rfl) ?_ ?_
      rotate_left
      · (intro w' hS'; go_simp; try with_reducible rfl)
      try simp only [Act.put, List.setIfInBounds_toArray, List.set_cons_zero, List.set_cons_succ]
      refine sched_skip (by rfl) ?_
      try simp only [Act.put, List.setIfInBounds_toArray, List.set_cons_zero, List.set_cons_succ]
      refine sched_skip (by rfl) ?_
      try simp only [Act.put, List.setIfInBounds_toArray, List.set_cons_zero, List.set_cons_succ]
      refine sched_skip' (by rfl) ?_
      try simp only [Act.put, List.setIfInBounds_toArray, List.set_cons_zero, List.set_cons_succ]
      refine sched_skip (by rfl) ?_
      try simp only [Act.put, List.setIfInBounds_toArray, List.set_cons_zero, List.set_cons_succ]
      refine sched_skip (by rfl) ?_
      try simp only [Act.put, List.setIfInBounds_toArray, List.set_cons_zero, List.set_cons_succ]
      refine sched_skip (by rfl) ?_
      try simp only [Act.put, List.setIfInBounds_toArray, List.set_cons_zero, List.set_cons_succ]
      refine sched_skip (by rfl) ?_
      try simp only [Act.put, List.setIfInBounds_toArray, List.set_cons_zero, List.set_cons_succ]
      refine sched_skip (by rfl) ?_
      try simp only [Act.put, List.setIfInBounds_toArray, List.set_cons_zero, List.set_cons_succ]
      refine sched_skip (by rfl) ?_
      try simp only [Act.put, List.setIfInBounds_toArray, List.set_cons_zero, List.set_cons_succ]
      refine sched_skip (by rfl) ?_
      try simp only [Act.put, List.setIfInBounds_toArray, List.set_cons_zero, List.set_cons_succ]
      refine sched_skip (by rfl) ?_
      try simp only [Act.put, List.setIfInBounds_toArray, List.set_cons_zero, List.set_cons_succ]
      refine sched_skip' (by rfl) ?_
      try simp only [Act.put, List.setIfInBounds_toArray, List.set_cons_zero, List.set_cons_succ]
      refine sched_skip (by rfl) ?_
      try simp only [Act.put, List.setIfInBounds_toArray, List.set_cons_zero, List.set_cons_succ]
      refine sched_skip' (by rfl) ?_
      try simp only [Act.put, List.setIfInBounds_toArray, List.set_cons_zero, List.set_cons_succ]
      refine sched_skip (by rfl) ?_
      try simp only [Act.put, List.setIfInBounds_toArray, List.set_cons_zero, List.set_cons_succ]
      refine sched_skip (by rfl) ?_
      try simp only [Act.put, List.setIfInBounds_toArray, List.set_cons_zero, List.set_cons_succ]
      refine sched_skip (by rfl) ?_
      try simp only [Act.put, List.setIfInBounds_toArray, List.set_cons_zero, List.set_cons_succ]
      refine sched_skip (by rfl) ?_
      try simp only [Act.put, List.setIfInBounds_toArray, List.set_cons_zero, List.set_cons_succ]
      refine sched_skip (by rfl) ?_
      try simp only [Act.put, List.setIfInBounds_toArray, List.set_cons_zero, List.set_cons_succ]
      refine sched_skip (by rfl) ?_
      try simp only [Act.put, List.setIfInBounds_toArray, List.set_cons_zero, List.set_cons_succ]
      refine sched_skip (by rfl) ?_
      try simp only [Act.put, List.setIfInBounds_toArray, List.set_cons_zero, List.set_cons_succ]
      refine sched_skip (by rfl) ?_
      try simp only [Act.put, List.setIfInBounds_toArray, List.set_cons_zero, List.set_cons_succ]
      refine sched_skip' (by rfl) ?_
      try simp only [Act.put, List.setIfInBounds_toArray, List.set_cons_zero, List.set_cons_succ]
      refine sched_skip (by rfl) ?_
      try simp only [Act.put, List.setIfInBounds_toArray, List.set_cons_zero, List.set_cons_succ]
      refine sched_skip' (by rfl) ?_
      try simp only [Act.put, List.setIfInBounds_toArray, List.set_cons_zero, List.set_cons_succ]
      refine sched_skip (by rfl) ?_
      try simp only [Act.put, List.setIfInBounds_toArray, List.set_cons_zero, List.set_cons_succ]
      refine sched_skip (by rfl) ?_
      try simp only [Act.put, List.setIfInBounds_toArray, List.set_cons_zero, List.set_cons_succ]
      refine sched_run (v := ?_) (by rfl) ?_ ?_
      rotate_left
      · (intro w' hS'; go_simp; try with_reducible rfl)
      try simp only [Act.put, List.setIfInBounds_toArray, List.set_cons_zero, List.set_cons_succ]
      refine sched_run (v := ?_) (by rfl) ?_ ?_
      rotate_left
      · (intro w' hS'; go_simp; try with_reducible rfl)
      try simp only [Act.put, List.setIfInBounds_toArray, List.set_cons_zero, List.set_cons_succ]
      refine sched_done ?_
      have HVW := Lib.hid hv1
      have HA2 := Lib.hid (HA.out.below' HVW.out)
      have HN2 := Lib.hid (HN.out.trans (HVW.out.mono HN.out.size))
      clear HLD HA PBX HC HN HVW
      clear hv0
      clear hv1
      generalize v1 = V at *
      obtain ⟨p0, p1, _, _, hzp⟩ := two_at HA2.out.bp
      by_cases hc1 : C1 = 0
      · obtain ⟨hP0, hRO, hLV⟩ := pp_right (HC1.out.trans hc1)
        have hP0' : partsF P = 0 := by rw [← HP.out]; exact hP0
        have hRO' : riL (poL rs m1) = roL P := by rw [← HP.out]; exact hRO.symm
        have hLM : lmP P = (0, m1) := by unfold lmP; rw [hP0', ← HP.out, hLV]
        have hmk : (poL rs m1).mark = m1 := by unfold poL; rw [if_pos (HC1.out.trans hc1)]
        have hwf : WfF (poL rs m1).fs := by
          unfold poL; rw [if_pos (HC1.out.trans hc1)]
          intro f hf q hq
          obtain ⟨i, hi, rfl⟩ := List.mem_iff_getElem.1 hf
          have hq' : q ∈ (filesOf rs)[i] := hq
          rw [filesOf_get] at hq'
          exact (HMR.out q (List.mem_filter.1 hq').1).wf
        have hsl := roL_len P
        have hsw : ∀ q ∈ roL P, WfR q := by
          unfold roL; rw [if_pos hP0']
          exact wfs_of_rowsF (roL_facts hP0').2.2.2
        have HP0 := Lib.hid hP0'; have HRO := Lib.hid hRO'; have HLM := Lib.hid hLM; have HMK := Lib.hid (show (Lit.int .i64 (poL rs m1).mark).wf = true by rw [hmk]; exact wf_mild hm1); have HWF := Lib.hid hwf; have HSW := Lib.hid hsw
        have HWP := Lib.hid (wfT_right hP0')
        have HSZ := Lib.hid (poL_sz rs m1)
        have hrc : roC P = 0 := hP0'
        clear hP0 hRO hLV hP0' hRO' hLM hmk hwf hsw
        subst hc1
        go_wp2_with fail
        refine (implRowsOf_a AP cP P _ fP hszP HWP.out HA2.out.pp).mono ?_
        rw [hrc]
        rintro e w5 ⟨_, rfl, ⟨vs, fs, rfl, hrs, _, _⟩, hb5⟩
        obtain ⟨As, cs, rfl⟩ := hrs.rows_form
        generalize hS : roL P = S at *
        have HS := Lib.hid hS
        have HN3 := Lib.hid (below_more (HN2.out.trans (hb5.mono HN2.out.size)) (.cells #[.int .i64 0, .slice As S.length cs] 46))
        have HA3 := Lib.hid ((HA2.out.below' hb5).below' (below_new (.cells #[.int .i64 0, .slice As S.length cs] 46)))
        have HS3 := Lib.hid (hrs.alloc (.cells #[.int .i64 0, .slice As S.length cs] 46))
        have GI := Lib.hid (heap_new w5 (.cells #[.int .i64 0, .slice As S.length cs] 46) rfl)
        clear hrs hb5 HA2 HN2 p0 p1 hzp hS hrc
        go_wp2_with fail
        generalize w5.alloc (.cells #[.int .i64 0, .slice As S.length cs] 46) = X at *
        generalize w5.heap.size = gi at *
        have q2 := fldRs1; have q3 := fldIr1; have q4 := fldPl1
        have hld : ∀ w', Below X.heap.size X w' → w'.cell? ⟨gp, 1, none⟩ = some (.slice AP P.length cP) ∧ w'.cell? ⟨gi, 0, none⟩ = some (.int .i64 0) ∧ w'.cell? ⟨gi, 1, none⟩ = some (.slice As S.length cs) := fun w' h => ⟨(two_kept h HA3.out.bp).2, (two_kept h GI.out).1, (two_kept h GI.out).2⟩
        have HLD := Lib.hid hld; clear hld
        refine wp_region_sched (fun w' => Below X.heap.size X w') [(0, true), (1, true), (2, false), (3, true), (4, true), (5, true), (6, true), (7, true), (8, true), (9, true), (10, true), (11, true), (12, true), (13, true), (14, false), (15, true), (16, false), (17, true), (18, false), (19, true), (20, true), (21, true), (22, true), (25, true), (23, false), (24, true), (26, true), (27, true), (28, true)] (by kernel_rfl) (by kernel_rfl) (by kernel_rfl) (by kernel_rfl) (fun _ _ d _ _ h => by cases d <;> exact h) ⟨rfl, rfl, rfl, Nat.le_refl _, fun _ _ => rfl⟩ ?_
        simp only [opsOf, List.filterMap_cons, List.filterMap_nil, Option.map_some, List.getElem?_toArray, List.getElem?_cons_zero, List.getElem?_cons_succ]
        generalize hW0 : ({ heap := X.heap, tape := X.tape, drawn := X.drawn + 1, os := X.os, output := X.output } : World) = u0
        have hu0 : Below X.heap.size X u0 := by rw [← hW0]; exact ⟨rfl, rfl, rfl, Nat.le_refl _, fun _ _ => rfl⟩
        clear hW0
        refine sched_run (v := ?_) (by rfl) ?_ ?_
        rotate_left
        · (intro w' hS'; go_simp; try with_reducible rfl)
        try simp only [Act.put, List.setIfInBounds_toArray, List.set_cons_zero, List.set_cons_succ]
        refine sched_run (v := ?_) (by rfl) ?_ ?_
        rotate_left
        · (intro w' hS'; obtain ⟨a1, b0, b1⟩ := HLD.out w' hS'; go_simp; try with_reducible rfl)
        try simp only [Act.put, List.setIfInBounds_toArray, List.set_cons_zero, List.set_cons_succ]
        refine sched_call (by rfl) (fun K hK => ?_)
        go_simp
        refine (implPartsFault_a AP cP P _ fP hszP HWP.out (HA3.out.pp.below' hu0)).mono ?_
        rintro e u1 ⟨rfl, hbu0⟩
        have hu1 : Below X.heap.size X u1 := hu0.trans (hbu0.mono hu0.size)
        rw [HP0.out]
        clear hbu0
        refine hK _ _ hu1 ?_
        try simp only [Act.put, List.setIfInBounds_toArray, List.set_cons_zero, List.set_cons_succ]
        refine sched_run (v := ?_) (by rfl) ?_ ?_
        rotate_left
        · (intro w' hS'; go_simp; try with_reducible rfl)
        try simp only [Act.put, List.setIfInBounds_toArray, List.set_cons_zero, List.set_cons_succ]
        refine sched_run (v := ?_) (by rfl) ?_ ?_
        rotate_left
        · (intro w' hS'; go_simp; try with_reducible rfl)
        try simp only [Act.put, List.setIfInBounds_toArray, List.set_cons_zero, List.set_cons_succ]
        refine sched_run (v := ?_) (by rfl) ?_ ?_
        rotate_left
        · (intro w' hS'; go_simp; try with_reducible rfl)
        try simp only [Act.put, List.setIfInBounds_toArray, List.set_cons_zero, List.set_cons_succ]
        refine sched_run (v := ?_) (by rfl) ?_ ?_
        rotate_left
        · (intro w' hS'; obtain ⟨a1, b0, b1⟩ := HLD.out w' hS'; go_simp; try with_reducible rfl)
        try simp only [Act.put, List.setIfInBounds_toArray, List.set_cons_zero, List.set_cons_succ]
        refine sched_run (v := ?_) (by rfl) ?_ ?_
        rotate_left
        · (intro w' hS'; go_simp; try with_reducible rfl)
        try simp only [Act.put, List.setIfInBounds_toArray, List.set_cons_zero, List.set_cons_succ]
        refine sched_run (v := ?_) (by rfl) ?_ ?_
        rotate_left
        · (intro w' hS'; go_simp; try with_reducible rfl)
        try simp only [Act.put, List.setIfInBounds_toArray, List.set_cons_zero, List.set_cons_succ]
        refine sched_run (v := ?_) (by rfl) ?_ ?_
        rotate_left
        · (intro w' hS'; go_simp; try with_reducible rfl)
        try simp only [Act.put, List.setIfInBounds_toArray, List.set_cons_zero, List.set_cons_succ]
        refine sched_run (v := ?_) (by rfl) ?_ ?_
        rotate_left
        · (intro w' hS'; go_simp; try with_reducible rfl)
        try simp only [Act.put, List.setIfInBounds_toArray, List.set_cons_zero, List.set_cons_succ]
        refine sched_run (v := ?_) (by rfl) ?_ ?_
        rotate_left
        · (intro w' hS'; obtain ⟨a1, b0, b1⟩ := HLD.out w' hS'; go_simp; try with_reducible rfl)
        try simp only [Act.put, List.setIfInBounds_toArray, List.set_cons_zero, List.set_cons_succ]
        refine sched_run (v := ?_) (by rfl) ?_ ?_
        rotate_left
        · (intro w' hS'; go_simp; try with_reducible rfl)
        try simp only [Act.put, List.setIfInBounds_toArray, List.set_cons_zero, List.set_cons_succ]
        refine sched_run (v := ?_) (by rfl) ?_ ?_
        rotate_left
        · (intro w' hS'; go_simp; try with_reducible rfl)
        try simp only [Act.put, List.setIfInBounds_toArray, List.set_cons_zero, List.set_cons_succ]
        refine sched_call (by rfl) (fun K hK => ?_)
        go_simp
        refine (implPlacesOf_a A1 c1 rs m1 _ f1 (by omega) (fun q hq => (HMR.out q hq).wf) (wf_mild hm1) (HA3.out.rr.below' hu1)).mono ?_
        rintro e u2 ⟨vo, fo, rfl, hro, _, _, hbu1⟩
        have hu2 : Below X.heap.size X u2 := hu1.trans (hbu1.mono hu1.size)
        have HOO := Lib.hid hro
        clear hro
        clear hbu1
        refine hK _ _ hu2 ?_
        try simp only [Act.put, List.setIfInBounds_toArray, List.set_cons_zero, List.set_cons_succ]
        refine sched_run (v := ?_) (by rfl) ?_ ?_
        rotate_left
        · (intro w' hS'; go_simp; try with_reducible rfl)
        try simp only [Act.put, List.setIfInBounds_toArray, List.set_cons_zero, List.set_cons_succ]
        refine sched_call (by rfl) (fun K hK => ?_)
        go_simp
        refine (implRowsIn_a (poL rs m1) vo _ fo HSZ.out HMK.out HWF.out HOO.out).mono ?_
        rintro e u3 ⟨_, rfl, ⟨vt, ft, rfl, hrt, _, _⟩, hbu2⟩
        have hu3 : Below X.heap.size X u3 := hu2.trans (hbu2.mono hu2.size)
        rw [HRO.out] at hrt
        obtain ⟨At, ct, rfl⟩ := hrt.rows_form
        have HRT := Lib.hid hrt
        clear hrt
        clear hbu2
        refine hK _ _ hu3 ?_
        try simp only [Act.put, List.setIfInBounds_toArray, List.set_cons_zero, List.set_cons_succ]
        refine sched_run (v := ?_) (by rfl) ?_ ?_
        rotate_left
        · (intro w' hS'; go_simp; try with_reducible rfl)
        try simp only [Act.put, List.setIfInBounds_toArray, List.set_cons_zero, List.set_cons_succ]
        refine sched_call (by rfl) (fun K hK => ?_)
        go_simp
        refine (implSameRows_a As At cs ct S S _ fs ft (by omega) (by omega) HSW.out HSW.out (HS3.out.below' hu3) HRT.out).mono ?_
        rintro e u4 ⟨rfl, hbu3⟩
        have hu4 : Below X.heap.size X u4 := hu3.trans (hbu3.mono hu3.size)
        clear hbu3
        refine hK _ _ hu4 ?_
        try simp only [Act.put, List.setIfInBounds_toArray, List.set_cons_zero, List.set_cons_succ]
        refine sched_run (v := ?_) (by rfl) ?_ ?_
        rotate_left
        · (intro w' hS'; go_simp; try with_reducible rfl)
        try simp only [Act.put, List.setIfInBounds_toArray, List.set_cons_zero, List.set_cons_succ]
        refine sched_run (v := ?_) (by rfl) ?_ ?_
        rotate_left
        · (intro w' hS'; go_simp; try with_reducible rfl)
        try simp only [Act.put, List.setIfInBounds_toArray, List.set_cons_zero, List.set_cons_succ]
        refine sched_run (v := ?_) (by rfl) ?_ ?_
        rotate_left
        · (intro w' hS'; go_simp; try with_reducible rfl)
        try simp only [Act.put, List.setIfInBounds_toArray, List.set_cons_zero, List.set_cons_succ]
        refine sched_run (v := ?_) (by rfl) ?_ ?_
        rotate_left
        · (intro w' hS'; obtain ⟨a1, b0, b1⟩ := HLD.out w' hS'; go_simp; try with_reducible rfl)
        try simp only [Act.put, List.setIfInBounds_toArray, List.set_cons_zero, List.set_cons_succ]
        refine sched_run (v := ?_) (by rfl) ?_ ?_
        rotate_left
        · (intro w' hS'; go_simp; try with_reducible rfl)
        try simp only [Act.put, List.setIfInBounds_toArray, List.set_cons_zero, List.set_cons_succ]
        refine sched_call (by rfl) (fun K hK => ?_)
        go_simp
        refine (implLeastMark_a AP cP P _ fP hszP HWP.out (HA3.out.pp.below' hu4)).mono ?_
        rintro e u5 ⟨rfl, hbu4⟩
        have hu5 : Below X.heap.size X u5 := hu4.trans (hbu4.mono hu4.size)
        rw [HLM.out]
        unfold pairV
        clear hbu4
        refine hK _ _ hu5 ?_
        try simp only [Act.put, List.setIfInBounds_toArray, List.set_cons_zero, List.set_cons_succ]
        refine sched_run (v := ?_) (by rfl) ?_ ?_
        rotate_left
        · (intro w' hS'; go_simp; try with_reducible rfl)
        try simp only [Act.put, List.setIfInBounds_toArray, List.set_cons_zero, List.set_cons_succ]
        refine sched_run (v := ?_) (by rfl) ?_ ?_
        rotate_left
        · (intro w' hS'; go_simp; try with_reducible rfl)
        try simp only [Act.put, List.setIfInBounds_toArray, List.set_cons_zero, List.set_cons_succ]
        refine sched_run (v := ?_) (by rfl) ?_ ?_
        rotate_left
        · (intro w' hS'; go_simp; try with_reducible rfl)
        try simp only [Act.put, List.setIfInBounds_toArray, List.set_cons_zero, List.set_cons_succ]
        refine sched_run (v := ?_) (by rfl) ?_ ?_
        rotate_left
        · (intro w' hS'; go_simp; try with_reducible rfl)
        try simp only [Act.put, List.setIfInBounds_toArray, List.set_cons_zero, List.set_cons_succ]
        refine sched_done ?_
        go_wp2_with fail
        go_ret
        exact ⟨by simp, HN3.out.trans (hu5.mono HN3.out.size)⟩
      · have hcb : (C1 != 0) = true := by simpa using hc1
        clear hc1
        go_wp2_with fail
        have hld : ∀ w', Below V.heap.size V w' → w'.cell? ⟨gp, 0, none⟩ = some (.int .i64 C1) ∧ True := fun w' h => ⟨(two_kept h HA2.out.bp).1, trivial⟩
        have HLD := Lib.hid hld; clear hld
        refine wp_region_sched (fun w' => Below V.heap.size V w') [(0, true), (1, true), (4, true), (5, true), (2, false), (3, true), (6, true), (7, true)] (by kernel_rfl) (by kernel_rfl) (by kernel_rfl) (by kernel_rfl) (fun _ _ d _ _ h => by cases d <;> exact h) ⟨rfl, rfl, rfl, Nat.le_refl _, fun _ _ => rfl⟩ ?_
        simp only [opsOf, List.filterMap_cons, List.filterMap_nil, Option.map_some, List.getElem?_toArray, List.getElem?_cons_zero, List.getElem?_cons_succ]
        generalize hW0 : ({ heap := V.heap, tape := V.tape, drawn := V.drawn + 1, os := V.os, output := V.output } : World) = u0
        have hu0 : Below V.heap.size V u0 := by rw [← hW0]; exact ⟨rfl, rfl, rfl, Nat.le_refl _, fun _ _ => rfl⟩
        clear hW0
        refine sched_run (v := ?_) (by rfl) ?_ ?_
        rotate_left
        · (intro w' hS'; go_simp; try with_reducible rfl)
        try simp only [Act.put, List.setIfInBounds_toArray, List.set_cons_zero, List.set_cons_succ]
        refine sched_run (v := ?_) (by rfl) ?_ ?_
        rotate_left
        · (intro w' hS'; go_simp; try with_reducible rfl)
        try simp only [Act.put, List.setIfInBounds_toArray, List.set_cons_zero, List.set_cons_succ]
        refine sched_run (v := ?_) (by rfl) ?_ ?_
        rotate_left
        · (intro w' hS'; go_simp; try with_reducible rfl)
        try simp only [Act.put, List.setIfInBounds_toArray, List.set_cons_zero, List.set_cons_succ]
        refine sched_run (v := ?_) (by rfl) ?_ ?_
        rotate_left
        · (intro w' hS'; obtain ⟨a0, _⟩ := HLD.out w' hS'; go_simp; try with_reducible rfl)
        try simp only [Act.put, List.setIfInBounds_toArray, List.set_cons_zero, List.set_cons_succ]
        refine sched_call (by rfl) (fun K hK => ?_)
        go_simp
        refine (specPartsFrom_r A1 c1 rs m1 _ f1 (by omega) (HA2.out.rr.below' hu0)).mono ?_
        rintro e u1 ⟨vq, fq, rfl, hrq, _, _, hbu0⟩
        have hu1 : Below V.heap.size V u1 := hu0.trans (hbu0.mono hu0.size)
        rw [HC1.out]
        clear hrq
        clear hbu0
        refine hK _ _ hu1 ?_
        try simp only [Act.put, List.setIfInBounds_toArray, List.set_cons_zero, List.set_cons_succ]
        refine sched_run (v := ?_) (by rfl) ?_ ?_
        rotate_left
        · (intro w' hS'; go_simp; try with_reducible rfl)
        try simp only [Act.put, List.setIfInBounds_toArray, List.set_cons_zero, List.set_cons_succ]
        refine sched_run (v := ?_) (by rfl) ?_ ?_
        rotate_left
        · (intro w' hS'; go_simp; try with_reducible rfl)
        try simp only [Act.put, List.setIfInBounds_toArray, List.set_cons_zero, List.set_cons_succ]
        refine sched_run (v := ?_) (by rfl) ?_ ?_
        rotate_left
        · (intro w' hS'; go_simp; try with_reducible rfl)
        try simp only [Act.put, List.setIfInBounds_toArray, List.set_cons_zero, List.set_cons_succ]
        refine sched_done ?_
        go_wp2_with fail
        go_ret
        exact ⟨by simp, HN2.out.trans (hu1.mono HN2.out.size)⟩
end Go.Proofs.YtoabohllphoioaaGreat
