/- The law FnOps answers true for every slice of bytes: the walk. -/
import Derived.Test.YtocllaendofndaaDoorG9
import Derived.Test.YtocllaendofndaaDoorImpl3c
import Derived.Test.YtocllaendofndaaDoorImpl3i
import Derived.Test.YtocllaendofndaaDoorG8
import Derived.Test.YtocllaendofndaaDoorG4
namespace Go.Proofs.YtocllaendofndaaDoor
open Go.RowKit

theorem fldOr0 (a b c d e f g h : Value) (w : World) : (Instr.field 28 (.agg #[a, b, c, d, e, f, g, h]) 0).run Tryd.prog w = .ok a w := by kernel_rfl
theorem fldOr1 (a b c d e f g h : Value) (w : World) : (Instr.field 28 (.agg #[a, b, c, d, e, f, g, h]) 1).run Tryd.prog w = .ok (.agg #[b, c, d, e, f, g, h]) w := by kernel_rfl
theorem fldBy0 (x y : Value) (w : World) : (Instr.field 34 (.agg #[x, y]) 0).run Tryd.prog w = .ok x w := by kernel_rfl
theorem fldBy1 (x y : Value) (w : World) : (Instr.field 34 (.agg #[x, y]) 1).run Tryd.prog w = .ok y w := by kernel_rfl
theorem fldTx1 (x y : Value) (w : World) : (Instr.field 37 (.agg #[x, y]) 1).run Tryd.prog w = .ok y w := by kernel_rfl
theorem or_kept {w w' : World} {g : Nat} {C : Int} {o : O} (h : Below w.heap.size w w') (hg : w.heap[g]? = some (orbox C o)) :
    w'.cell? ⟨g, 0, none⟩ = some (.int .i64 C) ∧ w'.cell? ⟨g, 1, none⟩ = some (.int .i64 o.k) ∧ w'.cell? ⟨g, 2, none⟩ = some (.int .i64 o.rq) ∧ w'.cell? ⟨g, 3, none⟩ = some (.int .i64 o.lc) ∧ w'.cell? ⟨g, 4, none⟩ = some (.int .i64 o.tt) ∧ w'.cell? ⟨g, 5, none⟩ = some (.int .i64 o.sk) ∧ w'.cell? ⟨g, 6, none⟩ = some (.int .i64 o.qt) ∧ w'.cell? ⟨g, 7, none⟩ = some (.int .i64 o.hd) ∧ g < w'.heap.size := or_cells ((h.block _ (heap_lt hg)).trans hg)
theorem ob_kept {w w' : World} {g : Nat} {o : O} (h : Below w.heap.size w w') (hg : w.heap[g]? = some (obox o)) :
    w'.cell? ⟨g, 0, none⟩ = some (.int .i64 o.k) ∧ w'.cell? ⟨g, 1, none⟩ = some (.int .i64 o.rq) ∧ w'.cell? ⟨g, 2, none⟩ = some (.int .i64 o.lc) ∧ w'.cell? ⟨g, 3, none⟩ = some (.int .i64 o.tt) ∧ w'.cell? ⟨g, 4, none⟩ = some (.int .i64 o.sk) ∧ w'.cell? ⟨g, 5, none⟩ = some (.int .i64 o.qt) ∧ w'.cell? ⟨g, 6, none⟩ = some (.int .i64 o.hd) ∧ g < w'.heap.size := op_cells0 ((h.block _ (heap_lt hg)).trans hg)
theorem by_kept {w w' : World} {g : Nat} {u v : Value} {t : TypeId} (h : Below w.heap.size w w') (hg : w.heap[g]? = some (.cells #[u, v] t (0, 0))) :
    w'.cell? ⟨g, 0, none⟩ = some u ∧ w'.cell? ⟨g, 1, none⟩ = some v ∧ g < w'.heap.size := by
  have := (h.block _ (heap_lt hg)).trans hg
  exact ⟨cell_of_heap this, cell_of_heap this, heap_lt this⟩
theorem wf_of_opF {o : O} (h : opF o = 0) : WfO o := by
  obtain ⟨h0, h1, h2, h3, h4, h5, h6⟩ := opF_zero h
  exact MildO.wf ⟨⟨by omega, by omega⟩, ⟨by omega, by omega⟩, ⟨by omega, by omega⟩, ⟨by omega, by omega⟩, ⟨by omega, by omega⟩, ⟨by omega, by omega⟩, ⟨by omega, by omega⟩⟩
/-- Where bytes were read: they are the operation's own. -/
theorem rd_back {zs : List Int} (hby : Byt zs) (h : rdC zs = 0) : opF (rdO zs) = 0 ∧ pkO (rdO zs) = zs := by
  cases hr : readO zs with
  | none => rw [(rd_no hr).1] at h; cases h
  | some o =>
    rw [(rd_ok hr).2]
    unfold readO at hr
    split at hr
    · rename_i hc
      split at hr
      · rename_i a b c d e f g hl
        split at hr
        · rename_i h0
          injection hr with hr
          subst hr
          refine ⟨h0, ?_⟩
          unfold pkO
          rw [if_pos h0]
          have := (pack_read hby hc).2
          rw [hl] at this
          exact this
        · cases hr
      · cases hr
    · cases hr
theorem ps_back {l : List UInt8} (h : psC l = 0) : opF (psO l) = 0 ∧ otL (psO l) = l := by
  cases hp : parseO l with
  | none => rw [(ps_no hp).1] at h; cases h
  | some o =>
    rw [(ps_ok hp).2]
    obtain ⟨h1, h2⟩ := text_parse hp
    exact ⟨h2, by unfold otL; rw [if_pos h2]; exact h1⟩
/-- An operation comes back out of its bytes and out of its text. -/
theorem op_back {o : O} (h : opF o = 0) : rdC (pkO o) = 0 ∧ rdO (pkO o) = o ∧ Byt (pkO o) ∧ psO (otL o) = o ∧ (otL o).length ≤ 100000 := by
  have e1 : packC (opL o) = 0 := packC_0 (by simp [opL]) (opL_short h)
  have e : pkO o = packL (opL o) := by unfold pkO; rw [if_pos h]
  have e2 : otL o = textL o := by unfold otL; rw [if_pos h]
  have hr := read_pack e1
  have hro : readO (pkO o) = some o := by
    rw [e]
    unfold readO
    rw [if_pos hr.1, hr.2]
    simp only [opL]
    rw [if_pos h]
  refine ⟨(rd_ok hro).1, (rd_ok hro).2, by rw [e]; exact packL_byt e1, by rw [e2]; exact (ps_ok (parse_text h)).2, by rw [e2]; exact textL_len h⟩

set_option maxRecDepth 100000 in
set_option maxHeartbeats 16000000 in
theorem lawOps_c (a : Option Addr) (len cap : Nat) (z : List Int) (w : World) (h0 : IsRow .u8 w a len cap z) (hld : Ld2 w) :
    Calls Tryd.prog 3 #[.slice a len cap] w fun e w' => e = .returned (.bool true) ∧ Below w.heap.size w w' := by
  have hlen := h0.len
  have hby := h0.byt
  obtain ⟨fp, hr⟩ := h0.rd
  clear h0
  generalize z.take len = zs at *
  subst hlen
  clear z
  have hmax := hr.len_le
  by_cases hbig : 1048576 < zs.length
  · have HBD := Lib.hid (show decide (1048576 < zs.length) = true by simp [hbig])
    go_enter Tryd.func3, Tryd.ntmps3
    go_wp2_with fail
    refine (lwBig_c _ _ _ _ hmax).mono ?_
    rintro e w1 ⟨rfl, rfl⟩
    rw [HBD.out]
    go_wp2
    go_ret
    exact ⟨rfl, Below.refl _ _⟩
  · have hs : zs.length ≤ 1048576 := by omega
    have HBD := Lib.hid (show decide (1048576 < zs.length) = false by simp [hs])
    have HCR := Lib.hid hr; have HBY := Lib.hid hby; have HL := Lib.hid hld
    clear hr hby hbig hld
    go_enter Tryd.func3, Tryd.ntmps3
    go_wp2_with fail
    refine (lwBig_c _ _ _ _ hmax).mono ?_
    rintro e w0 ⟨rfl, rfl⟩
    rw [HBD.out]
    go_wp2_with fail
    refine (drawReadOp_c a cap zs w fp HCR.out HBY.out hs).mono ?_
    rintro e w1 ⟨xs, A1, c1, f1, rfl, ⟨hbx, hlx⟩, hrx, _, hb1⟩
    have N1 := Lib.hid hb1; have HRX := Lib.hid hrx; have PBX := Lib.hid hbx
    clear hb1 hrx hbx
    go_wp2_with fail
    refine (implReadOp_a A1 c1 xs _ f1 (by omega) PBX.out HRX.out).mono ?_
    rintro e w2 ⟨rfl, hb2⟩
    generalize hC1 : rdC xs = C1 at *
    generalize hO1 : rdO xs = O1 at *
    have HC1 := Lib.hid hC1; have HO1 := Lib.hid hO1
    have N2 := Lib.hid (N1.out.trans (hb2.mono N1.out.size)); have B2 := Lib.hid hb2
    have M2 := Lib.hid (below_more N2.out (orbox C1 O1))
    clear hb2 hC1 hO1
    go_wp2_with fail
    refine (drawParseOp_c a cap zs _ fp (HCR.out.below' M2.out) HBY.out hs).mono ?_
    rintro e w3 ⟨T, rfl, hT, hb3⟩
    have N3 := Lib.hid (M2.out.trans (hb3.mono M2.out.size)); have B3 := Lib.hid hb3
    clear hb3
    go_wp2_with fail
    refine (implParseOp_a T _ hT (HL.out.below N3.out)).mono ?_
    rintro e w4 ⟨rfl, hb4⟩
    generalize hC2 : psC T.data.toList = C2 at *
    generalize hO2 : psO T.data.toList = O2 at *
    have HC2 := Lib.hid hC2; have HO2 := Lib.hid hO2
    have N4 := Lib.hid (N3.out.trans (hb4.mono N3.out.size)); have B4 := Lib.hid hb4
    clear hb4 hC2 hO2
    go_upto_region 7 with (fail)
    have k4 : Below w4.heap.size w4 (w4.alloc (orbox C2 O2)) := below_new _
    have k3 : Below w3.heap.size w3 (w4.alloc (orbox C2 O2)) := B4.out.trans (k4.mono B4.out.size)
    have k2' : Below _ (w2.alloc (orbox C1 O1)) (w4.alloc (orbox C2 O2)) := B3.out.trans (k3.mono B3.out.size)
    have k2 : Below w2.heap.size w2 (w4.alloc (orbox C2 O2)) := (below_new _).trans (k2'.mono (by simp))
    have k1 : Below w1.heap.size w1 (w4.alloc (orbox C2 O2)) := B2.out.trans (k2.mono B2.out.size)
    have hg4 : (w4.alloc (orbox C2 O2)).heap[w2.heap.size]? = some (orbox C1 O1) := newest k2' (by simp)
    have hg6 : (w4.alloc (orbox C2 O2)).heap[w4.heap.size]? = some (orbox C2 O2) := heap_new w4 _ rfl
    have hrx := HRX.out.below' k1
    have hbW : Below w.heap.size w (w4.alloc (orbox C2 O2)) := below_more N4.out _
    clear k1 k2 k2' k3 k4 N1 N2 N3 N4 M2 B2 B3 B4 HRX
    generalize w2.heap.size = g4 at *
    generalize w4.heap.size = g6 at *
    generalize w4.alloc (orbox C2 O2) = W at *
    have G4 := Lib.hid hg4; have G6 := Lib.hid hg6; have HRX := Lib.hid hrx; have HBW := Lib.hid hbW
    have HLW := Lib.hid (HL.out.below hbW)
    clear hg4 hg6 hrx hbW HL
    have q1 := fldOr0; have q2 := fldOr1; have q3 := fldBy0; have q4 := fldBy1; have q5 := fldTx1
    by_cases hz1 : C1 = 0
    · by_cases hz2 : C2 = 0
      · skip
        have hk1 := rd_back PBX.out (HC1.out.trans hz1)
        rw [HO1.out] at hk1
        have HK1 := Lib.hid hk1; have HZ1 := Lib.hid hz1
        have G4 := Lib.hid (show W.heap[g4]? = some (orbox 0 O1) by rw [← hz1]; exact G4.out)
        clear hk1 hz1
        have hk2 := ps_back (HC2.out.trans hz2)
        rw [HO2.out] at hk2
        have HK2 := Lib.hid hk2; have HZ2 := Lib.hid hz2
        have G6 := Lib.hid (show W.heap[g6]? = some (orbox 0 O2) by rw [← hz2]; exact G6.out)
        clear hk2 hz2
        have hld : ∀ w', Below W.heap.size W w' → (w'.cell? ⟨g4, 0, none⟩ = some (.int .i64 0) ∧ w'.cell? ⟨g4, 1, none⟩ = some (.int .i64 O1.k) ∧ w'.cell? ⟨g4, 2, none⟩ = some (.int .i64 O1.rq) ∧ w'.cell? ⟨g4, 3, none⟩ = some (.int .i64 O1.lc) ∧ w'.cell? ⟨g4, 4, none⟩ = some (.int .i64 O1.tt) ∧ w'.cell? ⟨g4, 5, none⟩ = some (.int .i64 O1.sk) ∧ w'.cell? ⟨g4, 6, none⟩ = some (.int .i64 O1.qt) ∧ w'.cell? ⟨g4, 7, none⟩ = some (.int .i64 O1.hd) ∧ g4 < w'.heap.size) ∧ (w'.cell? ⟨g6, 0, none⟩ = some (.int .i64 0) ∧ w'.cell? ⟨g6, 1, none⟩ = some (.int .i64 O2.k) ∧ w'.cell? ⟨g6, 2, none⟩ = some (.int .i64 O2.rq) ∧ w'.cell? ⟨g6, 3, none⟩ = some (.int .i64 O2.lc) ∧ w'.cell? ⟨g6, 4, none⟩ = some (.int .i64 O2.tt) ∧ w'.cell? ⟨g6, 5, none⟩ = some (.int .i64 O2.sk) ∧ w'.cell? ⟨g6, 6, none⟩ = some (.int .i64 O2.qt) ∧ w'.cell? ⟨g6, 7, none⟩ = some (.int .i64 O2.hd) ∧ g6 < w'.heap.size) := fun w' h => ⟨or_kept h G4.out, or_kept h G6.out⟩
        have HLD := Lib.hid hld; clear hld
        refine wp_region_sched (fun w' => Below W.heap.size W w') [(0, true), (1, true), (2, true), (3, false), (4, true), (5, true), (6, true), (7, true), (8, true), (9, true), (10, true), (11, true), (12, true), (15, true), (13, false), (14, true), (16, false), (17, true), (18, true), (19, true), (20, true), (21, true), (22, true), (23, true), (24, false), (25, true), (26, true), (27, true), (28, true), (29, true), (30, true), (31, true), (32, true), (33, true), (34, true), (37, true), (35, false), (36, true), (38, true), (39, true), (40, true)] (by kernel_rfl) (by kernel_rfl) (by kernel_rfl) (by kernel_rfl) (fun _ _ d _ _ h => by cases d <;> exact h) ⟨rfl, rfl, rfl, Nat.le_refl _, fun _ _ => rfl⟩ ?_
        simp only [opsOf, List.filterMap_cons, List.filterMap_nil, Option.map_some, List.getElem?_toArray, List.getElem?_cons_zero, List.getElem?_cons_succ]
        generalize hW0 : ({ heap := W.heap, tape := W.tape, drawn := W.drawn + 1, os := W.os, output := W.output } : World) = v0
        have hv0 : Below W.heap.size W v0 := by rw [← hW0]; exact ⟨rfl, rfl, rfl, Nat.le_refl _, fun _ _ => rfl⟩
        clear hW0
        refine sched_run (v := ?_) (by rfl) ?_ ?_
        rotate_left
        · (intro w' hS'; go_simp; try with_reducible rfl)
        try simp only [Act.put, List.setIfInBounds_toArray, List.set_cons_zero, List.set_cons_succ]
        refine sched_run (v := ?_) (by rfl) ?_ ?_
        rotate_left
        · (intro w' hS'; obtain ⟨⟨a0, a1, a2, a3, a4, a5, a6, a7, az⟩, ⟨b0, b1, b2, b3, b4, b5, b6, b7, bz⟩⟩ := HLD.out w' hS'; go_simp; try with_reducible rfl)
        try simp only [Act.put, List.setIfInBounds_toArray, List.set_cons_zero, List.set_cons_succ]
        refine sched_run (v := ?_) (by rfl) ?_ ?_
        rotate_left
        · (intro w' hS'; go_simp; try with_reducible rfl)
        try simp only [Act.put, List.setIfInBounds_toArray, List.set_cons_zero, List.set_cons_succ]
        refine sched_call (by rfl) (fun K hK => ?_)
        go_simp
        refine (specReadOp_a A1 c1 xs _ f1 (by omega) PBX.out (HRX.out.below' hv0)).mono ?_
        rintro e v1 ⟨rfl, hbv0⟩
        have hv1 : Below W.heap.size W v1 := hv0.trans (hbv0.mono hv0.size)
        rw [HC1.out]
        rw [HZ1.out]
        clear hbv0
        refine hK _ _ hv1 ?_
        try simp only [Act.put, List.setIfInBounds_toArray, List.set_cons_zero, List.set_cons_succ]
        refine sched_run (v := ?_) (by rfl) ?_ ?_
        rotate_left
        · (intro w' hS'; go_simp; try with_reducible rfl)
        try simp only [Act.put, List.setIfInBounds_toArray, List.set_cons_zero, List.set_cons_succ]
        refine sched_run (v := ?_) (by rfl) ?_ ?_
        rotate_left
        · (intro w' hS'; go_simp; try with_reducible rfl)
        try simp only [Act.put, List.setIfInBounds_toArray, List.set_cons_zero, List.set_cons_succ]
        refine sched_run (v := ?_) (by rfl) ?_ ?_
        rotate_left
        · (intro w' hS'; go_simp; try with_reducible rfl)
        try simp only [Act.put, List.setIfInBounds_toArray, List.set_cons_zero, List.set_cons_succ]
        refine sched_run (v := ?_) (by rfl) ?_ ?_
        rotate_left
        · (intro w' hS'; go_simp; try with_reducible rfl)
        try simp only [Act.put, List.setIfInBounds_toArray, List.set_cons_zero, List.set_cons_succ]
        refine sched_run (v := ?_) (by rfl) ?_ ?_
        rotate_left
        · (intro w' hS'; obtain ⟨⟨a0, a1, a2, a3, a4, a5, a6, a7, az⟩, ⟨b0, b1, b2, b3, b4, b5, b6, b7, bz⟩⟩ := HLD.out w' hS'; go_simp; try with_reducible rfl)
        try simp only [Act.put, List.setIfInBounds_toArray, List.set_cons_zero, List.set_cons_succ]
        refine sched_run (v := ?_) (by rfl) ?_ ?_
        rotate_left
        · (intro w' hS'; go_simp; try with_reducible rfl)
        try simp only [Act.put, List.setIfInBounds_toArray, List.set_cons_zero, List.set_cons_succ]
        refine sched_run (v := ?_) (by rfl) ?_ ?_
        rotate_left
        · (intro w' hS'; go_simp; try with_reducible rfl)
        try simp only [Act.put, List.setIfInBounds_toArray, List.set_cons_zero, List.set_cons_succ]
        refine sched_run (v := ?_) (by rfl) ?_ ?_
        rotate_left
        · (intro w' hS'; go_simp; try with_reducible rfl)
        try simp only [Act.put, List.setIfInBounds_toArray, List.set_cons_zero, List.set_cons_succ]
        refine sched_run (v := ?_) (by rfl) ?_ ?_
        rotate_left
        · (intro w' hS'; obtain ⟨⟨a0, a1, a2, a3, a4, a5, a6, a7, az⟩, ⟨b0, b1, b2, b3, b4, b5, b6, b7, bz⟩⟩ := HLD.out w' hS'; go_simp; try with_reducible rfl)
        try simp only [Act.put, List.setIfInBounds_toArray, List.set_cons_zero, List.set_cons_succ]
        refine sched_run (v := ?_) (by rfl) ?_ ?_
        rotate_left
        · (intro w' hS'; go_simp; try with_reducible rfl)
        try simp only [Act.put, List.setIfInBounds_toArray, List.set_cons_zero, List.set_cons_succ]
        refine sched_call (by rfl) (fun K hK => ?_)
        go_simp
        refine (implPackOp_a O1 _ (wf_of_opF HK1.out.1)).mono ?_
        rintro e v2 ⟨_, rfl, ⟨vq, fq, rfl, hrq, _, _⟩, hbv1⟩
        have hv2 : Below W.heap.size W v2 := hv1.trans (hbv1.mono hv1.size)
        rw [HK1.out.2] at hrq
        obtain ⟨Aq, cq, rfl⟩ := hrq.form
        have HRQ := Lib.hid hrq
        clear hrq
        clear hbv1
        refine hK _ _ hv2 ?_
        try simp only [Act.put, List.setIfInBounds_toArray, List.set_cons_zero, List.set_cons_succ]
        refine sched_run (v := ?_) (by rfl) ?_ ?_
        rotate_left
        · (intro w' hS'; go_simp; try with_reducible rfl)
        try simp only [Act.put, List.setIfInBounds_toArray, List.set_cons_zero, List.set_cons_succ]
        refine sched_call (by rfl) (fun K hK => ?_)
        go_simp
        refine (lwBytes_c Aq A1 cq c1 xs _ fq f1 HRQ.out (HRX.out.below' hv2)).mono ?_
        rintro e v3 ⟨rfl, hbv2⟩
        have hv3 : Below W.heap.size W v3 := hv2.trans (hbv2.mono hv2.size)
        clear hbv2
        refine hK _ _ hv3 ?_
        try simp only [Act.put, List.setIfInBounds_toArray, List.set_cons_zero, List.set_cons_succ]
        refine sched_run (v := ?_) (by rfl) ?_ ?_
        rotate_left
        · (intro w' hS'; go_simp; try with_reducible rfl)
        try simp only [Act.put, List.setIfInBounds_toArray, List.set_cons_zero, List.set_cons_succ]
        refine sched_run (v := ?_) (by rfl) ?_ ?_
        rotate_left
        · (intro w' hS'; go_simp; try with_reducible rfl)
        try simp only [Act.put, List.setIfInBounds_toArray, List.set_cons_zero, List.set_cons_succ]
        refine sched_run (v := ?_) (by rfl) ?_ ?_
        rotate_left
        · (intro w' hS'; go_simp; try with_reducible rfl)
        try simp only [Act.put, List.setIfInBounds_toArray, List.set_cons_zero, List.set_cons_succ]
        refine sched_run (v := ?_) (by rfl) ?_ ?_
        rotate_left
        · (intro w' hS'; go_simp; try with_reducible rfl)
        try simp only [Act.put, List.setIfInBounds_toArray, List.set_cons_zero, List.set_cons_succ]
        refine sched_run (v := ?_) (by rfl) ?_ ?_
        rotate_left
        · (intro w' hS'; go_simp; try with_reducible rfl)
        try simp only [Act.put, List.setIfInBounds_toArray, List.set_cons_zero, List.set_cons_succ]
        refine sched_run (v := ?_) (by rfl) ?_ ?_
        rotate_left
        · (intro w' hS'; obtain ⟨⟨a0, a1, a2, a3, a4, a5, a6, a7, az⟩, ⟨b0, b1, b2, b3, b4, b5, b6, b7, bz⟩⟩ := HLD.out w' hS'; go_simp; try with_reducible rfl)
        try simp only [Act.put, List.setIfInBounds_toArray, List.set_cons_zero, List.set_cons_succ]
        refine sched_run (v := ?_) (by rfl) ?_ ?_
        rotate_left
        · (intro w' hS'; go_simp; try with_reducible rfl)
        try simp only [Act.put, List.setIfInBounds_toArray, List.set_cons_zero, List.set_cons_succ]
        refine sched_call (by rfl) (fun K hK => ?_)
        go_simp
        refine (specParseOp_c T _ hT).mono ?_
        rintro e v4 ⟨rfl, hbv3⟩
        have hv4 : Below W.heap.size W v4 := hv3.trans (hbv3.mono hv3.size)
        rw [HC2.out]
        rw [HZ2.out]
        clear hbv3
        refine hK _ _ hv4 ?_
        try simp only [Act.put, List.setIfInBounds_toArray, List.set_cons_zero, List.set_cons_succ]
        refine sched_run (v := ?_) (by rfl) ?_ ?_
        rotate_left
        · (intro w' hS'; go_simp; try with_reducible rfl)
        try simp only [Act.put, List.setIfInBounds_toArray, List.set_cons_zero, List.set_cons_succ]
        refine sched_run (v := ?_) (by rfl) ?_ ?_
        rotate_left
        · (intro w' hS'; go_simp; try with_reducible rfl)
        try simp only [Act.put, List.setIfInBounds_toArray, List.set_cons_zero, List.set_cons_succ]
        refine sched_run (v := ?_) (by rfl) ?_ ?_
        rotate_left
        · (intro w' hS'; go_simp; try with_reducible rfl)
        try simp only [Act.put, List.setIfInBounds_toArray, List.set_cons_zero, List.set_cons_succ]
        refine sched_run (v := ?_) (by rfl) ?_ ?_
        rotate_left
        · (intro w' hS'; go_simp; try with_reducible rfl)
        try simp only [Act.put, List.setIfInBounds_toArray, List.set_cons_zero, List.set_cons_succ]
        refine sched_run (v := ?_) (by rfl) ?_ ?_
        rotate_left
        · (intro w' hS'; go_simp; try with_reducible rfl)
        try simp only [Act.put, List.setIfInBounds_toArray, List.set_cons_zero, List.set_cons_succ]
        refine sched_run (v := ?_) (by rfl) ?_ ?_
        rotate_left
        · (intro w' hS'; obtain ⟨⟨a0, a1, a2, a3, a4, a5, a6, a7, az⟩, ⟨b0, b1, b2, b3, b4, b5, b6, b7, bz⟩⟩ := HLD.out w' hS'; go_simp; try with_reducible rfl)
        try simp only [Act.put, List.setIfInBounds_toArray, List.set_cons_zero, List.set_cons_succ]
        refine sched_run (v := ?_) (by rfl) ?_ ?_
        rotate_left
        · (intro w' hS'; go_simp; try with_reducible rfl)
        try simp only [Act.put, List.setIfInBounds_toArray, List.set_cons_zero, List.set_cons_succ]
        refine sched_run (v := ?_) (by rfl) ?_ ?_
        rotate_left
        · (intro w' hS'; go_simp; try with_reducible rfl)
        try simp only [Act.put, List.setIfInBounds_toArray, List.set_cons_zero, List.set_cons_succ]
        refine sched_run (v := ?_) (by rfl) ?_ ?_
        rotate_left
        · (intro w' hS'; go_simp; try with_reducible rfl)
        try simp only [Act.put, List.setIfInBounds_toArray, List.set_cons_zero, List.set_cons_succ]
        refine sched_run (v := ?_) (by rfl) ?_ ?_
        rotate_left
        · (intro w' hS'; obtain ⟨⟨a0, a1, a2, a3, a4, a5, a6, a7, az⟩, ⟨b0, b1, b2, b3, b4, b5, b6, b7, bz⟩⟩ := HLD.out w' hS'; go_simp; try with_reducible rfl)
        try simp only [Act.put, List.setIfInBounds_toArray, List.set_cons_zero, List.set_cons_succ]
        refine sched_run (v := ?_) (by rfl) ?_ ?_
        rotate_left
        · (intro w' hS'; go_simp; try with_reducible rfl)
        try simp only [Act.put, List.setIfInBounds_toArray, List.set_cons_zero, List.set_cons_succ]
        refine sched_call (by rfl) (fun K hK => ?_)
        go_simp
        refine (implOpText_a O2 _ (wf_of_opF HK2.out.1) (HLW.out.below hv4).ld).mono ?_
        rintro e v5 ⟨rfl, hbv4⟩
        have hv5 : Below W.heap.size W v5 := hv4.trans (hbv4.mono hv4.size)
        rw [HK2.out.2]
        clear hbv4
        refine hK _ _ hv5 ?_
        try simp only [Act.put, List.setIfInBounds_toArray, List.set_cons_zero, List.set_cons_succ]
        refine sched_run (v := ?_) (by rfl) ?_ ?_
        rotate_left
        · (intro w' hS'; go_simp; try with_reducible rfl)
        try simp only [Act.put, List.setIfInBounds_toArray, List.set_cons_zero, List.set_cons_succ]
        refine sched_run (v := .bool false) (by rfl) ?_ ?_
        · (intro w' hS'; obtain ⟨⟨a0, a1, a2, a3, a4, a5, a6, a7, az⟩, ⟨b0, b1, b2, b3, b4, b5, b6, b7, bz⟩⟩ := HLD.out w' hS'; (go_simp) <;> (first | with_reducible rfl | exact HTX.out | simp [HTX.out]))
        try simp only [Act.put, List.setIfInBounds_toArray, List.set_cons_zero, List.set_cons_succ]
        refine sched_run (v := ?_) (by rfl) ?_ ?_
        rotate_left
        · (intro w' hS'; go_simp; try with_reducible rfl)
        try simp only [Act.put, List.setIfInBounds_toArray, List.set_cons_zero, List.set_cons_succ]
        refine sched_run (v := ?_) (by rfl) ?_ ?_
        rotate_left
        · (intro w' hS'; go_simp; try with_reducible rfl)
        try simp only [Act.put, List.setIfInBounds_toArray, List.set_cons_zero, List.set_cons_succ]
        refine sched_done ?_
        have HVB := Lib.hid hv5
        have hbV := HBW.out.trans (HVB.out.mono HBW.out.size)
        have HCV := Lib.hid (HCR.out.below' hbV); have HLV := Lib.hid (HLW.out.below HVB.out); have NV := Lib.hid hbV
        clear hbV HVB HLD G4 G6 HRX HBW HLW HCR PBX HC1 HO1 HC2 HO2
        clear hv0
        clear hv1
        clear hv2
        clear hv3
        clear hv4
        clear hv5
        generalize v5 = V at *
        go_wp2_with fail
        refine (drawPackOp_c a cap zs _ fp HCV.out HBY.out hs).mono ?_
        rintro e w5 ⟨o, rfl, hmo, hb5⟩
        have PMO := Lib.hid hmo; have B5 := Lib.hid hb5
        clear hmo hb5
        go_wp2_with fail
        refine (implPackOp_a o _ PMO.out.wf).mono ?_
        rintro e w6 ⟨_, rfl, ⟨vp, fq6, rfl, hrp, _, _⟩, hb6⟩
        obtain ⟨Ap, cp, rfl⟩ := hrp.form
        generalize hco : opF o = CO
        have PCO := Lib.hid hco; have B6 := Lib.hid hb6; have HRP := Lib.hid hrp
        clear hrp hb6
        have kY : Below w6.heap.size w6 (w6.alloc (.cells #[.int .i64 CO, .slice Ap (pkO o).length cp] 34)) := below_new _
        have k5' : Below _ (w5.alloc (obox o)) (w6.alloc (.cells #[.int .i64 CO, .slice Ap (pkO o).length cp] 34)) := B6.out.trans (kY.mono B6.out.size)
        have k5 : Below w5.heap.size w5 (w6.alloc (.cells #[.int .i64 CO, .slice Ap (pkO o).length cp] 34)) := (below_new _).trans (k5'.mono (by simp))
        have kV : Below V.heap.size V (w6.alloc (.cells #[.int .i64 CO, .slice Ap (pkO o).length cp] 34)) := B5.out.trans (k5.mono B5.out.size)
        have hg7 : (w6.alloc (.cells #[.int .i64 CO, .slice Ap (pkO o).length cp] 34)).heap[w5.heap.size]? = some (obox o) := newest k5' (by simp)
        have hg8 : (w6.alloc (.cells #[.int .i64 CO, .slice Ap (pkO o).length cp] 34)).heap[w6.heap.size]? = some (.cells #[.int .i64 CO, .slice Ap (pkO o).length cp] 34 (0, 0)) := heap_new w6 _ rfl
        have hrp := HRP.out.below' kY
        have hbY := NV.out.trans (kV.mono NV.out.size)
        have HLY := Lib.hid (HLV.out.below kV); have G7 := Lib.hid hg7; have G8 := Lib.hid hg8; have NY := Lib.hid hbY
        replace HRP := Lib.hid hrp
        clear kY k5' k5 kV hg7 hg8 hrp hbY B5 B6 HLV HCV NV
        by_cases h0 : CO = 0
        · subst h0
          have hbk := op_back hco
          have PBK := Lib.hid hbk
          clear hbk hco
          go_upto_region 13 with (fail)
          generalize w5.heap.size = g7 at *
          generalize w6.heap.size = g8 at *
          generalize w6.alloc (.cells #[.int .i64 0, .slice Ap (pkO o).length cp] 34) = Y at *
          have hld : ∀ w', Below Y.heap.size Y w' → (w'.cell? ⟨g7, 0, none⟩ = some (.int .i64 o.k) ∧ w'.cell? ⟨g7, 1, none⟩ = some (.int .i64 o.rq) ∧ w'.cell? ⟨g7, 2, none⟩ = some (.int .i64 o.lc) ∧ w'.cell? ⟨g7, 3, none⟩ = some (.int .i64 o.tt) ∧ w'.cell? ⟨g7, 4, none⟩ = some (.int .i64 o.sk) ∧ w'.cell? ⟨g7, 5, none⟩ = some (.int .i64 o.qt) ∧ w'.cell? ⟨g7, 6, none⟩ = some (.int .i64 o.hd) ∧ g7 < w'.heap.size) ∧ (w'.cell? ⟨g8, 0, none⟩ = some (.int .i64 0) ∧ w'.cell? ⟨g8, 1, none⟩ = some (.slice Ap (pkO o).length cp) ∧ g8 < w'.heap.size) := fun w' h => ⟨ob_kept h G7.out, by_kept h G8.out⟩
          have HLD := Lib.hid hld; clear hld
          refine wp_region_sched (fun w' => Below Y.heap.size Y w') [(0, true), (1, true), (4, true), (2, false), (3, true), (5, true), (6, true), (7, true), (8, true), (9, false), (10, true), (11, true), (12, true), (13, true), (14, true), (19, true), (15, false), (16, true), (17, false), (18, true), (20, true), (21, true), (22, true)] (by kernel_rfl) (by kernel_rfl) (by kernel_rfl) (by kernel_rfl) (fun _ _ d _ _ h => by cases d <;> exact h) ⟨rfl, rfl, rfl, Nat.le_refl _, fun _ _ => rfl⟩ ?_
          simp only [opsOf, List.filterMap_cons, List.filterMap_nil, Option.map_some, List.getElem?_toArray, List.getElem?_cons_zero, List.getElem?_cons_succ]
          generalize hW0 : ({ heap := Y.heap, tape := Y.tape, drawn := Y.drawn + 1, os := Y.os, output := Y.output } : World) = u0
          have hu0 : Below Y.heap.size Y u0 := by rw [← hW0]; exact ⟨rfl, rfl, rfl, Nat.le_refl _, fun _ _ => rfl⟩
          clear hW0
          refine sched_run (v := ?_) (by rfl) ?_ ?_
          rotate_left
          · (intro w' hS'; go_simp; try with_reducible rfl)
          try simp only [Act.put, List.setIfInBounds_toArray, List.set_cons_zero, List.set_cons_succ]
          refine sched_run (v := ?_) (by rfl) ?_ ?_
          rotate_left
          · (intro w' hS'; obtain ⟨⟨d0, d1, d2, d3, d4, d5, d6, dz⟩, ⟨e0, e1, ez⟩⟩ := HLD.out w' hS'; go_simp; try with_reducible rfl)
          try simp only [Act.put, List.setIfInBounds_toArray, List.set_cons_zero, List.set_cons_succ]
          refine sched_run (v := ?_) (by rfl) ?_ ?_
          rotate_left
          · (intro w' hS'; obtain ⟨⟨d0, d1, d2, d3, d4, d5, d6, dz⟩, ⟨e0, e1, ez⟩⟩ := HLD.out w' hS'; go_simp; try with_reducible rfl)
          try simp only [Act.put, List.setIfInBounds_toArray, List.set_cons_zero, List.set_cons_succ]
          refine sched_call (by rfl) (fun K hK => ?_)
          go_simp
          refine (implReadOp_a Ap cp (pkO o) _ fq6 (by have := pkO_len o; omega) PBK.out.2.2.1 (HRP.out.below' hu0)).mono ?_
          rintro e u1 ⟨rfl, hbu0⟩
          have hu1 : Below Y.heap.size Y u1 := hu0.trans (hbu0.mono hu0.size)
          rw [PBK.out.1, PBK.out.2.1]
          clear hbu0
          refine hK _ _ hu1 ?_
          try simp only [Act.put, List.setIfInBounds_toArray, List.set_cons_zero, List.set_cons_succ]
          refine sched_run (v := ?_) (by rfl) ?_ ?_
          rotate_left
          · (intro w' hS'; go_simp; try with_reducible rfl)
          try simp only [Act.put, List.setIfInBounds_toArray, List.set_cons_zero, List.set_cons_succ]
          refine sched_run (v := ?_) (by rfl) ?_ ?_
          rotate_left
          · (intro w' hS'; go_simp; try with_reducible rfl)
          try simp only [Act.put, List.setIfInBounds_toArray, List.set_cons_zero, List.set_cons_succ]
          refine sched_run (v := ?_) (by rfl) ?_ ?_
          rotate_left
          · (intro w' hS'; go_simp; try with_reducible rfl)
          try simp only [Act.put, List.setIfInBounds_toArray, List.set_cons_zero, List.set_cons_succ]
          refine sched_run (v := ?_) (by rfl) ?_ ?_
          rotate_left
          · (intro w' hS'; go_simp; try with_reducible rfl)
          try simp only [Act.put, List.setIfInBounds_toArray, List.set_cons_zero, List.set_cons_succ]
          refine sched_run (v := ?_) (by rfl) ?_ ?_
          rotate_left
          · (intro w' hS'; obtain ⟨⟨d0, d1, d2, d3, d4, d5, d6, dz⟩, ⟨e0, e1, ez⟩⟩ := HLD.out w' hS'; go_simp; try with_reducible rfl)
          try simp only [Act.put, List.setIfInBounds_toArray, List.set_cons_zero, List.set_cons_succ]
          refine sched_call (by rfl) (fun K hK => ?_)
          go_simp
          refine (implReadOp_a Ap cp (pkO o) _ fq6 (by have := pkO_len o; omega) PBK.out.2.2.1 (HRP.out.below' hu1)).mono ?_
          rintro e u2 ⟨rfl, hbu1⟩
          have hu2 : Below Y.heap.size Y u2 := hu1.trans (hbu1.mono hu1.size)
          rw [PBK.out.1, PBK.out.2.1]
          clear hbu1
          refine hK _ _ hu2 ?_
          try simp only [Act.put, List.setIfInBounds_toArray, List.set_cons_zero, List.set_cons_succ]
          refine sched_run (v := ?_) (by rfl) ?_ ?_
          rotate_left
          · (intro w' hS'; go_simp; try with_reducible rfl)
          try simp only [Act.put, List.setIfInBounds_toArray, List.set_cons_zero, List.set_cons_succ]
          refine sched_run (v := ?_) (by rfl) ?_ ?_
          rotate_left
          · (intro w' hS'; go_simp; try with_reducible rfl)
          try simp only [Act.put, List.setIfInBounds_toArray, List.set_cons_zero, List.set_cons_succ]
          refine sched_run (v := ?_) (by rfl) ?_ ?_
          rotate_left
          · (intro w' hS'; go_simp; try with_reducible rfl)
          try simp only [Act.put, List.setIfInBounds_toArray, List.set_cons_zero, List.set_cons_succ]
          refine sched_run (v := ?_) (by rfl) ?_ ?_
          rotate_left
          · (intro w' hS'; go_simp; try with_reducible rfl)
          try simp only [Act.put, List.setIfInBounds_toArray, List.set_cons_zero, List.set_cons_succ]
          refine sched_run (v := ?_) (by rfl) ?_ ?_
          rotate_left
          · (intro w' hS'; obtain ⟨⟨d0, d1, d2, d3, d4, d5, d6, dz⟩, ⟨e0, e1, ez⟩⟩ := HLD.out w' hS'; go_simp; try with_reducible rfl)
          try simp only [Act.put, List.setIfInBounds_toArray, List.set_cons_zero, List.set_cons_succ]
          refine sched_run (v := ?_) (by rfl) ?_ ?_
          rotate_left
          · (intro w' hS'; obtain ⟨⟨d0, d1, d2, d3, d4, d5, d6, dz⟩, ⟨e0, e1, ez⟩⟩ := HLD.out w' hS'; go_simp; try with_reducible rfl)
          try simp only [Act.put, List.setIfInBounds_toArray, List.set_cons_zero, List.set_cons_succ]
          refine sched_call (by rfl) (fun K hK => ?_)
          go_simp
          refine (implOpText_a o _ PMO.out.wf (HLY.out.below hu2).ld).mono ?_
          rintro e u3 ⟨rfl, hbu2⟩
          have hu3 : Below Y.heap.size Y u3 := hu2.trans (hbu2.mono hu2.size)
          rw [PCO.out]
          clear hbu2
          refine hK _ _ hu3 ?_
          try simp only [Act.put, List.setIfInBounds_toArray, List.set_cons_zero, List.set_cons_succ]
          refine sched_run (v := ?_) (by rfl) ?_ ?_
          rotate_left
          · (intro w' hS'; go_simp; try with_reducible rfl)
          try simp only [Act.put, List.setIfInBounds_toArray, List.set_cons_zero, List.set_cons_succ]
          refine sched_call (by rfl) (fun K hK => ?_)
          go_simp
          refine (implParseOp_a ⟨(otL o).toArray⟩ _ (by have := PBK.out.2.2.2.2; simp [ByteArray.size]; omega) (HLY.out.below hu3)).mono ?_
          rintro e u4 ⟨rfl, hbu3⟩
          have hu4 : Below Y.heap.size Y u4 := hu3.trans (hbu3.mono hu3.size)
          rw [show (⟨(otL o).toArray⟩ : ByteArray).data.toList = otL o from rfl, PBK.out.2.2.2.1]
          clear hbu3
          refine hK _ _ hu4 ?_
          try simp only [Act.put, List.setIfInBounds_toArray, List.set_cons_zero, List.set_cons_succ]
          refine sched_run (v := ?_) (by rfl) ?_ ?_
          rotate_left
          · (intro w' hS'; go_simp; try with_reducible rfl)
          try simp only [Act.put, List.setIfInBounds_toArray, List.set_cons_zero, List.set_cons_succ]
          refine sched_run (v := ?_) (by rfl) ?_ ?_
          rotate_left
          · (intro w' hS'; go_simp; try with_reducible rfl)
          try simp only [Act.put, List.setIfInBounds_toArray, List.set_cons_zero, List.set_cons_succ]
          refine sched_run (v := ?_) (by rfl) ?_ ?_
          rotate_left
          · (intro w' hS'; go_simp; try with_reducible rfl)
          try simp only [Act.put, List.setIfInBounds_toArray, List.set_cons_zero, List.set_cons_succ]
          refine sched_run (v := ?_) (by rfl) ?_ ?_
          rotate_left
          · (intro w' hS'; go_simp; try with_reducible rfl)
          try simp only [Act.put, List.setIfInBounds_toArray, List.set_cons_zero, List.set_cons_succ]
          refine sched_done ?_
          go_wp2_with fail
          go_ret
          exact ⟨rfl, NY.out.trans (hu4.mono NY.out.size)⟩
        · have hne : (CO != 0) = true := by simpa using h0
          clear hco
          go_upto_region 12 with (fail)
          generalize w5.heap.size = g7 at *
          generalize w6.heap.size = g8 at *
          generalize w6.alloc (.cells #[.int .i64 CO, .slice Ap (pkO o).length cp] 34) = Y at *
          have hld : ∀ w', Below Y.heap.size Y w' → (w'.cell? ⟨g7, 0, none⟩ = some (.int .i64 o.k) ∧ w'.cell? ⟨g7, 1, none⟩ = some (.int .i64 o.rq) ∧ w'.cell? ⟨g7, 2, none⟩ = some (.int .i64 o.lc) ∧ w'.cell? ⟨g7, 3, none⟩ = some (.int .i64 o.tt) ∧ w'.cell? ⟨g7, 4, none⟩ = some (.int .i64 o.sk) ∧ w'.cell? ⟨g7, 5, none⟩ = some (.int .i64 o.qt) ∧ w'.cell? ⟨g7, 6, none⟩ = some (.int .i64 o.hd) ∧ g7 < w'.heap.size) ∧ (w'.cell? ⟨g8, 0, none⟩ = some (.int .i64 CO) ∧ w'.cell? ⟨g8, 1, none⟩ = some (.slice Ap (pkO o).length cp) ∧ g8 < w'.heap.size) := fun w' h => ⟨ob_kept h G7.out, by_kept h G8.out⟩
          have HLD := Lib.hid hld; clear hld
          refine wp_region_sched (fun w' => Below Y.heap.size Y w') [(0, true), (3, true), (4, true), (1, false), (2, true), (5, true), (6, true), (7, true), (9, true), (10, true), (8, false), (11, true), (12, true), (13, true)] (by kernel_rfl) (by kernel_rfl) (by kernel_rfl) (by kernel_rfl) (fun _ _ d _ _ h => by cases d <;> exact h) ⟨rfl, rfl, rfl, Nat.le_refl _, fun _ _ => rfl⟩ ?_
          simp only [opsOf, List.filterMap_cons, List.filterMap_nil, Option.map_some, List.getElem?_toArray, List.getElem?_cons_zero, List.getElem?_cons_succ]
          generalize hW0 : ({ heap := Y.heap, tape := Y.tape, drawn := Y.drawn + 1, os := Y.os, output := Y.output } : World) = u0
          have hu0 : Below Y.heap.size Y u0 := by rw [← hW0]; exact ⟨rfl, rfl, rfl, Nat.le_refl _, fun _ _ => rfl⟩
          clear hW0
          refine sched_run (v := ?_) (by rfl) ?_ ?_
          rotate_left
          · (intro w' hS'; obtain ⟨⟨d0, d1, d2, d3, d4, d5, d6, dz⟩, ⟨e0, e1, ez⟩⟩ := HLD.out w' hS'; go_simp; try with_reducible rfl)
          try simp only [Act.put, List.setIfInBounds_toArray, List.set_cons_zero, List.set_cons_succ]
          refine sched_run (v := ?_) (by rfl) ?_ ?_
          rotate_left
          · (intro w' hS'; go_simp; try with_reducible rfl)
          try simp only [Act.put, List.setIfInBounds_toArray, List.set_cons_zero, List.set_cons_succ]
          refine sched_run (v := ?_) (by rfl) ?_ ?_
          rotate_left
          · (intro w' hS'; obtain ⟨⟨d0, d1, d2, d3, d4, d5, d6, dz⟩, ⟨e0, e1, ez⟩⟩ := HLD.out w' hS'; go_simp; try with_reducible rfl)
          try simp only [Act.put, List.setIfInBounds_toArray, List.set_cons_zero, List.set_cons_succ]
          refine sched_call (by rfl) (fun K hK => ?_)
          go_simp
          refine (specPackOp_a o _ PMO.out.wf).mono ?_
          rintro e u1 ⟨_, rfl, ⟨vq2, fq2, rfl, hrq2, _, _⟩, hbu0⟩
          have hu1 : Below Y.heap.size Y u1 := hu0.trans (hbu0.mono hu0.size)
          obtain ⟨Aq2, cq2, rfl⟩ := hrq2.form
          clear hrq2
          rw [PCO.out]
          clear hbu0
          refine hK _ _ hu1 ?_
          try simp only [Act.put, List.setIfInBounds_toArray, List.set_cons_zero, List.set_cons_succ]
          refine sched_run (v := ?_) (by rfl) ?_ ?_
          rotate_left
          · (intro w' hS'; go_simp; try with_reducible rfl)
          try simp only [Act.put, List.setIfInBounds_toArray, List.set_cons_zero, List.set_cons_succ]
          refine sched_run (v := ?_) (by rfl) ?_ ?_
          rotate_left
          · (intro w' hS'; go_simp; try with_reducible rfl)
          try simp only [Act.put, List.setIfInBounds_toArray, List.set_cons_zero, List.set_cons_succ]
          refine sched_run (v := ?_) (by rfl) ?_ ?_
          rotate_left
          · (intro w' hS'; go_simp; try with_reducible rfl)
          try simp only [Act.put, List.setIfInBounds_toArray, List.set_cons_zero, List.set_cons_succ]
          refine sched_run (v := ?_) (by rfl) ?_ ?_
          rotate_left
          · (intro w' hS'; obtain ⟨⟨d0, d1, d2, d3, d4, d5, d6, dz⟩, ⟨e0, e1, ez⟩⟩ := HLD.out w' hS'; go_simp; try with_reducible rfl)
          try simp only [Act.put, List.setIfInBounds_toArray, List.set_cons_zero, List.set_cons_succ]
          refine sched_run (v := ?_) (by rfl) ?_ ?_
          rotate_left
          · (intro w' hS'; go_simp; try with_reducible rfl)
          try simp only [Act.put, List.setIfInBounds_toArray, List.set_cons_zero, List.set_cons_succ]
          refine sched_run (v := ?_) (by rfl) ?_ ?_
          rotate_left
          · (intro w' hS'; obtain ⟨⟨d0, d1, d2, d3, d4, d5, d6, dz⟩, ⟨e0, e1, ez⟩⟩ := HLD.out w' hS'; go_simp; try with_reducible rfl)
          try simp only [Act.put, List.setIfInBounds_toArray, List.set_cons_zero, List.set_cons_succ]
          refine sched_call (by rfl) (fun K hK => ?_)
          go_simp
          refine (implOpFault_a o _ PMO.out.wf).mono ?_
          rintro e u2 ⟨rfl, hbu1⟩
          have hu2 : Below Y.heap.size Y u2 := hu1.trans (hbu1.mono hu1.size)
          rw [PCO.out]
          clear hbu1
          refine hK _ _ hu2 ?_
          try simp only [Act.put, List.setIfInBounds_toArray, List.set_cons_zero, List.set_cons_succ]
          refine sched_run (v := ?_) (by rfl) ?_ ?_
          rotate_left
          · (intro w' hS'; go_simp; try with_reducible rfl)
          try simp only [Act.put, List.setIfInBounds_toArray, List.set_cons_zero, List.set_cons_succ]
          refine sched_run (v := ?_) (by rfl) ?_ ?_
          rotate_left
          · (intro w' hS'; go_simp; try with_reducible rfl)
          try simp only [Act.put, List.setIfInBounds_toArray, List.set_cons_zero, List.set_cons_succ]
          refine sched_run (v := ?_) (by rfl) ?_ ?_
          rotate_left
          · (intro w' hS'; go_simp; try with_reducible rfl)
          try simp only [Act.put, List.setIfInBounds_toArray, List.set_cons_zero, List.set_cons_succ]
          refine sched_done ?_
          go_wp2_with fail
          go_ret
          exact ⟨rfl, NY.out.trans (hu2.mono NY.out.size)⟩
      · skip
        have hk1 := rd_back PBX.out (HC1.out.trans hz1)
        rw [HO1.out] at hk1
        have HK1 := Lib.hid hk1; have HZ1 := Lib.hid hz1
        have G4 := Lib.hid (show W.heap[g4]? = some (orbox 0 O1) by rw [← hz1]; exact G4.out)
        clear hk1 hz1
        have hy2 : (C2 == 0) = false := by simpa using hz2
        have hld : ∀ w', Below W.heap.size W w' → (w'.cell? ⟨g4, 0, none⟩ = some (.int .i64 0) ∧ w'.cell? ⟨g4, 1, none⟩ = some (.int .i64 O1.k) ∧ w'.cell? ⟨g4, 2, none⟩ = some (.int .i64 O1.rq) ∧ w'.cell? ⟨g4, 3, none⟩ = some (.int .i64 O1.lc) ∧ w'.cell? ⟨g4, 4, none⟩ = some (.int .i64 O1.tt) ∧ w'.cell? ⟨g4, 5, none⟩ = some (.int .i64 O1.sk) ∧ w'.cell? ⟨g4, 6, none⟩ = some (.int .i64 O1.qt) ∧ w'.cell? ⟨g4, 7, none⟩ = some (.int .i64 O1.hd) ∧ g4 < w'.heap.size) ∧ (w'.cell? ⟨g6, 0, none⟩ = some (.int .i64 C2) ∧ w'.cell? ⟨g6, 1, none⟩ = some (.int .i64 O2.k) ∧ w'.cell? ⟨g6, 2, none⟩ = some (.int .i64 O2.rq) ∧ w'.cell? ⟨g6, 3, none⟩ = some (.int .i64 O2.lc) ∧ w'.cell? ⟨g6, 4, none⟩ = some (.int .i64 O2.tt) ∧ w'.cell? ⟨g6, 5, none⟩ = some (.int .i64 O2.sk) ∧ w'.cell? ⟨g6, 6, none⟩ = some (.int .i64 O2.qt) ∧ w'.cell? ⟨g6, 7, none⟩ = some (.int .i64 O2.hd) ∧ g6 < w'.heap.size) := fun w' h => ⟨or_kept h G4.out, or_kept h G6.out⟩
        have HLD := Lib.hid hld; clear hld
        refine wp_region_sched (fun w' => Below W.heap.size W w') [(0, true), (1, true), (2, true), (3, false), (4, true), (5, true), (6, true), (7, true), (8, true), (9, true), (10, true), (11, true), (12, true), (15, true), (13, false), (14, true), (16, false), (17, true), (18, true), (19, true), (20, true), (21, true), (22, true), (23, true), (24, false), (25, true), (26, true), (27, true), (28, true), (29, true), (30, true), (31, true), (32, true), (33, true), (34, true), (37, true), (35, false), (36, true), (38, true), (39, true), (40, true)] (by kernel_rfl) (by kernel_rfl) (by kernel_rfl) (by kernel_rfl) (fun _ _ d _ _ h => by cases d <;> exact h) ⟨rfl, rfl, rfl, Nat.le_refl _, fun _ _ => rfl⟩ ?_
        simp only [opsOf, List.filterMap_cons, List.filterMap_nil, Option.map_some, List.getElem?_toArray, List.getElem?_cons_zero, List.getElem?_cons_succ]
        generalize hW0 : ({ heap := W.heap, tape := W.tape, drawn := W.drawn + 1, os := W.os, output := W.output } : World) = v0
        have hv0 : Below W.heap.size W v0 := by rw [← hW0]; exact ⟨rfl, rfl, rfl, Nat.le_refl _, fun _ _ => rfl⟩
        clear hW0
        refine sched_run (v := ?_) (by rfl) ?_ ?_
        rotate_left
        · (intro w' hS'; go_simp; try with_reducible rfl)
        try simp only [Act.put, List.setIfInBounds_toArray, List.set_cons_zero, List.set_cons_succ]
        refine sched_run (v := ?_) (by rfl) ?_ ?_
        rotate_left
        · (intro w' hS'; obtain ⟨⟨a0, a1, a2, a3, a4, a5, a6, a7, az⟩, ⟨b0, b1, b2, b3, b4, b5, b6, b7, bz⟩⟩ := HLD.out w' hS'; go_simp; try with_reducible rfl)
        try simp only [Act.put, List.setIfInBounds_toArray, List.set_cons_zero, List.set_cons_succ]
        refine sched_run (v := ?_) (by rfl) ?_ ?_
        rotate_left
        · (intro w' hS'; go_simp; try with_reducible rfl)
        try simp only [Act.put, List.setIfInBounds_toArray, List.set_cons_zero, List.set_cons_succ]
        refine sched_call (by rfl) (fun K hK => ?_)
        go_simp
        refine (specReadOp_a A1 c1 xs _ f1 (by omega) PBX.out (HRX.out.below' hv0)).mono ?_
        rintro e v1 ⟨rfl, hbv0⟩
        have hv1 : Below W.heap.size W v1 := hv0.trans (hbv0.mono hv0.size)
        rw [HC1.out]
        rw [HZ1.out]
        clear hbv0
        refine hK _ _ hv1 ?_
        try simp only [Act.put, List.setIfInBounds_toArray, List.set_cons_zero, List.set_cons_succ]
        refine sched_run (v := ?_) (by rfl) ?_ ?_
        rotate_left
        · (intro w' hS'; go_simp; try with_reducible rfl)
        try simp only [Act.put, List.setIfInBounds_toArray, List.set_cons_zero, List.set_cons_succ]
        refine sched_run (v := ?_) (by rfl) ?_ ?_
        rotate_left
        · (intro w' hS'; go_simp; try with_reducible rfl)
        try simp only [Act.put, List.setIfInBounds_toArray, List.set_cons_zero, List.set_cons_succ]
        refine sched_run (v := ?_) (by rfl) ?_ ?_
        rotate_left
        · (intro w' hS'; go_simp; try with_reducible rfl)
        try simp only [Act.put, List.setIfInBounds_toArray, List.set_cons_zero, List.set_cons_succ]
        refine sched_run (v := ?_) (by rfl) ?_ ?_
        rotate_left
        · (intro w' hS'; go_simp; try with_reducible rfl)
        try simp only [Act.put, List.setIfInBounds_toArray, List.set_cons_zero, List.set_cons_succ]
        refine sched_run (v := ?_) (by rfl) ?_ ?_
        rotate_left
        · (intro w' hS'; obtain ⟨⟨a0, a1, a2, a3, a4, a5, a6, a7, az⟩, ⟨b0, b1, b2, b3, b4, b5, b6, b7, bz⟩⟩ := HLD.out w' hS'; go_simp; try with_reducible rfl)
        try simp only [Act.put, List.setIfInBounds_toArray, List.set_cons_zero, List.set_cons_succ]
        refine sched_run (v := ?_) (by rfl) ?_ ?_
        rotate_left
        · (intro w' hS'; go_simp; try with_reducible rfl)
        try simp only [Act.put, List.setIfInBounds_toArray, List.set_cons_zero, List.set_cons_succ]
        refine sched_run (v := ?_) (by rfl) ?_ ?_
        rotate_left
        · (intro w' hS'; go_simp; try with_reducible rfl)
        try simp only [Act.put, List.setIfInBounds_toArray, List.set_cons_zero, List.set_cons_succ]
        refine sched_run (v := ?_) (by rfl) ?_ ?_
        rotate_left
        · (intro w' hS'; go_simp; try with_reducible rfl)
        try simp only [Act.put, List.setIfInBounds_toArray, List.set_cons_zero, List.set_cons_succ]
        refine sched_run (v := ?_) (by rfl) ?_ ?_
        rotate_left
        · (intro w' hS'; obtain ⟨⟨a0, a1, a2, a3, a4, a5, a6, a7, az⟩, ⟨b0, b1, b2, b3, b4, b5, b6, b7, bz⟩⟩ := HLD.out w' hS'; go_simp; try with_reducible rfl)
        try simp only [Act.put, List.setIfInBounds_toArray, List.set_cons_zero, List.set_cons_succ]
        refine sched_run (v := ?_) (by rfl) ?_ ?_
        rotate_left
        · (intro w' hS'; go_simp; try with_reducible rfl)
        try simp only [Act.put, List.setIfInBounds_toArray, List.set_cons_zero, List.set_cons_succ]
        refine sched_call (by rfl) (fun K hK => ?_)
        go_simp
        refine (implPackOp_a O1 _ (wf_of_opF HK1.out.1)).mono ?_
        rintro e v2 ⟨_, rfl, ⟨vq, fq, rfl, hrq, _, _⟩, hbv1⟩
        have hv2 : Below W.heap.size W v2 := hv1.trans (hbv1.mono hv1.size)
        rw [HK1.out.2] at hrq
        obtain ⟨Aq, cq, rfl⟩ := hrq.form
        have HRQ := Lib.hid hrq
        clear hrq
        clear hbv1
        refine hK _ _ hv2 ?_
        try simp only [Act.put, List.setIfInBounds_toArray, List.set_cons_zero, List.set_cons_succ]
        refine sched_run (v := ?_) (by rfl) ?_ ?_
        rotate_left
        · (intro w' hS'; go_simp; try with_reducible rfl)
        try simp only [Act.put, List.setIfInBounds_toArray, List.set_cons_zero, List.set_cons_succ]
        refine sched_call (by rfl) (fun K hK => ?_)
        go_simp
        refine (lwBytes_c Aq A1 cq c1 xs _ fq f1 HRQ.out (HRX.out.below' hv2)).mono ?_
        rintro e v3 ⟨rfl, hbv2⟩
        have hv3 : Below W.heap.size W v3 := hv2.trans (hbv2.mono hv2.size)
        clear hbv2
        refine hK _ _ hv3 ?_
        try simp only [Act.put, List.setIfInBounds_toArray, List.set_cons_zero, List.set_cons_succ]
        refine sched_run (v := ?_) (by rfl) ?_ ?_
        rotate_left
        · (intro w' hS'; go_simp; try with_reducible rfl)
        try simp only [Act.put, List.setIfInBounds_toArray, List.set_cons_zero, List.set_cons_succ]
        refine sched_run (v := ?_) (by rfl) ?_ ?_
        rotate_left
        · (intro w' hS'; go_simp; try with_reducible rfl)
        try simp only [Act.put, List.setIfInBounds_toArray, List.set_cons_zero, List.set_cons_succ]
        refine sched_run (v := ?_) (by rfl) ?_ ?_
        rotate_left
        · (intro w' hS'; go_simp; try with_reducible rfl)
        try simp only [Act.put, List.setIfInBounds_toArray, List.set_cons_zero, List.set_cons_succ]
        refine sched_run (v := ?_) (by rfl) ?_ ?_
        rotate_left
        · (intro w' hS'; go_simp; try with_reducible rfl)
        try simp only [Act.put, List.setIfInBounds_toArray, List.set_cons_zero, List.set_cons_succ]
        refine sched_run (v := ?_) (by rfl) ?_ ?_
        rotate_left
        · (intro w' hS'; go_simp; try with_reducible rfl)
        try simp only [Act.put, List.setIfInBounds_toArray, List.set_cons_zero, List.set_cons_succ]
        refine sched_run (v := ?_) (by rfl) ?_ ?_
        rotate_left
        · (intro w' hS'; obtain ⟨⟨a0, a1, a2, a3, a4, a5, a6, a7, az⟩, ⟨b0, b1, b2, b3, b4, b5, b6, b7, bz⟩⟩ := HLD.out w' hS'; go_simp; try with_reducible rfl)
        try simp only [Act.put, List.setIfInBounds_toArray, List.set_cons_zero, List.set_cons_succ]
        refine sched_run (v := ?_) (by rfl) ?_ ?_
        rotate_left
        · (intro w' hS'; go_simp; try with_reducible rfl)
        try simp only [Act.put, List.setIfInBounds_toArray, List.set_cons_zero, List.set_cons_succ]
        refine sched_call (by rfl) (fun K hK => ?_)
        go_simp
        refine (specParseOp_c T _ hT).mono ?_
        rintro e v4 ⟨rfl, hbv3⟩
        have hv4 : Below W.heap.size W v4 := hv3.trans (hbv3.mono hv3.size)
        rw [HC2.out]
        clear hbv3
        refine hK _ _ hv4 ?_
        try simp only [Act.put, List.setIfInBounds_toArray, List.set_cons_zero, List.set_cons_succ]
        refine sched_run (v := ?_) (by rfl) ?_ ?_
        rotate_left
        · (intro w' hS'; go_simp; try with_reducible rfl)
        try simp only [Act.put, List.setIfInBounds_toArray, List.set_cons_zero, List.set_cons_succ]
        refine sched_run (v := ?_) (by rfl) ?_ ?_
        rotate_left
        · (intro w' hS'; go_simp; try with_reducible rfl)
        try simp only [Act.put, List.setIfInBounds_toArray, List.set_cons_zero, List.set_cons_succ]
        refine sched_run (v := ?_) (by rfl) ?_ ?_
        rotate_left
        · (intro w' hS'; go_simp; try with_reducible rfl)
        try simp only [Act.put, List.setIfInBounds_toArray, List.set_cons_zero, List.set_cons_succ]
        refine sched_run (v := ?_) (by rfl) ?_ ?_
        rotate_left
        · (intro w' hS'; go_simp; try with_reducible rfl)
        try simp only [Act.put, List.setIfInBounds_toArray, List.set_cons_zero, List.set_cons_succ]
        refine sched_run (v := ?_) (by rfl) ?_ ?_
        rotate_left
        · (intro w' hS'; go_simp; try with_reducible rfl)
        try simp only [Act.put, List.setIfInBounds_toArray, List.set_cons_zero, List.set_cons_succ]
        refine sched_run (v := ?_) (by rfl) ?_ ?_
        rotate_left
        · (intro w' hS'; obtain ⟨⟨a0, a1, a2, a3, a4, a5, a6, a7, az⟩, ⟨b0, b1, b2, b3, b4, b5, b6, b7, bz⟩⟩ := HLD.out w' hS'; go_simp; try with_reducible rfl)
        try simp only [Act.put, List.setIfInBounds_toArray, List.set_cons_zero, List.set_cons_succ]
        refine sched_run (v := ?_) (by rfl) ?_ ?_
        rotate_left
        · (intro w' hS'; go_simp; try with_reducible rfl)
        try simp only [Act.put, List.setIfInBounds_toArray, List.set_cons_zero, List.set_cons_succ]
        refine sched_run (v := ?_) (by rfl) ?_ ?_
        rotate_left
        · (intro w' hS'; go_simp; try with_reducible rfl)
        try simp only [Act.put, List.setIfInBounds_toArray, List.set_cons_zero, List.set_cons_succ]
        refine sched_skip (by rfl) ?_
        try simp only [Act.put, List.setIfInBounds_toArray, List.set_cons_zero, List.set_cons_succ]
        refine sched_skip (by rfl) ?_
        try simp only [Act.put, List.setIfInBounds_toArray, List.set_cons_zero, List.set_cons_succ]
        refine sched_skip (by rfl) ?_
        try simp only [Act.put, List.setIfInBounds_toArray, List.set_cons_zero, List.set_cons_succ]
        refine sched_skip' (by rfl) ?_
        try simp only [Act.put, List.setIfInBounds_toArray, List.set_cons_zero, List.set_cons_succ]
        refine sched_skip (by rfl) ?_
        try simp only [Act.put, List.setIfInBounds_toArray, List.set_cons_zero, List.set_cons_succ]
        refine sched_skip (by rfl) ?_
        try simp only [Act.put, List.setIfInBounds_toArray, List.set_cons_zero, List.set_cons_succ]
        refine sched_run (v := ?_) (by rfl) ?_ ?_
        rotate_left
        · (intro w' hS'; go_simp; try with_reducible rfl)
        try simp only [Act.put, List.setIfInBounds_toArray, List.set_cons_zero, List.set_cons_succ]
        refine sched_run (v := ?_) (by rfl) ?_ ?_
        rotate_left
        · (intro w' hS'; go_simp; try with_reducible rfl)
        try simp only [Act.put, List.setIfInBounds_toArray, List.set_cons_zero, List.set_cons_succ]
        refine sched_done ?_
        have HVB := Lib.hid hv4
        have hbV := HBW.out.trans (HVB.out.mono HBW.out.size)
        have HCV := Lib.hid (HCR.out.below' hbV); have HLV := Lib.hid (HLW.out.below HVB.out); have NV := Lib.hid hbV
        clear hbV HVB HLD G4 G6 HRX HBW HLW HCR PBX HC1 HO1 HC2 HO2
        clear hv0
        clear hv1
        clear hv2
        clear hv3
        clear hv4
        generalize v4 = V at *
        go_wp2_with fail
        refine (drawPackOp_c a cap zs _ fp HCV.out HBY.out hs).mono ?_
        rintro e w5 ⟨o, rfl, hmo, hb5⟩
        have PMO := Lib.hid hmo; have B5 := Lib.hid hb5
        clear hmo hb5
        go_wp2_with fail
        refine (implPackOp_a o _ PMO.out.wf).mono ?_
        rintro e w6 ⟨_, rfl, ⟨vp, fq6, rfl, hrp, _, _⟩, hb6⟩
        obtain ⟨Ap, cp, rfl⟩ := hrp.form
        generalize hco : opF o = CO
        have PCO := Lib.hid hco; have B6 := Lib.hid hb6; have HRP := Lib.hid hrp
        clear hrp hb6
        have kY : Below w6.heap.size w6 (w6.alloc (.cells #[.int .i64 CO, .slice Ap (pkO o).length cp] 34)) := below_new _
        have k5' : Below _ (w5.alloc (obox o)) (w6.alloc (.cells #[.int .i64 CO, .slice Ap (pkO o).length cp] 34)) := B6.out.trans (kY.mono B6.out.size)
        have k5 : Below w5.heap.size w5 (w6.alloc (.cells #[.int .i64 CO, .slice Ap (pkO o).length cp] 34)) := (below_new _).trans (k5'.mono (by simp))
        have kV : Below V.heap.size V (w6.alloc (.cells #[.int .i64 CO, .slice Ap (pkO o).length cp] 34)) := B5.out.trans (k5.mono B5.out.size)
        have hg7 : (w6.alloc (.cells #[.int .i64 CO, .slice Ap (pkO o).length cp] 34)).heap[w5.heap.size]? = some (obox o) := newest k5' (by simp)
        have hg8 : (w6.alloc (.cells #[.int .i64 CO, .slice Ap (pkO o).length cp] 34)).heap[w6.heap.size]? = some (.cells #[.int .i64 CO, .slice Ap (pkO o).length cp] 34 (0, 0)) := heap_new w6 _ rfl
        have hrp := HRP.out.below' kY
        have hbY := NV.out.trans (kV.mono NV.out.size)
        have HLY := Lib.hid (HLV.out.below kV); have G7 := Lib.hid hg7; have G8 := Lib.hid hg8; have NY := Lib.hid hbY
        replace HRP := Lib.hid hrp
        clear kY k5' k5 kV hg7 hg8 hrp hbY B5 B6 HLV HCV NV
        by_cases h0 : CO = 0
        · subst h0
          have hbk := op_back hco
          have PBK := Lib.hid hbk
          clear hbk hco
          go_upto_region 13 with (fail)
          generalize w5.heap.size = g7 at *
          generalize w6.heap.size = g8 at *
          generalize w6.alloc (.cells #[.int .i64 0, .slice Ap (pkO o).length cp] 34) = Y at *
          have hld : ∀ w', Below Y.heap.size Y w' → (w'.cell? ⟨g7, 0, none⟩ = some (.int .i64 o.k) ∧ w'.cell? ⟨g7, 1, none⟩ = some (.int .i64 o.rq) ∧ w'.cell? ⟨g7, 2, none⟩ = some (.int .i64 o.lc) ∧ w'.cell? ⟨g7, 3, none⟩ = some (.int .i64 o.tt) ∧ w'.cell? ⟨g7, 4, none⟩ = some (.int .i64 o.sk) ∧ w'.cell? ⟨g7, 5, none⟩ = some (.int .i64 o.qt) ∧ w'.cell? ⟨g7, 6, none⟩ = some (.int .i64 o.hd) ∧ g7 < w'.heap.size) ∧ (w'.cell? ⟨g8, 0, none⟩ = some (.int .i64 0) ∧ w'.cell? ⟨g8, 1, none⟩ = some (.slice Ap (pkO o).length cp) ∧ g8 < w'.heap.size) := fun w' h => ⟨ob_kept h G7.out, by_kept h G8.out⟩
          have HLD := Lib.hid hld; clear hld
          refine wp_region_sched (fun w' => Below Y.heap.size Y w') [(0, true), (1, true), (4, true), (2, false), (3, true), (5, true), (6, true), (7, true), (8, true), (9, false), (10, true), (11, true), (12, true), (13, true), (14, true), (19, true), (15, false), (16, true), (17, false), (18, true), (20, true), (21, true), (22, true)] (by kernel_rfl) (by kernel_rfl) (by kernel_rfl) (by kernel_rfl) (fun _ _ d _ _ h => by cases d <;> exact h) ⟨rfl, rfl, rfl, Nat.le_refl _, fun _ _ => rfl⟩ ?_
          simp only [opsOf, List.filterMap_cons, List.filterMap_nil, Option.map_some, List.getElem?_toArray, List.getElem?_cons_zero, List.getElem?_cons_succ]
          generalize hW0 : ({ heap := Y.heap, tape := Y.tape, drawn := Y.drawn + 1, os := Y.os, output := Y.output } : World) = u0
          have hu0 : Below Y.heap.size Y u0 := by rw [← hW0]; exact ⟨rfl, rfl, rfl, Nat.le_refl _, fun _ _ => rfl⟩
          clear hW0
          refine sched_run (v := ?_) (by rfl) ?_ ?_
          rotate_left
          · (intro w' hS'; go_simp; try with_reducible rfl)
          try simp only [Act.put, List.setIfInBounds_toArray, List.set_cons_zero, List.set_cons_succ]
          refine sched_run (v := ?_) (by rfl) ?_ ?_
          rotate_left
          · (intro w' hS'; obtain ⟨⟨d0, d1, d2, d3, d4, d5, d6, dz⟩, ⟨e0, e1, ez⟩⟩ := HLD.out w' hS'; go_simp; try with_reducible rfl)
          try simp only [Act.put, List.setIfInBounds_toArray, List.set_cons_zero, List.set_cons_succ]
          refine sched_run (v := ?_) (by rfl) ?_ ?_
          rotate_left
          · (intro w' hS'; obtain ⟨⟨d0, d1, d2, d3, d4, d5, d6, dz⟩, ⟨e0, e1, ez⟩⟩ := HLD.out w' hS'; go_simp; try with_reducible rfl)
          try simp only [Act.put, List.setIfInBounds_toArray, List.set_cons_zero, List.set_cons_succ]
          refine sched_call (by rfl) (fun K hK => ?_)
          go_simp
          refine (implReadOp_a Ap cp (pkO o) _ fq6 (by have := pkO_len o; omega) PBK.out.2.2.1 (HRP.out.below' hu0)).mono ?_
          rintro e u1 ⟨rfl, hbu0⟩
          have hu1 : Below Y.heap.size Y u1 := hu0.trans (hbu0.mono hu0.size)
          rw [PBK.out.1, PBK.out.2.1]
          clear hbu0
          refine hK _ _ hu1 ?_
          try simp only [Act.put, List.setIfInBounds_toArray, List.set_cons_zero, List.set_cons_succ]
          refine sched_run (v := ?_) (by rfl) ?_ ?_
          rotate_left
          · (intro w' hS'; go_simp; try with_reducible rfl)
          try simp only [Act.put, List.setIfInBounds_toArray, List.set_cons_zero, List.set_cons_succ]
          refine sched_run (v := ?_) (by rfl) ?_ ?_
          rotate_left
          · (intro w' hS'; go_simp; try with_reducible rfl)
          try simp only [Act.put, List.setIfInBounds_toArray, List.set_cons_zero, List.set_cons_succ]
          refine sched_run (v := ?_) (by rfl) ?_ ?_
          rotate_left
          · (intro w' hS'; go_simp; try with_reducible rfl)
          try simp only [Act.put, List.setIfInBounds_toArray, List.set_cons_zero, List.set_cons_succ]
          refine sched_run (v := ?_) (by rfl) ?_ ?_
          rotate_left
          · (intro w' hS'; go_simp; try with_reducible rfl)
          try simp only [Act.put, List.setIfInBounds_toArray, List.set_cons_zero, List.set_cons_succ]
          refine sched_run (v := ?_) (by rfl) ?_ ?_
          rotate_left
          · (intro w' hS'; obtain ⟨⟨d0, d1, d2, d3, d4, d5, d6, dz⟩, ⟨e0, e1, ez⟩⟩ := HLD.out w' hS'; go_simp; try with_reducible rfl)
          try simp only [Act.put, List.setIfInBounds_toArray, List.set_cons_zero, List.set_cons_succ]
          refine sched_call (by rfl) (fun K hK => ?_)
          go_simp
          refine (implReadOp_a Ap cp (pkO o) _ fq6 (by have := pkO_len o; omega) PBK.out.2.2.1 (HRP.out.below' hu1)).mono ?_
          rintro e u2 ⟨rfl, hbu1⟩
          have hu2 : Below Y.heap.size Y u2 := hu1.trans (hbu1.mono hu1.size)
          rw [PBK.out.1, PBK.out.2.1]
          clear hbu1
          refine hK _ _ hu2 ?_
          try simp only [Act.put, List.setIfInBounds_toArray, List.set_cons_zero, List.set_cons_succ]
          refine sched_run (v := ?_) (by rfl) ?_ ?_
          rotate_left
          · (intro w' hS'; go_simp; try with_reducible rfl)
          try simp only [Act.put, List.setIfInBounds_toArray, List.set_cons_zero, List.set_cons_succ]
          refine sched_run (v := ?_) (by rfl) ?_ ?_
          rotate_left
          · (intro w' hS'; go_simp; try with_reducible rfl)
          try simp only [Act.put, List.setIfInBounds_toArray, List.set_cons_zero, List.set_cons_succ]
          refine sched_run (v := ?_) (by rfl) ?_ ?_
          rotate_left
          · (intro w' hS'; go_simp; try with_reducible rfl)
          try simp only [Act.put, List.setIfInBounds_toArray, List.set_cons_zero, List.set_cons_succ]
          refine sched_run (v := ?_) (by rfl) ?_ ?_
          rotate_left
          · (intro w' hS'; go_simp; try with_reducible rfl)
          try simp only [Act.put, List.setIfInBounds_toArray, List.set_cons_zero, List.set_cons_succ]
          refine sched_run (v := ?_) (by rfl) ?_ ?_
          rotate_left
          · (intro w' hS'; obtain ⟨⟨d0, d1, d2, d3, d4, d5, d6, dz⟩, ⟨e0, e1, ez⟩⟩ := HLD.out w' hS'; go_simp; try with_reducible rfl)
          try simp only [Act.put, List.setIfInBounds_toArray, List.set_cons_zero, List.set_cons_succ]
          refine sched_run (v := ?_) (by rfl) ?_ ?_
          rotate_left
          · (intro w' hS'; obtain ⟨⟨d0, d1, d2, d3, d4, d5, d6, dz⟩, ⟨e0, e1, ez⟩⟩ := HLD.out w' hS'; go_simp; try with_reducible rfl)
          try simp only [Act.put, List.setIfInBounds_toArray, List.set_cons_zero, List.set_cons_succ]
          refine sched_call (by rfl) (fun K hK => ?_)
          go_simp
          refine (implOpText_a o _ PMO.out.wf (HLY.out.below hu2).ld).mono ?_
          rintro e u3 ⟨rfl, hbu2⟩
          have hu3 : Below Y.heap.size Y u3 := hu2.trans (hbu2.mono hu2.size)
          rw [PCO.out]
          clear hbu2
          refine hK _ _ hu3 ?_
          try simp only [Act.put, List.setIfInBounds_toArray, List.set_cons_zero, List.set_cons_succ]
          refine sched_run (v := ?_) (by rfl) ?_ ?_
          rotate_left
          · (intro w' hS'; go_simp; try with_reducible rfl)
          try simp only [Act.put, List.setIfInBounds_toArray, List.set_cons_zero, List.set_cons_succ]
          refine sched_call (by rfl) (fun K hK => ?_)
          go_simp
          refine (implParseOp_a ⟨(otL o).toArray⟩ _ (by have := PBK.out.2.2.2.2; simp [ByteArray.size]; omega) (HLY.out.below hu3)).mono ?_
          rintro e u4 ⟨rfl, hbu3⟩
          have hu4 : Below Y.heap.size Y u4 := hu3.trans (hbu3.mono hu3.size)
          rw [show (⟨(otL o).toArray⟩ : ByteArray).data.toList = otL o from rfl, PBK.out.2.2.2.1]
          clear hbu3
          refine hK _ _ hu4 ?_
          try simp only [Act.put, List.setIfInBounds_toArray, List.set_cons_zero, List.set_cons_succ]
          refine sched_run (v := ?_) (by rfl) ?_ ?_
          rotate_left
          · (intro w' hS'; go_simp; try with_reducible rfl)
          try simp only [Act.put, List.setIfInBounds_toArray, List.set_cons_zero, List.set_cons_succ]
          refine sched_run (v := ?_) (by rfl) ?_ ?_
          rotate_left
          · (intro w' hS'; go_simp; try with_reducible rfl)
          try simp only [Act.put, List.setIfInBounds_toArray, List.set_cons_zero, List.set_cons_succ]
          refine sched_run (v := ?_) (by rfl) ?_ ?_
          rotate_left
          · (intro w' hS'; go_simp; try with_reducible rfl)
          try simp only [Act.put, List.setIfInBounds_toArray, List.set_cons_zero, List.set_cons_succ]
          refine sched_run (v := ?_) (by rfl) ?_ ?_
          rotate_left
          · (intro w' hS'; go_simp; try with_reducible rfl)
          try simp only [Act.put, List.setIfInBounds_toArray, List.set_cons_zero, List.set_cons_succ]
          refine sched_done ?_
          go_wp2_with fail
          go_ret
          exact ⟨rfl, NY.out.trans (hu4.mono NY.out.size)⟩
        · have hne : (CO != 0) = true := by simpa using h0
          clear hco
          go_upto_region 12 with (fail)
          generalize w5.heap.size = g7 at *
          generalize w6.heap.size = g8 at *
          generalize w6.alloc (.cells #[.int .i64 CO, .slice Ap (pkO o).length cp] 34) = Y at *
          have hld : ∀ w', Below Y.heap.size Y w' → (w'.cell? ⟨g7, 0, none⟩ = some (.int .i64 o.k) ∧ w'.cell? ⟨g7, 1, none⟩ = some (.int .i64 o.rq) ∧ w'.cell? ⟨g7, 2, none⟩ = some (.int .i64 o.lc) ∧ w'.cell? ⟨g7, 3, none⟩ = some (.int .i64 o.tt) ∧ w'.cell? ⟨g7, 4, none⟩ = some (.int .i64 o.sk) ∧ w'.cell? ⟨g7, 5, none⟩ = some (.int .i64 o.qt) ∧ w'.cell? ⟨g7, 6, none⟩ = some (.int .i64 o.hd) ∧ g7 < w'.heap.size) ∧ (w'.cell? ⟨g8, 0, none⟩ = some (.int .i64 CO) ∧ w'.cell? ⟨g8, 1, none⟩ = some (.slice Ap (pkO o).length cp) ∧ g8 < w'.heap.size) := fun w' h => ⟨ob_kept h G7.out, by_kept h G8.out⟩
          have HLD := Lib.hid hld; clear hld
          refine wp_region_sched (fun w' => Below Y.heap.size Y w') [(0, true), (3, true), (4, true), (1, false), (2, true), (5, true), (6, true), (7, true), (9, true), (10, true), (8, false), (11, true), (12, true), (13, true)] (by kernel_rfl) (by kernel_rfl) (by kernel_rfl) (by kernel_rfl) (fun _ _ d _ _ h => by cases d <;> exact h) ⟨rfl, rfl, rfl, Nat.le_refl _, fun _ _ => rfl⟩ ?_
          simp only [opsOf, List.filterMap_cons, List.filterMap_nil, Option.map_some, List.getElem?_toArray, List.getElem?_cons_zero, List.getElem?_cons_succ]
          generalize hW0 : ({ heap := Y.heap, tape := Y.tape, drawn := Y.drawn + 1, os := Y.os, output := Y.output } : World) = u0
          have hu0 : Below Y.heap.size Y u0 := by rw [← hW0]; exact ⟨rfl, rfl, rfl, Nat.le_refl _, fun _ _ => rfl⟩
          clear hW0
          refine sched_run (v := ?_) (by rfl) ?_ ?_
          rotate_left
          · (intro w' hS'; obtain ⟨⟨d0, d1, d2, d3, d4, d5, d6, dz⟩, ⟨e0, e1, ez⟩⟩ := HLD.out w' hS'; go_simp; try with_reducible rfl)
          try simp only [Act.put, List.setIfInBounds_toArray, List.set_cons_zero, List.set_cons_succ]
          refine sched_run (v := ?_) (by rfl) ?_ ?_
          rotate_left
          · (intro w' hS'; go_simp; try with_reducible rfl)
          try simp only [Act.put, List.setIfInBounds_toArray, List.set_cons_zero, List.set_cons_succ]
          refine sched_run (v := ?_) (by rfl) ?_ ?_
          rotate_left
          · (intro w' hS'; obtain ⟨⟨d0, d1, d2, d3, d4, d5, d6, dz⟩, ⟨e0, e1, ez⟩⟩ := HLD.out w' hS'; go_simp; try with_reducible rfl)
          try simp only [Act.put, List.setIfInBounds_toArray, List.set_cons_zero, List.set_cons_succ]
          refine sched_call (by rfl) (fun K hK => ?_)
          go_simp
          refine (specPackOp_a o _ PMO.out.wf).mono ?_
          rintro e u1 ⟨_, rfl, ⟨vq2, fq2, rfl, hrq2, _, _⟩, hbu0⟩
          have hu1 : Below Y.heap.size Y u1 := hu0.trans (hbu0.mono hu0.size)
          obtain ⟨Aq2, cq2, rfl⟩ := hrq2.form
          clear hrq2
          rw [PCO.out]
          clear hbu0
          refine hK _ _ hu1 ?_
          try simp only [Act.put, List.setIfInBounds_toArray, List.set_cons_zero, List.set_cons_succ]
          refine sched_run (v := ?_) (by rfl) ?_ ?_
          rotate_left
          · (intro w' hS'; go_simp; try with_reducible rfl)
          try simp only [Act.put, List.setIfInBounds_toArray, List.set_cons_zero, List.set_cons_succ]
          refine sched_run (v := ?_) (by rfl) ?_ ?_
          rotate_left
          · (intro w' hS'; go_simp; try with_reducible rfl)
          try simp only [Act.put, List.setIfInBounds_toArray, List.set_cons_zero, List.set_cons_succ]
          refine sched_run (v := ?_) (by rfl) ?_ ?_
          rotate_left
          · (intro w' hS'; go_simp; try with_reducible rfl)
          try simp only [Act.put, List.setIfInBounds_toArray, List.set_cons_zero, List.set_cons_succ]
          refine sched_run (v := ?_) (by rfl) ?_ ?_
          rotate_left
          · (intro w' hS'; obtain ⟨⟨d0, d1, d2, d3, d4, d5, d6, dz⟩, ⟨e0, e1, ez⟩⟩ := HLD.out w' hS'; go_simp; try with_reducible rfl)
          try simp only [Act.put, List.setIfInBounds_toArray, List.set_cons_zero, List.set_cons_succ]
          refine sched_run (v := ?_) (by rfl) ?_ ?_
          rotate_left
          · (intro w' hS'; go_simp; try with_reducible rfl)
          try simp only [Act.put, List.setIfInBounds_toArray, List.set_cons_zero, List.set_cons_succ]
          refine sched_run (v := ?_) (by rfl) ?_ ?_
          rotate_left
          · (intro w' hS'; obtain ⟨⟨d0, d1, d2, d3, d4, d5, d6, dz⟩, ⟨e0, e1, ez⟩⟩ := HLD.out w' hS'; go_simp; try with_reducible rfl)
          try simp only [Act.put, List.setIfInBounds_toArray, List.set_cons_zero, List.set_cons_succ]
          refine sched_call (by rfl) (fun K hK => ?_)
          go_simp
          refine (implOpFault_a o _ PMO.out.wf).mono ?_
          rintro e u2 ⟨rfl, hbu1⟩
          have hu2 : Below Y.heap.size Y u2 := hu1.trans (hbu1.mono hu1.size)
          rw [PCO.out]
          clear hbu1
          refine hK _ _ hu2 ?_
          try simp only [Act.put, List.setIfInBounds_toArray, List.set_cons_zero, List.set_cons_succ]
          refine sched_run (v := ?_) (by rfl) ?_ ?_
          rotate_left
          · (intro w' hS'; go_simp; try with_reducible rfl)
          try simp only [Act.put, List.setIfInBounds_toArray, List.set_cons_zero, List.set_cons_succ]
          refine sched_run (v := ?_) (by rfl) ?_ ?_
          rotate_left
          · (intro w' hS'; go_simp; try with_reducible rfl)
          try simp only [Act.put, List.setIfInBounds_toArray, List.set_cons_zero, List.set_cons_succ]
          refine sched_run (v := ?_) (by rfl) ?_ ?_
          rotate_left
          · (intro w' hS'; go_simp; try with_reducible rfl)
          try simp only [Act.put, List.setIfInBounds_toArray, List.set_cons_zero, List.set_cons_succ]
          refine sched_done ?_
          go_wp2_with fail
          go_ret
          exact ⟨rfl, NY.out.trans (hu2.mono NY.out.size)⟩
    · by_cases hz2 : C2 = 0
      · skip
        have hy1 : (C1 == 0) = false := by simpa using hz1
        have hk2 := ps_back (HC2.out.trans hz2)
        rw [HO2.out] at hk2
        have HK2 := Lib.hid hk2; have HZ2 := Lib.hid hz2
        have G6 := Lib.hid (show W.heap[g6]? = some (orbox 0 O2) by rw [← hz2]; exact G6.out)
        clear hk2 hz2
        have hld : ∀ w', Below W.heap.size W w' → (w'.cell? ⟨g4, 0, none⟩ = some (.int .i64 C1) ∧ w'.cell? ⟨g4, 1, none⟩ = some (.int .i64 O1.k) ∧ w'.cell? ⟨g4, 2, none⟩ = some (.int .i64 O1.rq) ∧ w'.cell? ⟨g4, 3, none⟩ = some (.int .i64 O1.lc) ∧ w'.cell? ⟨g4, 4, none⟩ = some (.int .i64 O1.tt) ∧ w'.cell? ⟨g4, 5, none⟩ = some (.int .i64 O1.sk) ∧ w'.cell? ⟨g4, 6, none⟩ = some (.int .i64 O1.qt) ∧ w'.cell? ⟨g4, 7, none⟩ = some (.int .i64 O1.hd) ∧ g4 < w'.heap.size) ∧ (w'.cell? ⟨g6, 0, none⟩ = some (.int .i64 0) ∧ w'.cell? ⟨g6, 1, none⟩ = some (.int .i64 O2.k) ∧ w'.cell? ⟨g6, 2, none⟩ = some (.int .i64 O2.rq) ∧ w'.cell? ⟨g6, 3, none⟩ = some (.int .i64 O2.lc) ∧ w'.cell? ⟨g6, 4, none⟩ = some (.int .i64 O2.tt) ∧ w'.cell? ⟨g6, 5, none⟩ = some (.int .i64 O2.sk) ∧ w'.cell? ⟨g6, 6, none⟩ = some (.int .i64 O2.qt) ∧ w'.cell? ⟨g6, 7, none⟩ = some (.int .i64 O2.hd) ∧ g6 < w'.heap.size) := fun w' h => ⟨or_kept h G4.out, or_kept h G6.out⟩
        have HLD := Lib.hid hld; clear hld
        refine wp_region_sched (fun w' => Below W.heap.size W w') [(0, true), (1, true), (2, true), (3, false), (4, true), (5, true), (6, true), (7, true), (8, true), (9, true), (10, true), (11, true), (12, true), (15, true), (13, false), (14, true), (16, false), (17, true), (18, true), (19, true), (20, true), (21, true), (22, true), (23, true), (24, false), (25, true), (26, true), (27, true), (28, true), (29, true), (30, true), (31, true), (32, true), (33, true), (34, true), (37, true), (35, false), (36, true), (38, true), (39, true), (40, true)] (by kernel_rfl) (by kernel_rfl) (by kernel_rfl) (by kernel_rfl) (fun _ _ d _ _ h => by cases d <;> exact h) ⟨rfl, rfl, rfl, Nat.le_refl _, fun _ _ => rfl⟩ ?_
        simp only [opsOf, List.filterMap_cons, List.filterMap_nil, Option.map_some, List.getElem?_toArray, List.getElem?_cons_zero, List.getElem?_cons_succ]
        generalize hW0 : ({ heap := W.heap, tape := W.tape, drawn := W.drawn + 1, os := W.os, output := W.output } : World) = v0
        have hv0 : Below W.heap.size W v0 := by rw [← hW0]; exact ⟨rfl, rfl, rfl, Nat.le_refl _, fun _ _ => rfl⟩
        clear hW0
        refine sched_run (v := ?_) (by rfl) ?_ ?_
        rotate_left
        · (intro w' hS'; go_simp; try with_reducible rfl)
        try simp only [Act.put, List.setIfInBounds_toArray, List.set_cons_zero, List.set_cons_succ]
        refine sched_run (v := ?_) (by rfl) ?_ ?_
        rotate_left
        · (intro w' hS'; obtain ⟨⟨a0, a1, a2, a3, a4, a5, a6, a7, az⟩, ⟨b0, b1, b2, b3, b4, b5, b6, b7, bz⟩⟩ := HLD.out w' hS'; go_simp; try with_reducible rfl)
        try simp only [Act.put, List.setIfInBounds_toArray, List.set_cons_zero, List.set_cons_succ]
        refine sched_run (v := ?_) (by rfl) ?_ ?_
        rotate_left
        · (intro w' hS'; go_simp; try with_reducible rfl)
        try simp only [Act.put, List.setIfInBounds_toArray, List.set_cons_zero, List.set_cons_succ]
        refine sched_call (by rfl) (fun K hK => ?_)
        go_simp
        refine (specReadOp_a A1 c1 xs _ f1 (by omega) PBX.out (HRX.out.below' hv0)).mono ?_
        rintro e v1 ⟨rfl, hbv0⟩
        have hv1 : Below W.heap.size W v1 := hv0.trans (hbv0.mono hv0.size)
        rw [HC1.out]
        clear hbv0
        refine hK _ _ hv1 ?_
        try simp only [Act.put, List.setIfInBounds_toArray, List.set_cons_zero, List.set_cons_succ]
        refine sched_run (v := ?_) (by rfl) ?_ ?_
        rotate_left
        · (intro w' hS'; go_simp; try with_reducible rfl)
        try simp only [Act.put, List.setIfInBounds_toArray, List.set_cons_zero, List.set_cons_succ]
        refine sched_run (v := ?_) (by rfl) ?_ ?_
        rotate_left
        · (intro w' hS'; go_simp; try with_reducible rfl)
        try simp only [Act.put, List.setIfInBounds_toArray, List.set_cons_zero, List.set_cons_succ]
        refine sched_run (v := ?_) (by rfl) ?_ ?_
        rotate_left
        · (intro w' hS'; go_simp; try with_reducible rfl)
        try simp only [Act.put, List.setIfInBounds_toArray, List.set_cons_zero, List.set_cons_succ]
        refine sched_run (v := ?_) (by rfl) ?_ ?_
        rotate_left
        · (intro w' hS'; go_simp; try with_reducible rfl)
        try simp only [Act.put, List.setIfInBounds_toArray, List.set_cons_zero, List.set_cons_succ]
        refine sched_run (v := ?_) (by rfl) ?_ ?_
        rotate_left
        · (intro w' hS'; obtain ⟨⟨a0, a1, a2, a3, a4, a5, a6, a7, az⟩, ⟨b0, b1, b2, b3, b4, b5, b6, b7, bz⟩⟩ := HLD.out w' hS'; go_simp; try with_reducible rfl)
        try simp only [Act.put, List.setIfInBounds_toArray, List.set_cons_zero, List.set_cons_succ]
        refine sched_run (v := ?_) (by rfl) ?_ ?_
        rotate_left
        · (intro w' hS'; go_simp; try with_reducible rfl)
        try simp only [Act.put, List.setIfInBounds_toArray, List.set_cons_zero, List.set_cons_succ]
        refine sched_run (v := ?_) (by rfl) ?_ ?_
        rotate_left
        · (intro w' hS'; go_simp; try with_reducible rfl)
        try simp only [Act.put, List.setIfInBounds_toArray, List.set_cons_zero, List.set_cons_succ]
        refine sched_skip (by rfl) ?_
        try simp only [Act.put, List.setIfInBounds_toArray, List.set_cons_zero, List.set_cons_succ]
        refine sched_skip (by rfl) ?_
        try simp only [Act.put, List.setIfInBounds_toArray, List.set_cons_zero, List.set_cons_succ]
        refine sched_skip (by rfl) ?_
        try simp only [Act.put, List.setIfInBounds_toArray, List.set_cons_zero, List.set_cons_succ]
        refine sched_skip' (by rfl) ?_
        try simp only [Act.put, List.setIfInBounds_toArray, List.set_cons_zero, List.set_cons_succ]
        refine sched_skip (by rfl) ?_
        try simp only [Act.put, List.setIfInBounds_toArray, List.set_cons_zero, List.set_cons_succ]
        refine sched_skip' (by rfl) ?_
        try simp only [Act.put, List.setIfInBounds_toArray, List.set_cons_zero, List.set_cons_succ]
        refine sched_skip (by rfl) ?_
        try simp only [Act.put, List.setIfInBounds_toArray, List.set_cons_zero, List.set_cons_succ]
        refine sched_run (v := ?_) (by rfl) ?_ ?_
        rotate_left
        · (intro w' hS'; go_simp; try with_reducible rfl)
        try simp only [Act.put, List.setIfInBounds_toArray, List.set_cons_zero, List.set_cons_succ]
        refine sched_run (v := ?_) (by rfl) ?_ ?_
        rotate_left
        · (intro w' hS'; go_simp; try with_reducible rfl)
        try simp only [Act.put, List.setIfInBounds_toArray, List.set_cons_zero, List.set_cons_succ]
        refine sched_run (v := ?_) (by rfl) ?_ ?_
        rotate_left
        · (intro w' hS'; go_simp; try with_reducible rfl)
        try simp only [Act.put, List.setIfInBounds_toArray, List.set_cons_zero, List.set_cons_succ]
        refine sched_run (v := ?_) (by rfl) ?_ ?_
        rotate_left
        · (intro w' hS'; go_simp; try with_reducible rfl)
        try simp only [Act.put, List.setIfInBounds_toArray, List.set_cons_zero, List.set_cons_succ]
        refine sched_run (v := ?_) (by rfl) ?_ ?_
        rotate_left
        · (intro w' hS'; obtain ⟨⟨a0, a1, a2, a3, a4, a5, a6, a7, az⟩, ⟨b0, b1, b2, b3, b4, b5, b6, b7, bz⟩⟩ := HLD.out w' hS'; go_simp; try with_reducible rfl)
        try simp only [Act.put, List.setIfInBounds_toArray, List.set_cons_zero, List.set_cons_succ]
        refine sched_run (v := ?_) (by rfl) ?_ ?_
        rotate_left
        · (intro w' hS'; go_simp; try with_reducible rfl)
        try simp only [Act.put, List.setIfInBounds_toArray, List.set_cons_zero, List.set_cons_succ]
        refine sched_call (by rfl) (fun K hK => ?_)
        go_simp
        refine (specParseOp_c T _ hT).mono ?_
        rintro e v2 ⟨rfl, hbv1⟩
        have hv2 : Below W.heap.size W v2 := hv1.trans (hbv1.mono hv1.size)
        rw [HC2.out]
        rw [HZ2.out]
        clear hbv1
        refine hK _ _ hv2 ?_
        try simp only [Act.put, List.setIfInBounds_toArray, List.set_cons_zero, List.set_cons_succ]
        refine sched_run (v := ?_) (by rfl) ?_ ?_
        rotate_left
        · (intro w' hS'; go_simp; try with_reducible rfl)
        try simp only [Act.put, List.setIfInBounds_toArray, List.set_cons_zero, List.set_cons_succ]
        refine sched_run (v := ?_) (by rfl) ?_ ?_
        rotate_left
        · (intro w' hS'; go_simp; try with_reducible rfl)
        try simp only [Act.put, List.setIfInBounds_toArray, List.set_cons_zero, List.set_cons_succ]
        refine sched_run (v := ?_) (by rfl) ?_ ?_
        rotate_left
        · (intro w' hS'; go_simp; try with_reducible rfl)
        try simp only [Act.put, List.setIfInBounds_toArray, List.set_cons_zero, List.set_cons_succ]
        refine sched_run (v := ?_) (by rfl) ?_ ?_
        rotate_left
        · (intro w' hS'; go_simp; try with_reducible rfl)
        try simp only [Act.put, List.setIfInBounds_toArray, List.set_cons_zero, List.set_cons_succ]
        refine sched_run (v := ?_) (by rfl) ?_ ?_
        rotate_left
        · (intro w' hS'; go_simp; try with_reducible rfl)
        try simp only [Act.put, List.setIfInBounds_toArray, List.set_cons_zero, List.set_cons_succ]
        refine sched_run (v := ?_) (by rfl) ?_ ?_
        rotate_left
        · (intro w' hS'; obtain ⟨⟨a0, a1, a2, a3, a4, a5, a6, a7, az⟩, ⟨b0, b1, b2, b3, b4, b5, b6, b7, bz⟩⟩ := HLD.out w' hS'; go_simp; try with_reducible rfl)
        try simp only [Act.put, List.setIfInBounds_toArray, List.set_cons_zero, List.set_cons_succ]
        refine sched_run (v := ?_) (by rfl) ?_ ?_
        rotate_left
        · (intro w' hS'; go_simp; try with_reducible rfl)
        try simp only [Act.put, List.setIfInBounds_toArray, List.set_cons_zero, List.set_cons_succ]
        refine sched_run (v := ?_) (by rfl) ?_ ?_
        rotate_left
        · (intro w' hS'; go_simp; try with_reducible rfl)
        try simp only [Act.put, List.setIfInBounds_toArray, List.set_cons_zero, List.set_cons_succ]
        refine sched_run (v := ?_) (by rfl) ?_ ?_
        rotate_left
        · (intro w' hS'; go_simp; try with_reducible rfl)
        try simp only [Act.put, List.setIfInBounds_toArray, List.set_cons_zero, List.set_cons_succ]
        refine sched_run (v := ?_) (by rfl) ?_ ?_
        rotate_left
        · (intro w' hS'; obtain ⟨⟨a0, a1, a2, a3, a4, a5, a6, a7, az⟩, ⟨b0, b1, b2, b3, b4, b5, b6, b7, bz⟩⟩ := HLD.out w' hS'; go_simp; try with_reducible rfl)
        try simp only [Act.put, List.setIfInBounds_toArray, List.set_cons_zero, List.set_cons_succ]
        refine sched_run (v := ?_) (by rfl) ?_ ?_
        rotate_left
        · (intro w' hS'; go_simp; try with_reducible rfl)
        try simp only [Act.put, List.setIfInBounds_toArray, List.set_cons_zero, List.set_cons_succ]
        refine sched_call (by rfl) (fun K hK => ?_)
        go_simp
        refine (implOpText_a O2 _ (wf_of_opF HK2.out.1) (HLW.out.below hv2).ld).mono ?_
        rintro e v3 ⟨rfl, hbv2⟩
        have hv3 : Below W.heap.size W v3 := hv2.trans (hbv2.mono hv2.size)
        rw [HK2.out.2]
        clear hbv2
        refine hK _ _ hv3 ?_
        try simp only [Act.put, List.setIfInBounds_toArray, List.set_cons_zero, List.set_cons_succ]
        refine sched_run (v := ?_) (by rfl) ?_ ?_
        rotate_left
        · (intro w' hS'; go_simp; try with_reducible rfl)
        try simp only [Act.put, List.setIfInBounds_toArray, List.set_cons_zero, List.set_cons_succ]
        refine sched_run (v := .bool false) (by rfl) ?_ ?_
        · (intro w' hS'; obtain ⟨⟨a0, a1, a2, a3, a4, a5, a6, a7, az⟩, ⟨b0, b1, b2, b3, b4, b5, b6, b7, bz⟩⟩ := HLD.out w' hS'; (go_simp) <;> (first | with_reducible rfl | exact HTX.out | simp [HTX.out]))
        try simp only [Act.put, List.setIfInBounds_toArray, List.set_cons_zero, List.set_cons_succ]
        refine sched_run (v := ?_) (by rfl) ?_ ?_
        rotate_left
        · (intro w' hS'; go_simp; try with_reducible rfl)
        try simp only [Act.put, List.setIfInBounds_toArray, List.set_cons_zero, List.set_cons_succ]
        refine sched_run (v := ?_) (by rfl) ?_ ?_
        rotate_left
        · (intro w' hS'; go_simp; try with_reducible rfl)
        try simp only [Act.put, List.setIfInBounds_toArray, List.set_cons_zero, List.set_cons_succ]
        refine sched_done ?_
        have HVB := Lib.hid hv3
        have hbV := HBW.out.trans (HVB.out.mono HBW.out.size)
        have HCV := Lib.hid (HCR.out.below' hbV); have HLV := Lib.hid (HLW.out.below HVB.out); have NV := Lib.hid hbV
        clear hbV HVB HLD G4 G6 HRX HBW HLW HCR PBX HC1 HO1 HC2 HO2
        clear hv0
        clear hv1
        clear hv2
        clear hv3
        generalize v3 = V at *
        go_wp2_with fail
        refine (drawPackOp_c a cap zs _ fp HCV.out HBY.out hs).mono ?_
        rintro e w5 ⟨o, rfl, hmo, hb5⟩
        have PMO := Lib.hid hmo; have B5 := Lib.hid hb5
        clear hmo hb5
        go_wp2_with fail
        refine (implPackOp_a o _ PMO.out.wf).mono ?_
        rintro e w6 ⟨_, rfl, ⟨vp, fq6, rfl, hrp, _, _⟩, hb6⟩
        obtain ⟨Ap, cp, rfl⟩ := hrp.form
        generalize hco : opF o = CO
        have PCO := Lib.hid hco; have B6 := Lib.hid hb6; have HRP := Lib.hid hrp
        clear hrp hb6
        have kY : Below w6.heap.size w6 (w6.alloc (.cells #[.int .i64 CO, .slice Ap (pkO o).length cp] 34)) := below_new _
        have k5' : Below _ (w5.alloc (obox o)) (w6.alloc (.cells #[.int .i64 CO, .slice Ap (pkO o).length cp] 34)) := B6.out.trans (kY.mono B6.out.size)
        have k5 : Below w5.heap.size w5 (w6.alloc (.cells #[.int .i64 CO, .slice Ap (pkO o).length cp] 34)) := (below_new _).trans (k5'.mono (by simp))
        have kV : Below V.heap.size V (w6.alloc (.cells #[.int .i64 CO, .slice Ap (pkO o).length cp] 34)) := B5.out.trans (k5.mono B5.out.size)
        have hg7 : (w6.alloc (.cells #[.int .i64 CO, .slice Ap (pkO o).length cp] 34)).heap[w5.heap.size]? = some (obox o) := newest k5' (by simp)
        have hg8 : (w6.alloc (.cells #[.int .i64 CO, .slice Ap (pkO o).length cp] 34)).heap[w6.heap.size]? = some (.cells #[.int .i64 CO, .slice Ap (pkO o).length cp] 34 (0, 0)) := heap_new w6 _ rfl
        have hrp := HRP.out.below' kY
        have hbY := NV.out.trans (kV.mono NV.out.size)
        have HLY := Lib.hid (HLV.out.below kV); have G7 := Lib.hid hg7; have G8 := Lib.hid hg8; have NY := Lib.hid hbY
        replace HRP := Lib.hid hrp
        clear kY k5' k5 kV hg7 hg8 hrp hbY B5 B6 HLV HCV NV
        by_cases h0 : CO = 0
        · subst h0
          have hbk := op_back hco
          have PBK := Lib.hid hbk
          clear hbk hco
          go_upto_region 13 with (fail)
          generalize w5.heap.size = g7 at *
          generalize w6.heap.size = g8 at *
          generalize w6.alloc (.cells #[.int .i64 0, .slice Ap (pkO o).length cp] 34) = Y at *
          have hld : ∀ w', Below Y.heap.size Y w' → (w'.cell? ⟨g7, 0, none⟩ = some (.int .i64 o.k) ∧ w'.cell? ⟨g7, 1, none⟩ = some (.int .i64 o.rq) ∧ w'.cell? ⟨g7, 2, none⟩ = some (.int .i64 o.lc) ∧ w'.cell? ⟨g7, 3, none⟩ = some (.int .i64 o.tt) ∧ w'.cell? ⟨g7, 4, none⟩ = some (.int .i64 o.sk) ∧ w'.cell? ⟨g7, 5, none⟩ = some (.int .i64 o.qt) ∧ w'.cell? ⟨g7, 6, none⟩ = some (.int .i64 o.hd) ∧ g7 < w'.heap.size) ∧ (w'.cell? ⟨g8, 0, none⟩ = some (.int .i64 0) ∧ w'.cell? ⟨g8, 1, none⟩ = some (.slice Ap (pkO o).length cp) ∧ g8 < w'.heap.size) := fun w' h => ⟨ob_kept h G7.out, by_kept h G8.out⟩
          have HLD := Lib.hid hld; clear hld
          refine wp_region_sched (fun w' => Below Y.heap.size Y w') [(0, true), (1, true), (4, true), (2, false), (3, true), (5, true), (6, true), (7, true), (8, true), (9, false), (10, true), (11, true), (12, true), (13, true), (14, true), (19, true), (15, false), (16, true), (17, false), (18, true), (20, true), (21, true), (22, true)] (by kernel_rfl) (by kernel_rfl) (by kernel_rfl) (by kernel_rfl) (fun _ _ d _ _ h => by cases d <;> exact h) ⟨rfl, rfl, rfl, Nat.le_refl _, fun _ _ => rfl⟩ ?_
          simp only [opsOf, List.filterMap_cons, List.filterMap_nil, Option.map_some, List.getElem?_toArray, List.getElem?_cons_zero, List.getElem?_cons_succ]
          generalize hW0 : ({ heap := Y.heap, tape := Y.tape, drawn := Y.drawn + 1, os := Y.os, output := Y.output } : World) = u0
          have hu0 : Below Y.heap.size Y u0 := by rw [← hW0]; exact ⟨rfl, rfl, rfl, Nat.le_refl _, fun _ _ => rfl⟩
          clear hW0
          refine sched_run (v := ?_) (by rfl) ?_ ?_
          rotate_left
          · (intro w' hS'; go_simp; try with_reducible rfl)
          try simp only [Act.put, List.setIfInBounds_toArray, List.set_cons_zero, List.set_cons_succ]
          refine sched_run (v := ?_) (by rfl) ?_ ?_
          rotate_left
          · (intro w' hS'; obtain ⟨⟨d0, d1, d2, d3, d4, d5, d6, dz⟩, ⟨e0, e1, ez⟩⟩ := HLD.out w' hS'; go_simp; try with_reducible rfl)
          try simp only [Act.put, List.setIfInBounds_toArray, List.set_cons_zero, List.set_cons_succ]
          refine sched_run (v := ?_) (by rfl) ?_ ?_
          rotate_left
          · (intro w' hS'; obtain ⟨⟨d0, d1, d2, d3, d4, d5, d6, dz⟩, ⟨e0, e1, ez⟩⟩ := HLD.out w' hS'; go_simp; try with_reducible rfl)
          try simp only [Act.put, List.setIfInBounds_toArray, List.set_cons_zero, List.set_cons_succ]
          refine sched_call (by rfl) (fun K hK => ?_)
          go_simp
          refine (implReadOp_a Ap cp (pkO o) _ fq6 (by have := pkO_len o; omega) PBK.out.2.2.1 (HRP.out.below' hu0)).mono ?_
          rintro e u1 ⟨rfl, hbu0⟩
          have hu1 : Below Y.heap.size Y u1 := hu0.trans (hbu0.mono hu0.size)
          rw [PBK.out.1, PBK.out.2.1]
          clear hbu0
          refine hK _ _ hu1 ?_
          try simp only [Act.put, List.setIfInBounds_toArray, List.set_cons_zero, List.set_cons_succ]
          refine sched_run (v := ?_) (by rfl) ?_ ?_
          rotate_left
          · (intro w' hS'; go_simp; try with_reducible rfl)
          try simp only [Act.put, List.setIfInBounds_toArray, List.set_cons_zero, List.set_cons_succ]
          refine sched_run (v := ?_) (by rfl) ?_ ?_
          rotate_left
          · (intro w' hS'; go_simp; try with_reducible rfl)
          try simp only [Act.put, List.setIfInBounds_toArray, List.set_cons_zero, List.set_cons_succ]
          refine sched_run (v := ?_) (by rfl) ?_ ?_
          rotate_left
          · (intro w' hS'; go_simp; try with_reducible rfl)
          try simp only [Act.put, List.setIfInBounds_toArray, List.set_cons_zero, List.set_cons_succ]
          refine sched_run (v := ?_) (by rfl) ?_ ?_
          rotate_left
          · (intro w' hS'; go_simp; try with_reducible rfl)
          try simp only [Act.put, List.setIfInBounds_toArray, List.set_cons_zero, List.set_cons_succ]
          refine sched_run (v := ?_) (by rfl) ?_ ?_
          rotate_left
          · (intro w' hS'; obtain ⟨⟨d0, d1, d2, d3, d4, d5, d6, dz⟩, ⟨e0, e1, ez⟩⟩ := HLD.out w' hS'; go_simp; try with_reducible rfl)
          try simp only [Act.put, List.setIfInBounds_toArray, List.set_cons_zero, List.set_cons_succ]
          refine sched_call (by rfl) (fun K hK => ?_)
          go_simp
          refine (implReadOp_a Ap cp (pkO o) _ fq6 (by have := pkO_len o; omega) PBK.out.2.2.1 (HRP.out.below' hu1)).mono ?_
          rintro e u2 ⟨rfl, hbu1⟩
          have hu2 : Below Y.heap.size Y u2 := hu1.trans (hbu1.mono hu1.size)
          rw [PBK.out.1, PBK.out.2.1]
          clear hbu1
          refine hK _ _ hu2 ?_
          try simp only [Act.put, List.setIfInBounds_toArray, List.set_cons_zero, List.set_cons_succ]
          refine sched_run (v := ?_) (by rfl) ?_ ?_
          rotate_left
          · (intro w' hS'; go_simp; try with_reducible rfl)
          try simp only [Act.put, List.setIfInBounds_toArray, List.set_cons_zero, List.set_cons_succ]
          refine sched_run (v := ?_) (by rfl) ?_ ?_
          rotate_left
          · (intro w' hS'; go_simp; try with_reducible rfl)
          try simp only [Act.put, List.setIfInBounds_toArray, List.set_cons_zero, List.set_cons_succ]
          refine sched_run (v := ?_) (by rfl) ?_ ?_
          rotate_left
          · (intro w' hS'; go_simp; try with_reducible rfl)
          try simp only [Act.put, List.setIfInBounds_toArray, List.set_cons_zero, List.set_cons_succ]
          refine sched_run (v := ?_) (by rfl) ?_ ?_
          rotate_left
          · (intro w' hS'; go_simp; try with_reducible rfl)
          try simp only [Act.put, List.setIfInBounds_toArray, List.set_cons_zero, List.set_cons_succ]
          refine sched_run (v := ?_) (by rfl) ?_ ?_
          rotate_left
          · (intro w' hS'; obtain ⟨⟨d0, d1, d2, d3, d4, d5, d6, dz⟩, ⟨e0, e1, ez⟩⟩ := HLD.out w' hS'; go_simp; try with_reducible rfl)
          try simp only [Act.put, List.setIfInBounds_toArray, List.set_cons_zero, List.set_cons_succ]
          refine sched_run (v := ?_) (by rfl) ?_ ?_
          rotate_left
          · (intro w' hS'; obtain ⟨⟨d0, d1, d2, d3, d4, d5, d6, dz⟩, ⟨e0, e1, ez⟩⟩ := HLD.out w' hS'; go_simp; try with_reducible rfl)
          try simp only [Act.put, List.setIfInBounds_toArray, List.set_cons_zero, List.set_cons_succ]
          refine sched_call (by rfl) (fun K hK => ?_)
          go_simp
          refine (implOpText_a o _ PMO.out.wf (HLY.out.below hu2).ld).mono ?_
          rintro e u3 ⟨rfl, hbu2⟩
          have hu3 : Below Y.heap.size Y u3 := hu2.trans (hbu2.mono hu2.size)
          rw [PCO.out]
          clear hbu2
          refine hK _ _ hu3 ?_
          try simp only [Act.put, List.setIfInBounds_toArray, List.set_cons_zero, List.set_cons_succ]
          refine sched_run (v := ?_) (by rfl) ?_ ?_
          rotate_left
          · (intro w' hS'; go_simp; try with_reducible rfl)
          try simp only [Act.put, List.setIfInBounds_toArray, List.set_cons_zero, List.set_cons_succ]
          refine sched_call (by rfl) (fun K hK => ?_)
          go_simp
          refine (implParseOp_a ⟨(otL o).toArray⟩ _ (by have := PBK.out.2.2.2.2; simp [ByteArray.size]; omega) (HLY.out.below hu3)).mono ?_
          rintro e u4 ⟨rfl, hbu3⟩
          have hu4 : Below Y.heap.size Y u4 := hu3.trans (hbu3.mono hu3.size)
          rw [show (⟨(otL o).toArray⟩ : ByteArray).data.toList = otL o from rfl, PBK.out.2.2.2.1]
          clear hbu3
          refine hK _ _ hu4 ?_
          try simp only [Act.put, List.setIfInBounds_toArray, List.set_cons_zero, List.set_cons_succ]
          refine sched_run (v := ?_) (by rfl) ?_ ?_
          rotate_left
          · (intro w' hS'; go_simp; try with_reducible rfl)
          try simp only [Act.put, List.setIfInBounds_toArray, List.set_cons_zero, List.set_cons_succ]
          refine sched_run (v := ?_) (by rfl) ?_ ?_
          rotate_left
          · (intro w' hS'; go_simp; try with_reducible rfl)
          try simp only [Act.put, List.setIfInBounds_toArray, List.set_cons_zero, List.set_cons_succ]
          refine sched_run (v := ?_) (by rfl) ?_ ?_
          rotate_left
          · (intro w' hS'; go_simp; try with_reducible rfl)
          try simp only [Act.put, List.setIfInBounds_toArray, List.set_cons_zero, List.set_cons_succ]
          refine sched_run (v := ?_) (by rfl) ?_ ?_
          rotate_left
          · (intro w' hS'; go_simp; try with_reducible rfl)
          try simp only [Act.put, List.setIfInBounds_toArray, List.set_cons_zero, List.set_cons_succ]
          refine sched_done ?_
          go_wp2_with fail
          go_ret
          exact ⟨rfl, NY.out.trans (hu4.mono NY.out.size)⟩
        · have hne : (CO != 0) = true := by simpa using h0
          clear hco
          go_upto_region 12 with (fail)
          generalize w5.heap.size = g7 at *
          generalize w6.heap.size = g8 at *
          generalize w6.alloc (.cells #[.int .i64 CO, .slice Ap (pkO o).length cp] 34) = Y at *
          have hld : ∀ w', Below Y.heap.size Y w' → (w'.cell? ⟨g7, 0, none⟩ = some (.int .i64 o.k) ∧ w'.cell? ⟨g7, 1, none⟩ = some (.int .i64 o.rq) ∧ w'.cell? ⟨g7, 2, none⟩ = some (.int .i64 o.lc) ∧ w'.cell? ⟨g7, 3, none⟩ = some (.int .i64 o.tt) ∧ w'.cell? ⟨g7, 4, none⟩ = some (.int .i64 o.sk) ∧ w'.cell? ⟨g7, 5, none⟩ = some (.int .i64 o.qt) ∧ w'.cell? ⟨g7, 6, none⟩ = some (.int .i64 o.hd) ∧ g7 < w'.heap.size) ∧ (w'.cell? ⟨g8, 0, none⟩ = some (.int .i64 CO) ∧ w'.cell? ⟨g8, 1, none⟩ = some (.slice Ap (pkO o).length cp) ∧ g8 < w'.heap.size) := fun w' h => ⟨ob_kept h G7.out, by_kept h G8.out⟩
          have HLD := Lib.hid hld; clear hld
          refine wp_region_sched (fun w' => Below Y.heap.size Y w') [(0, true), (3, true), (4, true), (1, false), (2, true), (5, true), (6, true), (7, true), (9, true), (10, true), (8, false), (11, true), (12, true), (13, true)] (by kernel_rfl) (by kernel_rfl) (by kernel_rfl) (by kernel_rfl) (fun _ _ d _ _ h => by cases d <;> exact h) ⟨rfl, rfl, rfl, Nat.le_refl _, fun _ _ => rfl⟩ ?_
          simp only [opsOf, List.filterMap_cons, List.filterMap_nil, Option.map_some, List.getElem?_toArray, List.getElem?_cons_zero, List.getElem?_cons_succ]
          generalize hW0 : ({ heap := Y.heap, tape := Y.tape, drawn := Y.drawn + 1, os := Y.os, output := Y.output } : World) = u0
          have hu0 : Below Y.heap.size Y u0 := by rw [← hW0]; exact ⟨rfl, rfl, rfl, Nat.le_refl _, fun _ _ => rfl⟩
          clear hW0
          refine sched_run (v := ?_) (by rfl) ?_ ?_
          rotate_left
          · (intro w' hS'; obtain ⟨⟨d0, d1, d2, d3, d4, d5, d6, dz⟩, ⟨e0, e1, ez⟩⟩ := HLD.out w' hS'; go_simp; try with_reducible rfl)
          try simp only [Act.put, List.setIfInBounds_toArray, List.set_cons_zero, List.set_cons_succ]
          refine sched_run (v := ?_) (by rfl) ?_ ?_
          rotate_left
          · (intro w' hS'; go_simp; try with_reducible rfl)
          try simp only [Act.put, List.setIfInBounds_toArray, List.set_cons_zero, List.set_cons_succ]
          refine sched_run (v := ?_) (by rfl) ?_ ?_
          rotate_left
          · (intro w' hS'; obtain ⟨⟨d0, d1, d2, d3, d4, d5, d6, dz⟩, ⟨e0, e1, ez⟩⟩ := HLD.out w' hS'; go_simp; try with_reducible rfl)
          try simp only [Act.put, List.setIfInBounds_toArray, List.set_cons_zero, List.set_cons_succ]
          refine sched_call (by rfl) (fun K hK => ?_)
          go_simp
          refine (specPackOp_a o _ PMO.out.wf).mono ?_
          rintro e u1 ⟨_, rfl, ⟨vq2, fq2, rfl, hrq2, _, _⟩, hbu0⟩
          have hu1 : Below Y.heap.size Y u1 := hu0.trans (hbu0.mono hu0.size)
          obtain ⟨Aq2, cq2, rfl⟩ := hrq2.form
          clear hrq2
          rw [PCO.out]
          clear hbu0
          refine hK _ _ hu1 ?_
          try simp only [Act.put, List.setIfInBounds_toArray, List.set_cons_zero, List.set_cons_succ]
          refine sched_run (v := ?_) (by rfl) ?_ ?_
          rotate_left
          · (intro w' hS'; go_simp; try with_reducible rfl)
          try simp only [Act.put, List.setIfInBounds_toArray, List.set_cons_zero, List.set_cons_succ]
          refine sched_run (v := ?_) (by rfl) ?_ ?_
          rotate_left
          · (intro w' hS'; go_simp; try with_reducible rfl)
          try simp only [Act.put, List.setIfInBounds_toArray, List.set_cons_zero, List.set_cons_succ]
          refine sched_run (v := ?_) (by rfl) ?_ ?_
          rotate_left
          · (intro w' hS'; go_simp; try with_reducible rfl)
          try simp only [Act.put, List.setIfInBounds_toArray, List.set_cons_zero, List.set_cons_succ]
          refine sched_run (v := ?_) (by rfl) ?_ ?_
          rotate_left
          · (intro w' hS'; obtain ⟨⟨d0, d1, d2, d3, d4, d5, d6, dz⟩, ⟨e0, e1, ez⟩⟩ := HLD.out w' hS'; go_simp; try with_reducible rfl)
          try simp only [Act.put, List.setIfInBounds_toArray, List.set_cons_zero, List.set_cons_succ]
          refine sched_run (v := ?_) (by rfl) ?_ ?_
          rotate_left
          · (intro w' hS'; go_simp; try with_reducible rfl)
          try simp only [Act.put, List.setIfInBounds_toArray, List.set_cons_zero, List.set_cons_succ]
          refine sched_run (v := ?_) (by rfl) ?_ ?_
          rotate_left
          · (intro w' hS'; obtain ⟨⟨d0, d1, d2, d3, d4, d5, d6, dz⟩, ⟨e0, e1, ez⟩⟩ := HLD.out w' hS'; go_simp; try with_reducible rfl)
          try simp only [Act.put, List.setIfInBounds_toArray, List.set_cons_zero, List.set_cons_succ]
          refine sched_call (by rfl) (fun K hK => ?_)
          go_simp
          refine (implOpFault_a o _ PMO.out.wf).mono ?_
          rintro e u2 ⟨rfl, hbu1⟩
          have hu2 : Below Y.heap.size Y u2 := hu1.trans (hbu1.mono hu1.size)
          rw [PCO.out]
          clear hbu1
          refine hK _ _ hu2 ?_
          try simp only [Act.put, List.setIfInBounds_toArray, List.set_cons_zero, List.set_cons_succ]
          refine sched_run (v := ?_) (by rfl) ?_ ?_
          rotate_left
          · (intro w' hS'; go_simp; try with_reducible rfl)
          try simp only [Act.put, List.setIfInBounds_toArray, List.set_cons_zero, List.set_cons_succ]
          refine sched_run (v := ?_) (by rfl) ?_ ?_
          rotate_left
          · (intro w' hS'; go_simp; try with_reducible rfl)
          try simp only [Act.put, List.setIfInBounds_toArray, List.set_cons_zero, List.set_cons_succ]
          refine sched_run (v := ?_) (by rfl) ?_ ?_
          rotate_left
          · (intro w' hS'; go_simp; try with_reducible rfl)
          try simp only [Act.put, List.setIfInBounds_toArray, List.set_cons_zero, List.set_cons_succ]
          refine sched_done ?_
          go_wp2_with fail
          go_ret
          exact ⟨rfl, NY.out.trans (hu2.mono NY.out.size)⟩
      · skip
        have hy1 : (C1 == 0) = false := by simpa using hz1
        have hy2 : (C2 == 0) = false := by simpa using hz2
        have hld : ∀ w', Below W.heap.size W w' → (w'.cell? ⟨g4, 0, none⟩ = some (.int .i64 C1) ∧ w'.cell? ⟨g4, 1, none⟩ = some (.int .i64 O1.k) ∧ w'.cell? ⟨g4, 2, none⟩ = some (.int .i64 O1.rq) ∧ w'.cell? ⟨g4, 3, none⟩ = some (.int .i64 O1.lc) ∧ w'.cell? ⟨g4, 4, none⟩ = some (.int .i64 O1.tt) ∧ w'.cell? ⟨g4, 5, none⟩ = some (.int .i64 O1.sk) ∧ w'.cell? ⟨g4, 6, none⟩ = some (.int .i64 O1.qt) ∧ w'.cell? ⟨g4, 7, none⟩ = some (.int .i64 O1.hd) ∧ g4 < w'.heap.size) ∧ (w'.cell? ⟨g6, 0, none⟩ = some (.int .i64 C2) ∧ w'.cell? ⟨g6, 1, none⟩ = some (.int .i64 O2.k) ∧ w'.cell? ⟨g6, 2, none⟩ = some (.int .i64 O2.rq) ∧ w'.cell? ⟨g6, 3, none⟩ = some (.int .i64 O2.lc) ∧ w'.cell? ⟨g6, 4, none⟩ = some (.int .i64 O2.tt) ∧ w'.cell? ⟨g6, 5, none⟩ = some (.int .i64 O2.sk) ∧ w'.cell? ⟨g6, 6, none⟩ = some (.int .i64 O2.qt) ∧ w'.cell? ⟨g6, 7, none⟩ = some (.int .i64 O2.hd) ∧ g6 < w'.heap.size) := fun w' h => ⟨or_kept h G4.out, or_kept h G6.out⟩
        have HLD := Lib.hid hld; clear hld
        refine wp_region_sched (fun w' => Below W.heap.size W w') [(0, true), (1, true), (2, true), (3, false), (4, true), (5, true), (6, true), (7, true), (8, true), (9, true), (10, true), (11, true), (12, true), (15, true), (13, false), (14, true), (16, false), (17, true), (18, true), (19, true), (20, true), (21, true), (22, true), (23, true), (24, false), (25, true), (26, true), (27, true), (28, true), (29, true), (30, true), (31, true), (32, true), (33, true), (34, true), (37, true), (35, false), (36, true), (38, true), (39, true), (40, true)] (by kernel_rfl) (by kernel_rfl) (by kernel_rfl) (by kernel_rfl) (fun _ _ d _ _ h => by cases d <;> exact h) ⟨rfl, rfl, rfl, Nat.le_refl _, fun _ _ => rfl⟩ ?_
        simp only [opsOf, List.filterMap_cons, List.filterMap_nil, Option.map_some, List.getElem?_toArray, List.getElem?_cons_zero, List.getElem?_cons_succ]
        generalize hW0 : ({ heap := W.heap, tape := W.tape, drawn := W.drawn + 1, os := W.os, output := W.output } : World) = v0
        have hv0 : Below W.heap.size W v0 := by rw [← hW0]; exact ⟨rfl, rfl, rfl, Nat.le_refl _, fun _ _ => rfl⟩
        clear hW0
        refine sched_run (v := ?_) (by rfl) ?_ ?_
        rotate_left
        · (intro w' hS'; go_simp; try with_reducible rfl)
        try simp only [Act.put, List.setIfInBounds_toArray, List.set_cons_zero, List.set_cons_succ]
        refine sched_run (v := ?_) (by rfl) ?_ ?_
        rotate_left
        · (intro w' hS'; obtain ⟨⟨a0, a1, a2, a3, a4, a5, a6, a7, az⟩, ⟨b0, b1, b2, b3, b4, b5, b6, b7, bz⟩⟩ := HLD.out w' hS'; go_simp; try with_reducible rfl)
        try simp only [Act.put, List.setIfInBounds_toArray, List.set_cons_zero, List.set_cons_succ]
        refine sched_run (v := ?_) (by rfl) ?_ ?_
        rotate_left
        · (intro w' hS'; go_simp; try with_reducible rfl)
        try simp only [Act.put, List.setIfInBounds_toArray, List.set_cons_zero, List.set_cons_succ]
        refine sched_call (by rfl) (fun K hK => ?_)
        go_simp
        refine (specReadOp_a A1 c1 xs _ f1 (by omega) PBX.out (HRX.out.below' hv0)).mono ?_
        rintro e v1 ⟨rfl, hbv0⟩
        have hv1 : Below W.heap.size W v1 := hv0.trans (hbv0.mono hv0.size)
        rw [HC1.out]
        clear hbv0
        refine hK _ _ hv1 ?_
        try simp only [Act.put, List.setIfInBounds_toArray, List.set_cons_zero, List.set_cons_succ]
        refine sched_run (v := ?_) (by rfl) ?_ ?_
        rotate_left
        · (intro w' hS'; go_simp; try with_reducible rfl)
        try simp only [Act.put, List.setIfInBounds_toArray, List.set_cons_zero, List.set_cons_succ]
        refine sched_run (v := ?_) (by rfl) ?_ ?_
        rotate_left
        · (intro w' hS'; go_simp; try with_reducible rfl)
        try simp only [Act.put, List.setIfInBounds_toArray, List.set_cons_zero, List.set_cons_succ]
        refine sched_run (v := ?_) (by rfl) ?_ ?_
        rotate_left
        · (intro w' hS'; go_simp; try with_reducible rfl)
        try simp only [Act.put, List.setIfInBounds_toArray, List.set_cons_zero, List.set_cons_succ]
        refine sched_run (v := ?_) (by rfl) ?_ ?_
        rotate_left
        · (intro w' hS'; go_simp; try with_reducible rfl)
        try simp only [Act.put, List.setIfInBounds_toArray, List.set_cons_zero, List.set_cons_succ]
        refine sched_run (v := ?_) (by rfl) ?_ ?_
        rotate_left
        · (intro w' hS'; obtain ⟨⟨a0, a1, a2, a3, a4, a5, a6, a7, az⟩, ⟨b0, b1, b2, b3, b4, b5, b6, b7, bz⟩⟩ := HLD.out w' hS'; go_simp; try with_reducible rfl)
        try simp only [Act.put, List.setIfInBounds_toArray, List.set_cons_zero, List.set_cons_succ]
        refine sched_run (v := ?_) (by rfl) ?_ ?_
        rotate_left
        · (intro w' hS'; go_simp; try with_reducible rfl)
        try simp only [Act.put, List.setIfInBounds_toArray, List.set_cons_zero, List.set_cons_succ]
        refine sched_run (v := ?_) (by rfl) ?_ ?_
        rotate_left
        · (intro w' hS'; go_simp; try with_reducible rfl)
        try simp only [Act.put, List.setIfInBounds_toArray, List.set_cons_zero, List.set_cons_succ]
        refine sched_skip (by rfl) ?_
        try simp only [Act.put, List.setIfInBounds_toArray, List.set_cons_zero, List.set_cons_succ]
        refine sched_skip (by rfl) ?_
        try simp only [Act.put, List.setIfInBounds_toArray, List.set_cons_zero, List.set_cons_succ]
        refine sched_skip (by rfl) ?_
        try simp only [Act.put, List.setIfInBounds_toArray, List.set_cons_zero, List.set_cons_succ]
        refine sched_skip' (by rfl) ?_
        try simp only [Act.put, List.setIfInBounds_toArray, List.set_cons_zero, List.set_cons_succ]
        refine sched_skip (by rfl) ?_
        try simp only [Act.put, List.setIfInBounds_toArray, List.set_cons_zero, List.set_cons_succ]
        refine sched_skip' (by rfl) ?_
        try simp only [Act.put, List.setIfInBounds_toArray, List.set_cons_zero, List.set_cons_succ]
        refine sched_skip (by rfl) ?_
        try simp only [Act.put, List.setIfInBounds_toArray, List.set_cons_zero, List.set_cons_succ]
        refine sched_run (v := ?_) (by rfl) ?_ ?_
        rotate_left
        · (intro w' hS'; go_simp; try with_reducible rfl)
        try simp only [Act.put, List.setIfInBounds_toArray, List.set_cons_zero, List.set_cons_succ]
        refine sched_run (v := ?_) (by rfl) ?_ ?_
        rotate_left
        · (intro w' hS'; go_simp; try with_reducible rfl)
        try simp only [Act.put, List.setIfInBounds_toArray, List.set_cons_zero, List.set_cons_succ]
        refine sched_run (v := ?_) (by rfl) ?_ ?_
        rotate_left
        · (intro w' hS'; go_simp; try with_reducible rfl)
        try simp only [Act.put, List.setIfInBounds_toArray, List.set_cons_zero, List.set_cons_succ]
        refine sched_run (v := ?_) (by rfl) ?_ ?_
        rotate_left
        · (intro w' hS'; go_simp; try with_reducible rfl)
        try simp only [Act.put, List.setIfInBounds_toArray, List.set_cons_zero, List.set_cons_succ]
        refine sched_run (v := ?_) (by rfl) ?_ ?_
        rotate_left
        · (intro w' hS'; obtain ⟨⟨a0, a1, a2, a3, a4, a5, a6, a7, az⟩, ⟨b0, b1, b2, b3, b4, b5, b6, b7, bz⟩⟩ := HLD.out w' hS'; go_simp; try with_reducible rfl)
        try simp only [Act.put, List.setIfInBounds_toArray, List.set_cons_zero, List.set_cons_succ]
        refine sched_run (v := ?_) (by rfl) ?_ ?_
        rotate_left
        · (intro w' hS'; go_simp; try with_reducible rfl)
        try simp only [Act.put, List.setIfInBounds_toArray, List.set_cons_zero, List.set_cons_succ]
        refine sched_call (by rfl) (fun K hK => ?_)
        go_simp
        refine (specParseOp_c T _ hT).mono ?_
        rintro e v2 ⟨rfl, hbv1⟩
        have hv2 : Below W.heap.size W v2 := hv1.trans (hbv1.mono hv1.size)
        rw [HC2.out]
        clear hbv1
        refine hK _ _ hv2 ?_
        try simp only [Act.put, List.setIfInBounds_toArray, List.set_cons_zero, List.set_cons_succ]
        refine sched_run (v := ?_) (by rfl) ?_ ?_
        rotate_left
        · (intro w' hS'; go_simp; try with_reducible rfl)
        try simp only [Act.put, List.setIfInBounds_toArray, List.set_cons_zero, List.set_cons_succ]
        refine sched_run (v := ?_) (by rfl) ?_ ?_
        rotate_left
        · (intro w' hS'; go_simp; try with_reducible rfl)
        try simp only [Act.put, List.setIfInBounds_toArray, List.set_cons_zero, List.set_cons_succ]
        refine sched_run (v := ?_) (by rfl) ?_ ?_
        rotate_left
        · (intro w' hS'; go_simp; try with_reducible rfl)
        try simp only [Act.put, List.setIfInBounds_toArray, List.set_cons_zero, List.set_cons_succ]
        refine sched_run (v := ?_) (by rfl) ?_ ?_
        rotate_left
        · (intro w' hS'; go_simp; try with_reducible rfl)
        try simp only [Act.put, List.setIfInBounds_toArray, List.set_cons_zero, List.set_cons_succ]
        refine sched_run (v := ?_) (by rfl) ?_ ?_
        rotate_left
        · (intro w' hS'; go_simp; try with_reducible rfl)
        try simp only [Act.put, List.setIfInBounds_toArray, List.set_cons_zero, List.set_cons_succ]
        refine sched_run (v := ?_) (by rfl) ?_ ?_
        rotate_left
        · (intro w' hS'; obtain ⟨⟨a0, a1, a2, a3, a4, a5, a6, a7, az⟩, ⟨b0, b1, b2, b3, b4, b5, b6, b7, bz⟩⟩ := HLD.out w' hS'; go_simp; try with_reducible rfl)
        try simp only [Act.put, List.setIfInBounds_toArray, List.set_cons_zero, List.set_cons_succ]
        refine sched_run (v := ?_) (by rfl) ?_ ?_
        rotate_left
        · (intro w' hS'; go_simp; try with_reducible rfl)
        try simp only [Act.put, List.setIfInBounds_toArray, List.set_cons_zero, List.set_cons_succ]
        refine sched_run (v := ?_) (by rfl) ?_ ?_
        rotate_left
        · (intro w' hS'; go_simp; try with_reducible rfl)
        try simp only [Act.put, List.setIfInBounds_toArray, List.set_cons_zero, List.set_cons_succ]
        refine sched_skip (by rfl) ?_
        try simp only [Act.put, List.setIfInBounds_toArray, List.set_cons_zero, List.set_cons_succ]
        refine sched_skip (by rfl) ?_
        try simp only [Act.put, List.setIfInBounds_toArray, List.set_cons_zero, List.set_cons_succ]
        refine sched_skip (by rfl) ?_
        try simp only [Act.put, List.setIfInBounds_toArray, List.set_cons_zero, List.set_cons_succ]
        refine sched_skip' (by rfl) ?_
        try simp only [Act.put, List.setIfInBounds_toArray, List.set_cons_zero, List.set_cons_succ]
        refine sched_skip (by rfl) ?_
        try simp only [Act.put, List.setIfInBounds_toArray, List.set_cons_zero, List.set_cons_succ]
        refine sched_skip (by rfl) ?_
        try simp only [Act.put, List.setIfInBounds_toArray, List.set_cons_zero, List.set_cons_succ]
        refine sched_run (v := ?_) (by rfl) ?_ ?_
        rotate_left
        · (intro w' hS'; go_simp; try with_reducible rfl)
        try simp only [Act.put, List.setIfInBounds_toArray, List.set_cons_zero, List.set_cons_succ]
        refine sched_run (v := ?_) (by rfl) ?_ ?_
        rotate_left
        · (intro w' hS'; go_simp; try with_reducible rfl)
        try simp only [Act.put, List.setIfInBounds_toArray, List.set_cons_zero, List.set_cons_succ]
        refine sched_done ?_
        have HVB := Lib.hid hv2
        have hbV := HBW.out.trans (HVB.out.mono HBW.out.size)
        have HCV := Lib.hid (HCR.out.below' hbV); have HLV := Lib.hid (HLW.out.below HVB.out); have NV := Lib.hid hbV
        clear hbV HVB HLD G4 G6 HRX HBW HLW HCR PBX HC1 HO1 HC2 HO2
        clear hv0
        clear hv1
        clear hv2
        generalize v2 = V at *
        go_wp2_with fail
        refine (drawPackOp_c a cap zs _ fp HCV.out HBY.out hs).mono ?_
        rintro e w5 ⟨o, rfl, hmo, hb5⟩
        have PMO := Lib.hid hmo; have B5 := Lib.hid hb5
        clear hmo hb5
        go_wp2_with fail
        refine (implPackOp_a o _ PMO.out.wf).mono ?_
        rintro e w6 ⟨_, rfl, ⟨vp, fq6, rfl, hrp, _, _⟩, hb6⟩
        obtain ⟨Ap, cp, rfl⟩ := hrp.form
        generalize hco : opF o = CO
        have PCO := Lib.hid hco; have B6 := Lib.hid hb6; have HRP := Lib.hid hrp
        clear hrp hb6
        have kY : Below w6.heap.size w6 (w6.alloc (.cells #[.int .i64 CO, .slice Ap (pkO o).length cp] 34)) := below_new _
        have k5' : Below _ (w5.alloc (obox o)) (w6.alloc (.cells #[.int .i64 CO, .slice Ap (pkO o).length cp] 34)) := B6.out.trans (kY.mono B6.out.size)
        have k5 : Below w5.heap.size w5 (w6.alloc (.cells #[.int .i64 CO, .slice Ap (pkO o).length cp] 34)) := (below_new _).trans (k5'.mono (by simp))
        have kV : Below V.heap.size V (w6.alloc (.cells #[.int .i64 CO, .slice Ap (pkO o).length cp] 34)) := B5.out.trans (k5.mono B5.out.size)
        have hg7 : (w6.alloc (.cells #[.int .i64 CO, .slice Ap (pkO o).length cp] 34)).heap[w5.heap.size]? = some (obox o) := newest k5' (by simp)
        have hg8 : (w6.alloc (.cells #[.int .i64 CO, .slice Ap (pkO o).length cp] 34)).heap[w6.heap.size]? = some (.cells #[.int .i64 CO, .slice Ap (pkO o).length cp] 34 (0, 0)) := heap_new w6 _ rfl
        have hrp := HRP.out.below' kY
        have hbY := NV.out.trans (kV.mono NV.out.size)
        have HLY := Lib.hid (HLV.out.below kV); have G7 := Lib.hid hg7; have G8 := Lib.hid hg8; have NY := Lib.hid hbY
        replace HRP := Lib.hid hrp
        clear kY k5' k5 kV hg7 hg8 hrp hbY B5 B6 HLV HCV NV
        by_cases h0 : CO = 0
        · subst h0
          have hbk := op_back hco
          have PBK := Lib.hid hbk
          clear hbk hco
          go_upto_region 13 with (fail)
          generalize w5.heap.size = g7 at *
          generalize w6.heap.size = g8 at *
          generalize w6.alloc (.cells #[.int .i64 0, .slice Ap (pkO o).length cp] 34) = Y at *
          have hld : ∀ w', Below Y.heap.size Y w' → (w'.cell? ⟨g7, 0, none⟩ = some (.int .i64 o.k) ∧ w'.cell? ⟨g7, 1, none⟩ = some (.int .i64 o.rq) ∧ w'.cell? ⟨g7, 2, none⟩ = some (.int .i64 o.lc) ∧ w'.cell? ⟨g7, 3, none⟩ = some (.int .i64 o.tt) ∧ w'.cell? ⟨g7, 4, none⟩ = some (.int .i64 o.sk) ∧ w'.cell? ⟨g7, 5, none⟩ = some (.int .i64 o.qt) ∧ w'.cell? ⟨g7, 6, none⟩ = some (.int .i64 o.hd) ∧ g7 < w'.heap.size) ∧ (w'.cell? ⟨g8, 0, none⟩ = some (.int .i64 0) ∧ w'.cell? ⟨g8, 1, none⟩ = some (.slice Ap (pkO o).length cp) ∧ g8 < w'.heap.size) := fun w' h => ⟨ob_kept h G7.out, by_kept h G8.out⟩
          have HLD := Lib.hid hld; clear hld
          refine wp_region_sched (fun w' => Below Y.heap.size Y w') [(0, true), (1, true), (4, true), (2, false), (3, true), (5, true), (6, true), (7, true), (8, true), (9, false), (10, true), (11, true), (12, true), (13, true), (14, true), (19, true), (15, false), (16, true), (17, false), (18, true), (20, true), (21, true), (22, true)] (by kernel_rfl) (by kernel_rfl) (by kernel_rfl) (by kernel_rfl) (fun _ _ d _ _ h => by cases d <;> exact h) ⟨rfl, rfl, rfl, Nat.le_refl _, fun _ _ => rfl⟩ ?_
          simp only [opsOf, List.filterMap_cons, List.filterMap_nil, Option.map_some, List.getElem?_toArray, List.getElem?_cons_zero, List.getElem?_cons_succ]
          generalize hW0 : ({ heap := Y.heap, tape := Y.tape, drawn := Y.drawn + 1, os := Y.os, output := Y.output } : World) = u0
          have hu0 : Below Y.heap.size Y u0 := by rw [← hW0]; exact ⟨rfl, rfl, rfl, Nat.le_refl _, fun _ _ => rfl⟩
          clear hW0
          refine sched_run (v := ?_) (by rfl) ?_ ?_
          rotate_left
          · (intro w' hS'; go_simp; try with_reducible rfl)
          try simp only [Act.put, List.setIfInBounds_toArray, List.set_cons_zero, List.set_cons_succ]
          refine sched_run (v := ?_) (by rfl) ?_ ?_
          rotate_left
          · (intro w' hS'; obtain ⟨⟨d0, d1, d2, d3, d4, d5, d6, dz⟩, ⟨e0, e1, ez⟩⟩ := HLD.out w' hS'; go_simp; try with_reducible rfl)
          try simp only [Act.put, List.setIfInBounds_toArray, List.set_cons_zero, List.set_cons_succ]
          refine sched_run (v := ?_) (by rfl) ?_ ?_
          rotate_left
          · (intro w' hS'; obtain ⟨⟨d0, d1, d2, d3, d4, d5, d6, dz⟩, ⟨e0, e1, ez⟩⟩ := HLD.out w' hS'; go_simp; try with_reducible rfl)
          try simp only [Act.put, List.setIfInBounds_toArray, List.set_cons_zero, List.set_cons_succ]
          refine sched_call (by rfl) (fun K hK => ?_)
          go_simp
          refine (implReadOp_a Ap cp (pkO o) _ fq6 (by have := pkO_len o; omega) PBK.out.2.2.1 (HRP.out.below' hu0)).mono ?_
          rintro e u1 ⟨rfl, hbu0⟩
          have hu1 : Below Y.heap.size Y u1 := hu0.trans (hbu0.mono hu0.size)
          rw [PBK.out.1, PBK.out.2.1]
          clear hbu0
          refine hK _ _ hu1 ?_
          try simp only [Act.put, List.setIfInBounds_toArray, List.set_cons_zero, List.set_cons_succ]
          refine sched_run (v := ?_) (by rfl) ?_ ?_
          rotate_left
          · (intro w' hS'; go_simp; try with_reducible rfl)
          try simp only [Act.put, List.setIfInBounds_toArray, List.set_cons_zero, List.set_cons_succ]
          refine sched_run (v := ?_) (by rfl) ?_ ?_
          rotate_left
          · (intro w' hS'; go_simp; try with_reducible rfl)
          try simp only [Act.put, List.setIfInBounds_toArray, List.set_cons_zero, List.set_cons_succ]
          refine sched_run (v := ?_) (by rfl) ?_ ?_
          rotate_left
          · (intro w' hS'; go_simp; try with_reducible rfl)
          try simp only [Act.put, List.setIfInBounds_toArray, List.set_cons_zero, List.set_cons_succ]
          refine sched_run (v := ?_) (by rfl) ?_ ?_
          rotate_left
          · (intro w' hS'; go_simp; try with_reducible rfl)
          try simp only [Act.put, List.setIfInBounds_toArray, List.set_cons_zero, List.set_cons_succ]
          refine sched_run (v := ?_) (by rfl) ?_ ?_
          rotate_left
          · (intro w' hS'; obtain ⟨⟨d0, d1, d2, d3, d4, d5, d6, dz⟩, ⟨e0, e1, ez⟩⟩ := HLD.out w' hS'; go_simp; try with_reducible rfl)
          try simp only [Act.put, List.setIfInBounds_toArray, List.set_cons_zero, List.set_cons_succ]
          refine sched_call (by rfl) (fun K hK => ?_)
          go_simp
          refine (implReadOp_a Ap cp (pkO o) _ fq6 (by have := pkO_len o; omega) PBK.out.2.2.1 (HRP.out.below' hu1)).mono ?_
          rintro e u2 ⟨rfl, hbu1⟩
          have hu2 : Below Y.heap.size Y u2 := hu1.trans (hbu1.mono hu1.size)
          rw [PBK.out.1, PBK.out.2.1]
          clear hbu1
          refine hK _ _ hu2 ?_
          try simp only [Act.put, List.setIfInBounds_toArray, List.set_cons_zero, List.set_cons_succ]
          refine sched_run (v := ?_) (by rfl) ?_ ?_
          rotate_left
          · (intro w' hS'; go_simp; try with_reducible rfl)
          try simp only [Act.put, List.setIfInBounds_toArray, List.set_cons_zero, List.set_cons_succ]
          refine sched_run (v := ?_) (by rfl) ?_ ?_
          rotate_left
          · (intro w' hS'; go_simp; try with_reducible rfl)
          try simp only [Act.put, List.setIfInBounds_toArray, List.set_cons_zero, List.set_cons_succ]
          refine sched_run (v := ?_) (by rfl) ?_ ?_
          rotate_left
          · (intro w' hS'; go_simp; try with_reducible rfl)
          try simp only [Act.put, List.setIfInBounds_toArray, List.set_cons_zero, List.set_cons_succ]
          refine sched_run (v := ?_) (by rfl) ?_ ?_
          rotate_left
          · (intro w' hS'; go_simp; try with_reducible rfl)
          try simp only [Act.put, List.setIfInBounds_toArray, List.set_cons_zero, List.set_cons_succ]
          refine sched_run (v := ?_) (by rfl) ?_ ?_
          rotate_left
          · (intro w' hS'; obtain ⟨⟨d0, d1, d2, d3, d4, d5, d6, dz⟩, ⟨e0, e1, ez⟩⟩ := HLD.out w' hS'; go_simp; try with_reducible rfl)
          try simp only [Act.put, List.setIfInBounds_toArray, List.set_cons_zero, List.set_cons_succ]
          refine sched_run (v := ?_) (by rfl) ?_ ?_
          rotate_left
          · (intro w' hS'; obtain ⟨⟨d0, d1, d2, d3, d4, d5, d6, dz⟩, ⟨e0, e1, ez⟩⟩ := HLD.out w' hS'; go_simp; try with_reducible rfl)
          try simp only [Act.put, List.setIfInBounds_toArray, List.set_cons_zero, List.set_cons_succ]
          refine sched_call (by rfl) (fun K hK => ?_)
          go_simp
          refine (implOpText_a o _ PMO.out.wf (HLY.out.below hu2).ld).mono ?_
          rintro e u3 ⟨rfl, hbu2⟩
          have hu3 : Below Y.heap.size Y u3 := hu2.trans (hbu2.mono hu2.size)
          rw [PCO.out]
          clear hbu2
          refine hK _ _ hu3 ?_
          try simp only [Act.put, List.setIfInBounds_toArray, List.set_cons_zero, List.set_cons_succ]
          refine sched_run (v := ?_) (by rfl) ?_ ?_
          rotate_left
          · (intro w' hS'; go_simp; try with_reducible rfl)
          try simp only [Act.put, List.setIfInBounds_toArray, List.set_cons_zero, List.set_cons_succ]
          refine sched_call (by rfl) (fun K hK => ?_)
          go_simp
          refine (implParseOp_a ⟨(otL o).toArray⟩ _ (by have := PBK.out.2.2.2.2; simp [ByteArray.size]; omega) (HLY.out.below hu3)).mono ?_
          rintro e u4 ⟨rfl, hbu3⟩
          have hu4 : Below Y.heap.size Y u4 := hu3.trans (hbu3.mono hu3.size)
          rw [show (⟨(otL o).toArray⟩ : ByteArray).data.toList = otL o from rfl, PBK.out.2.2.2.1]
          clear hbu3
          refine hK _ _ hu4 ?_
          try simp only [Act.put, List.setIfInBounds_toArray, List.set_cons_zero, List.set_cons_succ]
          refine sched_run (v := ?_) (by rfl) ?_ ?_
          rotate_left
          · (intro w' hS'; go_simp; try with_reducible rfl)
          try simp only [Act.put, List.setIfInBounds_toArray, List.set_cons_zero, List.set_cons_succ]
          refine sched_run (v := ?_) (by rfl) ?_ ?_
          rotate_left
          · (intro w' hS'; go_simp; try with_reducible rfl)
          try simp only [Act.put, List.setIfInBounds_toArray, List.set_cons_zero, List.set_cons_succ]
          refine sched_run (v := ?_) (by rfl) ?_ ?_
          rotate_left
          · (intro w' hS'; go_simp; try with_reducible rfl)
          try simp only [Act.put, List.setIfInBounds_toArray, List.set_cons_zero, List.set_cons_succ]
          refine sched_run (v := ?_) (by rfl) ?_ ?_
          rotate_left
          · (intro w' hS'; go_simp; try with_reducible rfl)
          try simp only [Act.put, List.setIfInBounds_toArray, List.set_cons_zero, List.set_cons_succ]
          refine sched_done ?_
          go_wp2_with fail
          go_ret
          exact ⟨rfl, NY.out.trans (hu4.mono NY.out.size)⟩
        · have hne : (CO != 0) = true := by simpa using h0
          clear hco
          go_upto_region 12 with (fail)
          generalize w5.heap.size = g7 at *
          generalize w6.heap.size = g8 at *
          generalize w6.alloc (.cells #[.int .i64 CO, .slice Ap (pkO o).length cp] 34) = Y at *
          have hld : ∀ w', Below Y.heap.size Y w' → (w'.cell? ⟨g7, 0, none⟩ = some (.int .i64 o.k) ∧ w'.cell? ⟨g7, 1, none⟩ = some (.int .i64 o.rq) ∧ w'.cell? ⟨g7, 2, none⟩ = some (.int .i64 o.lc) ∧ w'.cell? ⟨g7, 3, none⟩ = some (.int .i64 o.tt) ∧ w'.cell? ⟨g7, 4, none⟩ = some (.int .i64 o.sk) ∧ w'.cell? ⟨g7, 5, none⟩ = some (.int .i64 o.qt) ∧ w'.cell? ⟨g7, 6, none⟩ = some (.int .i64 o.hd) ∧ g7 < w'.heap.size) ∧ (w'.cell? ⟨g8, 0, none⟩ = some (.int .i64 CO) ∧ w'.cell? ⟨g8, 1, none⟩ = some (.slice Ap (pkO o).length cp) ∧ g8 < w'.heap.size) := fun w' h => ⟨ob_kept h G7.out, by_kept h G8.out⟩
          have HLD := Lib.hid hld; clear hld
          refine wp_region_sched (fun w' => Below Y.heap.size Y w') [(0, true), (3, true), (4, true), (1, false), (2, true), (5, true), (6, true), (7, true), (9, true), (10, true), (8, false), (11, true), (12, true), (13, true)] (by kernel_rfl) (by kernel_rfl) (by kernel_rfl) (by kernel_rfl) (fun _ _ d _ _ h => by cases d <;> exact h) ⟨rfl, rfl, rfl, Nat.le_refl _, fun _ _ => rfl⟩ ?_
          simp only [opsOf, List.filterMap_cons, List.filterMap_nil, Option.map_some, List.getElem?_toArray, List.getElem?_cons_zero, List.getElem?_cons_succ]
          generalize hW0 : ({ heap := Y.heap, tape := Y.tape, drawn := Y.drawn + 1, os := Y.os, output := Y.output } : World) = u0
          have hu0 : Below Y.heap.size Y u0 := by rw [← hW0]; exact ⟨rfl, rfl, rfl, Nat.le_refl _, fun _ _ => rfl⟩
          clear hW0
          refine sched_run (v := ?_) (by rfl) ?_ ?_
          rotate_left
          · (intro w' hS'; obtain ⟨⟨d0, d1, d2, d3, d4, d5, d6, dz⟩, ⟨e0, e1, ez⟩⟩ := HLD.out w' hS'; go_simp; try with_reducible rfl)
          try simp only [Act.put, List.setIfInBounds_toArray, List.set_cons_zero, List.set_cons_succ]
          refine sched_run (v := ?_) (by rfl) ?_ ?_
          rotate_left
          · (intro w' hS'; go_simp; try with_reducible rfl)
          try simp only [Act.put, List.setIfInBounds_toArray, List.set_cons_zero, List.set_cons_succ]
          refine sched_run (v := ?_) (by rfl) ?_ ?_
          rotate_left
          · (intro w' hS'; obtain ⟨⟨d0, d1, d2, d3, d4, d5, d6, dz⟩, ⟨e0, e1, ez⟩⟩ := HLD.out w' hS'; go_simp; try with_reducible rfl)
          try simp only [Act.put, List.setIfInBounds_toArray, List.set_cons_zero, List.set_cons_succ]
          refine sched_call (by rfl) (fun K hK => ?_)
          go_simp
          refine (specPackOp_a o _ PMO.out.wf).mono ?_
          rintro e u1 ⟨_, rfl, ⟨vq2, fq2, rfl, hrq2, _, _⟩, hbu0⟩
          have hu1 : Below Y.heap.size Y u1 := hu0.trans (hbu0.mono hu0.size)
          obtain ⟨Aq2, cq2, rfl⟩ := hrq2.form
          clear hrq2
          rw [PCO.out]
          clear hbu0
          refine hK _ _ hu1 ?_
          try simp only [Act.put, List.setIfInBounds_toArray, List.set_cons_zero, List.set_cons_succ]
          refine sched_run (v := ?_) (by rfl) ?_ ?_
          rotate_left
          · (intro w' hS'; go_simp; try with_reducible rfl)
          try simp only [Act.put, List.setIfInBounds_toArray, List.set_cons_zero, List.set_cons_succ]
          refine sched_run (v := ?_) (by rfl) ?_ ?_
          rotate_left
          · (intro w' hS'; go_simp; try with_reducible rfl)
          try simp only [Act.put, List.setIfInBounds_toArray, List.set_cons_zero, List.set_cons_succ]
          refine sched_run (v := ?_) (by rfl) ?_ ?_
          rotate_left
          · (intro w' hS'; go_simp; try with_reducible rfl)
          try simp only [Act.put, List.setIfInBounds_toArray, List.set_cons_zero, List.set_cons_succ]
          refine sched_run (v := ?_) (by rfl) ?_ ?_
          rotate_left
          · (intro w' hS'; obtain ⟨⟨d0, d1, d2, d3, d4, d5, d6, dz⟩, ⟨e0, e1, ez⟩⟩ := HLD.out w' hS'; go_simp; try with_reducible rfl)
          try simp only [Act.put, List.setIfInBounds_toArray, List.set_cons_zero, List.set_cons_succ]
          refine sched_run (v := ?_) (by rfl) ?_ ?_
          rotate_left
          · (intro w' hS'; go_simp; try with_reducible rfl)
          try simp only [Act.put, List.setIfInBounds_toArray, List.set_cons_zero, List.set_cons_succ]
          refine sched_run (v := ?_) (by rfl) ?_ ?_
          rotate_left
          · (intro w' hS'; obtain ⟨⟨d0, d1, d2, d3, d4, d5, d6, dz⟩, ⟨e0, e1, ez⟩⟩ := HLD.out w' hS'; go_simp; try with_reducible rfl)
          try simp only [Act.put, List.setIfInBounds_toArray, List.set_cons_zero, List.set_cons_succ]
          refine sched_call (by rfl) (fun K hK => ?_)
          go_simp
          refine (implOpFault_a o _ PMO.out.wf).mono ?_
          rintro e u2 ⟨rfl, hbu1⟩
          have hu2 : Below Y.heap.size Y u2 := hu1.trans (hbu1.mono hu1.size)
          rw [PCO.out]
          clear hbu1
          refine hK _ _ hu2 ?_
          try simp only [Act.put, List.setIfInBounds_toArray, List.set_cons_zero, List.set_cons_succ]
          refine sched_run (v := ?_) (by rfl) ?_ ?_
          rotate_left
          · (intro w' hS'; go_simp; try with_reducible rfl)
          try simp only [Act.put, List.setIfInBounds_toArray, List.set_cons_zero, List.set_cons_succ]
          refine sched_run (v := ?_) (by rfl) ?_ ?_
          rotate_left
          · (intro w' hS'; go_simp; try with_reducible rfl)
          try simp only [Act.put, List.setIfInBounds_toArray, List.set_cons_zero, List.set_cons_succ]
          refine sched_run (v := ?_) (by rfl) ?_ ?_
          rotate_left
          · (intro w' hS'; go_simp; try with_reducible rfl)
          try simp only [Act.put, List.setIfInBounds_toArray, List.set_cons_zero, List.set_cons_succ]
          refine sched_done ?_
          go_wp2_with fail
          go_ret
          exact ⟨rfl, NY.out.trans (hu2.mono NY.out.size)⟩
end Go.Proofs.YtocllaendofndaaDoor
