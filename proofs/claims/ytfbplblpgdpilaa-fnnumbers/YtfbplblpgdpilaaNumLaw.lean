/- The law FnNumbers answers true for every slice of bytes: the walk. -/
import Derived.Test.YtfbplblpgdpilaaLw
import Derived.Test.YtfbplblpgdpilaaSched
namespace Go.Proofs.Ytfbplblpgdpilaa
open Go.RowKit

/-- A cell of two fields, behind calls that keep it. -/
theorem two_cells {w w1 : World} {g B : Nat} {u v : Value} {t : TypeId} (hb : Below B w w1) (hg : w.heap[g]? = some (.cells #[u, v] t (0, 0))) (hB : g < B) :
    w1.cell? ⟨g, 0, none⟩ = some u ∧ w1.cell? ⟨g, 1, none⟩ = some v := by
  have h := (hb.block g hB).trans hg
  exact ⟨cell_of_heap h, cell_of_heap h⟩

theorem fldInts0 (x y : Value) (w : World) : (Instr.field 27 (.agg #[x, y]) 0).run Try.prog w = .ok x w := by kernel_rfl
theorem fldInts1 (x y : Value) (w : World) : (Instr.field 27 (.agg #[x, y]) 1).run Try.prog w = .ok y w := by kernel_rfl
theorem fldBytes0 (x y : Value) (w : World) : (Instr.field 31 (.agg #[x, y]) 0).run Try.prog w = .ok x w := by kernel_rfl
theorem fldBytes1 (x y : Value) (w : World) : (Instr.field 31 (.agg #[x, y]) 1).run Try.prog w = .ok y w := by kernel_rfl
theorem fldInt0 (x y : Value) (w : World) : (Instr.field 40 (.agg #[x, y]) 0).run Try.prog w = .ok x w := by kernel_rfl
theorem fldInt1 (x y : Value) (w : World) : (Instr.field 40 (.agg #[x, y]) 1).run Try.prog w = .ok y w := by kernel_rfl

/-- What is known when all draws are made. -/
structure NumW (w W : World) (ds xs bs : List Int) (n p : Int) (Ad Au Ax Ap Aw Ab : Option Addr) (cd cu cx cp cw cb gu gp gw : Nat) : Prop where
  bel : Below w.heap.size w W
  dby : Byt ds
  bby : Byt bs
  pwf : (Lit.int .i64 p).wf = true
  dat : ∃ f, Rd W 1 (.slice Ad ds.length cd) (cellsOf .u8 ds) f
  uli : ∃ f, Rd W 1 (.slice Au (readL ds).length cu) (cellsOf .i64 (readL ds)) f
  lis : ∃ f, Rd W 1 (.slice Ax xs.length cx) (cellsOf .i64 xs) f
  pby : ∃ f, Rd W 1 (.slice Ap (packL xs).length cp) (cellsOf .u8 (packL xs)) f
  wby : ∃ f, Rd W 1 (.slice Aw (putL n).length cw) (cellsOf .u8 (putL n)) f
  byt : ∃ f, Rd W 1 (.slice Ab bs.length cb) (cellsOf .u8 bs) f
  hu : W.heap[gu]? = some (.cells #[.int .i64 (readC ds), .slice Au (readL ds).length cu] 27 (0, 0))
  hp : W.heap[gp]? = some (.cells #[.int .i64 (packC xs), .slice Ap (packL xs).length cp] 31 (0, 0))
  hw : W.heap[gw]? = some (.cells #[.int .i64 (putC n), .slice Aw (putL n).length cw] 31 (0, 0))


set_option maxRecDepth 100000 in
set_option maxHeartbeats 8000000 in
theorem lawNumbers_c (a : Option Addr) (len cap : Nat) (z : List Int) (w : World) (h0 : IsRow .u8 w a len cap z) :
    Calls Try.prog 3 #[.slice a len cap] w fun e w' => e = .returned (.bool true) ∧ Below w.heap.size w w' := by
  have hlen := h0.len
  have hby := h0.byt
  obtain ⟨fp, hr⟩ := h0.rd
  clear h0
  generalize z.take len = zs at *
  subst hlen
  clear z
  have hmax := hr.len_le
  by_cases hbig : 1048576 < zs.length
  · have hbd : decide (1048576 < zs.length) = true := by simp [hbig]
    have HBD := Lib.hid hbd; clear hbd
    go_enter Try.func3, Try.ntmps3
    go_wp2_with fail
    refine (lwBig_c _ _ _ _ hmax).mono ?_
    rintro e w1 ⟨rfl, rfl⟩
    rw [HBD.out]
    go_wp2
    go_ret
    exact ⟨rfl, Below.refl _ _⟩
  · have hs : zs.length ≤ 1048576 := by omega
    have hbd : decide (1048576 < zs.length) = false := by simp [hs]
    have HBD := Lib.hid hbd; clear hbd
    go_enter Try.func3, Try.ntmps3
    go_wp2_with fail
    refine (lwBig_c _ _ _ _ hmax).mono ?_
    rintro e w0 ⟨rfl, rfl⟩
    rw [HBD.out]
    go_wp2_with fail
    refine (drawRead_c a cap zs w fp hr hby hs).mono ?_
    rintro e w1 ⟨ds, Ad, cd, fd, rfl, hdb, hrd, hfd, hb1⟩
    go_wp2_with fail
    refine (implReadNumbers_c _ _ ds _ fd hdb hrd).mono ?_
    rintro e w2 ⟨ru, rfl, ⟨vu, fu, rfl, hru, hnu, hfu⟩, hb2⟩
    obtain ⟨Au, cu, rfl⟩ := hru.form
    have k2 : Below w.heap.size w w2 := hb1.trans (hb2.mono hb1.size)
    have gu := heap_new w2 (.cells #[.int .i64 (readC ds), .slice Au (readL ds).length cu] 27) rfl
    have k2' : Below w.heap.size w (w2.alloc (.cells #[.int .i64 (readC ds), .slice Au (readL ds).length cu] 27)) := k2.alloc k2.size _
    have Rd2 := (hrd.below' hb2).alloc (.cells #[.int .i64 (readC ds), .slice Au (readL ds).length cu] 27)
    have Ru2 := hru.alloc (.cells #[.int .i64 (readC ds), .slice Au (readL ds).length cu] 27)
    have GU := Lib.hid gu; clear gu
    go_wp2_with fail
    refine (drawPack_c a cap zs _ fp (hr.below k2' hr.lt) hby hs).mono ?_
    rintro e w3 ⟨xs, Ax, cx, fx, rfl, _, hrx, hfx, hb3⟩
    go_wp2_with fail
    refine (implPackNumbers_c _ _ xs _ fx hrx).mono ?_
    rintro e w4 ⟨rp, rfl, ⟨vp, fp4, rfl, hrp, hnp, hfp⟩, hb4⟩
    obtain ⟨Ap, cp, rfl⟩ := hrp.form
    have k4 : Below w.heap.size w w4 := k2'.trans ((hb3.mono k2'.size).trans (hb4.mono (Nat.le_trans k2'.size hb3.size)))
    have k4' : Below w.heap.size w (w4.alloc (.cells #[.int .i64 (packC xs), .slice Ap (packL xs).length cp] 31)) := k4.alloc k4.size _
    have gp := heap_new w4 (.cells #[.int .i64 (packC xs), .slice Ap (packL xs).length cp] 31) rfl
    have gu4 := heap_old (o' := .cells #[.int .i64 (packC xs), .slice Ap (packL xs).length cp] 31) ((But.of_below hb4 []).heap ((But.of_below hb3 []).heap GU.out (by simp)) (by simp))
    have Rd4 := ((Rd2.below' hb3).below' hb4).alloc (.cells #[.int .i64 (packC xs), .slice Ap (packL xs).length cp] 31)
    have Ru4 := ((Ru2.below' hb3).below' hb4).alloc (.cells #[.int .i64 (packC xs), .slice Ap (packL xs).length cp] 31)
    have Rx4 := (hrx.below' hb4).alloc (.cells #[.int .i64 (packC xs), .slice Ap (packL xs).length cp] 31)
    have Rp4 := hrp.alloc (.cells #[.int .i64 (packC xs), .slice Ap (packL xs).length cp] 31)
    have GP := Lib.hid gp; have GU4 := Lib.hid gu4
    clear gp gu4 Rd2 Ru2 GU
    go_wp2_with fail
    refine (drawPut_c a cap zs _ fp (hr.below k4' hr.lt) hby hs).mono ?_
    rintro e w5 ⟨n, rfl, hnw, hb5⟩
    go_wp2_with fail
    refine (implPutNumber_c n _).mono ?_
    rintro e w6 ⟨rw6, rfl, ⟨vw, fw, rfl, hrw, hnw6, hfw⟩, hb6⟩
    obtain ⟨Aw, cw, rfl⟩ := hrw.form
    have k6 : Below w.heap.size w w6 := k4'.trans ((hb5.mono k4'.size).trans (hb6.mono (Nat.le_trans k4'.size hb5.size)))
    have k6' : Below w.heap.size w (w6.alloc (.cells #[.int .i64 (putC n), .slice Aw (putL n).length cw] 31)) := k6.alloc k6.size _
    have gw := heap_new w6 (.cells #[.int .i64 (putC n), .slice Aw (putL n).length cw] 31) rfl
    have lift := fun {g : Nat} {o : Obj} (h : (w4.alloc (.cells #[.int .i64 (packC xs), .slice Ap (packL xs).length cp] 31)).heap[g]? = some o) => heap_old (o' := .cells #[.int .i64 (putC n), .slice Aw (putL n).length cw] 31) ((But.of_below hb6 []).heap ((But.of_below hb5 []).heap h (by simp)) (by simp))
    have gu6 := lift GU4.out
    have gp6 := lift GP.out
    clear lift
    have Rd6 := ((Rd4.below' hb5).below' hb6).alloc (.cells #[.int .i64 (putC n), .slice Aw (putL n).length cw] 31)
    have Ru6 := ((Ru4.below' hb5).below' hb6).alloc (.cells #[.int .i64 (putC n), .slice Aw (putL n).length cw] 31)
    have Rx6 := ((Rx4.below' hb5).below' hb6).alloc (.cells #[.int .i64 (putC n), .slice Aw (putL n).length cw] 31)
    have Rp6 := ((Rp4.below' hb5).below' hb6).alloc (.cells #[.int .i64 (putC n), .slice Aw (putL n).length cw] 31)
    have Rw6 := hrw.alloc (.cells #[.int .i64 (putC n), .slice Aw (putL n).length cw] 31)
    have GW := Lib.hid gw; have GU6 := Lib.hid gu6; have GP6 := Lib.hid gp6
    clear gw gu6 gp6 Rd4 Ru4 Rx4 Rp4 GP GU4
    go_wp2_with fail
    refine (drawGet_c a cap zs _ fp (hr.below k6' hr.lt) hby hs).mono ?_
    rintro e W ⟨bs, Ab, cb, p, fb, rfl, hbb, hpw, hrb, hfb, hb7⟩
    have lift := fun {g : Nat} {o : Obj} (h : (w6.alloc (.cells #[.int .i64 (putC n), .slice Aw (putL n).length cw] 31)).heap[g]? = some o) => (But.of_below hb7 []).heap h (by simp)
    have hN : NumW w W ds xs bs n p Ad Au Ax Ap Aw Ab cd cu cx cp cw cb w2.heap.size w4.heap.size w6.heap.size :=
      { bel := k6'.trans (hb7.mono k6'.size), dby := hdb, bby := hbb, pwf := hpw, dat := ⟨_, Rd6.below' hb7⟩, uli := ⟨_, Ru6.below' hb7⟩, lis := ⟨_, Rx6.below' hb7⟩, pby := ⟨_, Rp6.below' hb7⟩, wby := ⟨_, Rw6.below' hb7⟩, byt := ⟨_, hrb⟩, hu := lift GU6.out, hp := lift GP6.out, hw := lift GW.out }
    clear lift GW GU6 GP6 Rd6 Ru6 Rx6 Rp6 Rw6 hb1 hb2 hb3 hb4 hb5 hb6 hb7 hrd hru hnu hfu hrx hfx hrp hnp hfp hrw hnw6 hfw hrb hfb hfd hdb hbb hpw hnw k2 k2' k4 k4' k6 k6' hr
    obtain ⟨fd, rd⟩ := hN.dat
    obtain ⟨fu, ru⟩ := hN.uli
    obtain ⟨fx, rx⟩ := hN.lis
    obtain ⟨fp2, rp⟩ := hN.pby
    obtain ⟨fw, rw_⟩ := hN.wby
    obtain ⟨fb, rb⟩ := hN.byt
    have hW : Below W.heap.size W W := Below.refl _ _
    have q1 := fldInts0; have q2 := fldInts1; have q3 := fldBytes0; have q4 := fldBytes1; have q5 := fldInt0; have q6 := fldInt1
    go_wp2_with fail
    rcases Decidable.em (readC ds = 0) with hr0 | hr0 <;> rcases Decidable.em (packC xs = 0) with hp0 | hp0 <;> rcases Decidable.em (putC n = 0) with hq0 | hq0
    · -- readable, packed, short
      have R0 := Lib.hid hr0
      have tr : (readC ds == 0) = true := by simp [hr0]
      have P0 := Lib.hid hp0
      have tp : (packC xs == 0) = true := by simp [hp0]
      have Q0 := Lib.hid hq0
      have tq : (putC n == 0) = true := by simp [hq0]
      clear hr0 hp0 hq0
      have HRC := Lib.hid (pack_read hN.dby R0.out).1; have HRL := Lib.hid (pack_read hN.dby R0.out).2
      have HPC := Lib.hid (read_pack P0.out).1; have HPL := Lib.hid (read_pack P0.out).2
      refine wp_region_sched (fun w' => Below W.heap.size W w') [(0, true), (1, true), (2, true), (3, false), (4, true), (5, true), (6, true), (7, true), (8, true), (9, true), (10, true), (11, true), (12, true), (15, true), (13, false), (14, true), (16, false), (17, true), (18, true), (19, true), (20, true), (21, true), (22, true), (23, true), (24, false), (25, true), (26, true), (27, true), (28, true), (29, true), (30, true), (31, true), (32, true), (33, true), (34, true), (37, true), (35, false), (36, true), (38, false), (39, true), (40, true), (41, true), (42, true), (43, false), (44, true), (45, true), (46, true), (47, true), (48, true), (49, true), (50, true), (51, true), (52, true), (53, false), (54, true), (55, true), (56, true), (57, true), (58, true), (59, true), (60, true), (61, true), (62, true), (63, true), (66, true), (64, false), (65, true), (67, true), (68, true), (69, true)] (by kernel_rfl) (by kernel_rfl) (by kernel_rfl) (by kernel_rfl) (fun _ _ d _ _ h => by cases d <;> exact h) ⟨rfl, rfl, rfl, Nat.le_refl _, fun _ _ => rfl⟩ ?_
      simp only [opsOf, List.filterMap_cons, List.filterMap_nil, Option.map_some, List.append_eq, List.cons_append, List.nil_append, List.getElem?_toArray, List.getElem?_cons_zero, List.getElem?_cons_succ]
      have hld : ∀ w', Below W.heap.size W w' → w'.cell? ⟨w2.heap.size, 0, none⟩ = some (.int .i64 (readC ds)) ∧ w'.cell? ⟨w2.heap.size, 1, none⟩ = some (.slice Au (readL ds).length cu) ∧ w'.cell? ⟨w4.heap.size, 0, none⟩ = some (.int .i64 (packC xs)) ∧ w'.cell? ⟨w4.heap.size, 1, none⟩ = some (.slice Ap (packL xs).length cp) ∧ w'.cell? ⟨w6.heap.size, 0, none⟩ = some (.int .i64 (putC n)) ∧ w'.cell? ⟨w6.heap.size, 1, none⟩ = some (.slice Aw (putL n).length cw) := fun w' h =>
        ⟨(two_cells h hN.hu (heap_lt hN.hu)).1, (two_cells h hN.hu (heap_lt hN.hu)).2, (two_cells h hN.hp (heap_lt hN.hp)).1, (two_cells h hN.hp (heap_lt hN.hp)).2, (two_cells h hN.hw (heap_lt hN.hw)).1, (two_cells h hN.hw (heap_lt hN.hw)).2⟩
      have HLD := Lib.hid hld; clear hld
      generalize hW0 : ({ heap := W.heap, tape := W.tape, drawn := W.drawn + 1, os := W.os, output := W.output } : World) = v0
      have hv0 : Below W.heap.size W v0 := by rw [← hW0]; exact ⟨rfl, rfl, rfl, Nat.le_refl _, fun _ _ => rfl⟩
      clear hW0
      -- 0
      refine sched_run (v := ?_) (by rfl) ?_ ?_
      rotate_left
      · (intro w' hS'; go_simp; try with_reducible rfl)
      try simp only [Act.put, List.setIfInBounds_toArray, List.set_cons_zero, List.set_cons_succ]
      -- 1
      refine sched_run (v := ?_) (by rfl) ?_ ?_
      rotate_left
      · (intro w' hS'; obtain ⟨a0, a1, b0, b1, c0, c1⟩ := HLD.out w' hS'; go_simp; try with_reducible rfl)
      try simp only [Act.put, List.setIfInBounds_toArray, List.set_cons_zero, List.set_cons_succ]
      -- 2
      refine sched_run (v := ?_) (by rfl) ?_ ?_
      rotate_left
      · (intro w' hS'; go_simp; try with_reducible rfl)
      try simp only [Act.put, List.setIfInBounds_toArray, List.set_cons_zero, List.set_cons_succ]
      -- 3
      refine sched_call (by rfl) (fun K hK => ?_)
      go_simp
      refine (specReadNumbers_c _ _ ds _ fd hN.dby (rd.below hv0 rd.lt)).mono ?_
      rintro e v1 ⟨r3, rfl, ⟨x3, f3, rfl, hr3, hn3, hf3⟩, hb3⟩
      have hv1 : Below W.heap.size W v1 := hv0.trans (hb3.mono hv0.size)
      obtain ⟨A3, c3, rfl⟩ := hr3.form
      clear hn3 hf3
      refine hK _ _ hv1 ?_
      try simp only [Act.put, List.setIfInBounds_toArray, List.set_cons_zero, List.set_cons_succ]
      -- 4
      refine sched_run (v := ?_) (by rfl) ?_ ?_
      rotate_left
      · (intro w' hS'; go_simp; try with_reducible rfl)
      try simp only [Act.put, List.setIfInBounds_toArray, List.set_cons_zero, List.set_cons_succ]
      -- 5
      refine sched_run (v := ?_) (by rfl) ?_ ?_
      rotate_left
      · (intro w' hS'; go_simp; try with_reducible rfl)
      try simp only [Act.put, List.setIfInBounds_toArray, List.set_cons_zero, List.set_cons_succ]
      -- 6
      refine sched_run (v := ?_) (by rfl) ?_ ?_
      rotate_left
      · (intro w' hS'; go_simp; try with_reducible rfl)
      try simp only [Act.put, List.setIfInBounds_toArray, List.set_cons_zero, List.set_cons_succ]
      -- 7
      refine sched_run (v := ?_) (by rfl) ?_ ?_
      rotate_left
      · (intro w' hS'; go_simp; try with_reducible rfl)
      try simp only [Act.put, List.setIfInBounds_toArray, List.set_cons_zero, List.set_cons_succ]
      -- 8
      refine sched_run (v := ?_) (by rfl) ?_ ?_
      rotate_left
      · (intro w' hS'; obtain ⟨a0, a1, b0, b1, c0, c1⟩ := HLD.out w' hS'; go_simp; try with_reducible rfl)
      try simp only [Act.put, List.setIfInBounds_toArray, List.set_cons_zero, List.set_cons_succ]
      -- 9
      refine sched_run (v := ?_) (by rfl) ?_ ?_
      rotate_left
      · (intro w' hS'; go_simp; try with_reducible rfl)
      try simp only [Act.put, List.setIfInBounds_toArray, List.set_cons_zero, List.set_cons_succ]
      -- 10
      refine sched_run (v := ?_) (by rfl) ?_ ?_
      rotate_left
      · (intro w' hS'; go_simp; try with_reducible rfl)
      try simp only [Act.put, List.setIfInBounds_toArray, List.set_cons_zero, List.set_cons_succ]
      -- 11
      refine sched_run (v := ?_) (by rfl) ?_ ?_
      rotate_left
      · (intro w' hS'; go_simp; try with_reducible rfl)
      try simp only [Act.put, List.setIfInBounds_toArray, List.set_cons_zero, List.set_cons_succ]
      -- 12
      refine sched_run (v := ?_) (by rfl) ?_ ?_
      rotate_left
      · (intro w' hS'; obtain ⟨a0, a1, b0, b1, c0, c1⟩ := HLD.out w' hS'; go_simp; try with_reducible rfl)
      try simp only [Act.put, List.setIfInBounds_toArray, List.set_cons_zero, List.set_cons_succ]
      -- 15
      refine sched_run (v := ?_) (by rfl) ?_ ?_
      rotate_left
      · (intro w' hS'; go_simp; try with_reducible rfl)
      try simp only [Act.put, List.setIfInBounds_toArray, List.set_cons_zero, List.set_cons_succ]
      -- 13
      refine sched_call (by rfl) (fun K hK => ?_)
      go_simp
      refine (implPackNumbers_c _ _ (readL ds) _ fu (ru.below hv1 ru.lt)).mono ?_
      rintro e v2 ⟨r13, rfl, ⟨x13, f13, rfl, hr13, hn13, hf13⟩, hb13⟩
      have hv2 : Below W.heap.size W v2 := hv1.trans (hb13.mono hv1.size)
      rw [HRL.out] at hr13
      obtain ⟨A13, c13, rfl⟩ := hr13.form
      clear hn13 hf13
      refine hK _ _ hv2 ?_
      try simp only [Act.put, List.setIfInBounds_toArray, List.set_cons_zero, List.set_cons_succ]
      -- 14
      refine sched_run (v := ?_) (by rfl) ?_ ?_
      rotate_left
      · (intro w' hS'; go_simp; try with_reducible rfl)
      try simp only [Act.put, List.setIfInBounds_toArray, List.set_cons_zero, List.set_cons_succ]
      -- 16
      refine sched_call (by rfl) (fun K hK => ?_)
      go_simp
      refine (lwBytes_c _ _ _ _ ds _ f13 fd hr13 (rd.below hv2 rd.lt)).mono ?_
      rintro e v3 ⟨rfl, hb16⟩
      have hv3 : Below W.heap.size W v3 := hv2.trans (hb16.mono hv2.size)
      refine hK _ _ hv3 ?_
      try simp only [Act.put, List.setIfInBounds_toArray, List.set_cons_zero, List.set_cons_succ]
      -- 17
      refine sched_run (v := ?_) (by rfl) ?_ ?_
      rotate_left
      · (intro w' hS'; go_simp; try with_reducible rfl)
      try simp only [Act.put, List.setIfInBounds_toArray, List.set_cons_zero, List.set_cons_succ]
      -- 18
      refine sched_run (v := ?_) (by rfl) ?_ ?_
      rotate_left
      · (intro w' hS'; go_simp; try with_reducible rfl)
      try simp only [Act.put, List.setIfInBounds_toArray, List.set_cons_zero, List.set_cons_succ]
      -- 19
      refine sched_run (v := ?_) (by rfl) ?_ ?_
      rotate_left
      · (intro w' hS'; go_simp; try with_reducible rfl)
      try simp only [Act.put, List.setIfInBounds_toArray, List.set_cons_zero, List.set_cons_succ]
      -- 20
      refine sched_run (v := ?_) (by rfl) ?_ ?_
      rotate_left
      · (intro w' hS'; go_simp; try with_reducible rfl)
      try simp only [Act.put, List.setIfInBounds_toArray, List.set_cons_zero, List.set_cons_succ]
      -- 21
      refine sched_run (v := ?_) (by rfl) ?_ ?_
      rotate_left
      · (intro w' hS'; go_simp; try with_reducible rfl)
      try simp only [Act.put, List.setIfInBounds_toArray, List.set_cons_zero, List.set_cons_succ]
      -- 22
      refine sched_run (v := ?_) (by rfl) ?_ ?_
      rotate_left
      · (intro w' hS'; obtain ⟨a0, a1, b0, b1, c0, c1⟩ := HLD.out w' hS'; go_simp; try with_reducible rfl)
      try simp only [Act.put, List.setIfInBounds_toArray, List.set_cons_zero, List.set_cons_succ]
      -- 23
      refine sched_run (v := ?_) (by rfl) ?_ ?_
      rotate_left
      · (intro w' hS'; go_simp; try with_reducible rfl)
      try simp only [Act.put, List.setIfInBounds_toArray, List.set_cons_zero, List.set_cons_succ]
      -- 24
      refine sched_call (by rfl) (fun K hK => ?_)
      go_simp
      refine (specPackNumbers_c _ _ xs _ fx (rx.below hv3 rx.lt)).mono ?_
      rintro e v4 ⟨r24, rfl, ⟨x24, f24, rfl, hr24, hn24, hf24⟩, hb24⟩
      have hv4 : Below W.heap.size W v4 := hv3.trans (hb24.mono hv3.size)
      obtain ⟨A24, c24, rfl⟩ := hr24.form
      clear hn24 hf24
      refine hK _ _ hv4 ?_
      try simp only [Act.put, List.setIfInBounds_toArray, List.set_cons_zero, List.set_cons_succ]
      -- 25
      refine sched_run (v := ?_) (by rfl) ?_ ?_
      rotate_left
      · (intro w' hS'; go_simp; try with_reducible rfl)
      try simp only [Act.put, List.setIfInBounds_toArray, List.set_cons_zero, List.set_cons_succ]
      -- 26
      refine sched_run (v := ?_) (by rfl) ?_ ?_
      rotate_left
      · (intro w' hS'; go_simp; try with_reducible rfl)
      try simp only [Act.put, List.setIfInBounds_toArray, List.set_cons_zero, List.set_cons_succ]
      -- 27
      refine sched_run (v := ?_) (by rfl) ?_ ?_
      rotate_left
      · (intro w' hS'; go_simp; try with_reducible rfl)
      try simp only [Act.put, List.setIfInBounds_toArray, List.set_cons_zero, List.set_cons_succ]
      -- 28
      refine sched_run (v := ?_) (by rfl) ?_ ?_
      rotate_left
      · (intro w' hS'; go_simp; try with_reducible rfl)
      try simp only [Act.put, List.setIfInBounds_toArray, List.set_cons_zero, List.set_cons_succ]
      -- 29
      refine sched_run (v := ?_) (by rfl) ?_ ?_
      rotate_left
      · (intro w' hS'; go_simp; try with_reducible rfl)
      try simp only [Act.put, List.setIfInBounds_toArray, List.set_cons_zero, List.set_cons_succ]
      -- 30
      refine sched_run (v := ?_) (by rfl) ?_ ?_
      rotate_left
      · (intro w' hS'; obtain ⟨a0, a1, b0, b1, c0, c1⟩ := HLD.out w' hS'; go_simp; try with_reducible rfl)
      try simp only [Act.put, List.setIfInBounds_toArray, List.set_cons_zero, List.set_cons_succ]
      -- 31
      refine sched_run (v := ?_) (by rfl) ?_ ?_
      rotate_left
      · (intro w' hS'; go_simp; try with_reducible rfl)
      try simp only [Act.put, List.setIfInBounds_toArray, List.set_cons_zero, List.set_cons_succ]
      -- 32
      refine sched_run (v := ?_) (by rfl) ?_ ?_
      rotate_left
      · (intro w' hS'; go_simp; try with_reducible rfl)
      try simp only [Act.put, List.setIfInBounds_toArray, List.set_cons_zero, List.set_cons_succ]
      -- 33
      refine sched_run (v := ?_) (by rfl) ?_ ?_
      rotate_left
      · (intro w' hS'; go_simp; try with_reducible rfl)
      try simp only [Act.put, List.setIfInBounds_toArray, List.set_cons_zero, List.set_cons_succ]
      -- 34
      refine sched_run (v := ?_) (by rfl) ?_ ?_
      rotate_left
      · (intro w' hS'; obtain ⟨a0, a1, b0, b1, c0, c1⟩ := HLD.out w' hS'; go_simp; try with_reducible rfl)
      try simp only [Act.put, List.setIfInBounds_toArray, List.set_cons_zero, List.set_cons_succ]
      -- 37
      refine sched_run (v := ?_) (by rfl) ?_ ?_
      rotate_left
      · (intro w' hS'; go_simp; try with_reducible rfl)
      try simp only [Act.put, List.setIfInBounds_toArray, List.set_cons_zero, List.set_cons_succ]
      -- 35
      refine sched_call (by rfl) (fun K hK => ?_)
      go_simp
      refine (implReadNumbers_c _ _ (packL xs) _ fp2 (packL_byt P0.out) (rp.below hv4 rp.lt)).mono ?_
      rintro e v5 ⟨r35, rfl, ⟨x35, f35, rfl, hr35, hn35, hf35⟩, hb35⟩
      have hv5 : Below W.heap.size W v5 := hv4.trans (hb35.mono hv4.size)
      rw [HPL.out] at hr35
      obtain ⟨A35, c35, rfl⟩ := hr35.form
      clear hn35 hf35
      refine hK _ _ hv5 ?_
      try simp only [Act.put, List.setIfInBounds_toArray, List.set_cons_zero, List.set_cons_succ]
      -- 36
      refine sched_run (v := ?_) (by rfl) ?_ ?_
      rotate_left
      · (intro w' hS'; go_simp; try with_reducible rfl)
      try simp only [Act.put, List.setIfInBounds_toArray, List.set_cons_zero, List.set_cons_succ]
      -- 38
      refine sched_call (by rfl) (fun K hK => ?_)
      go_simp
      refine (lwNums_c _ _ _ _ xs _ f35 fx hr35 (rx.below hv5 rx.lt)).mono ?_
      rintro e v6 ⟨rfl, hb38⟩
      have hv6 : Below W.heap.size W v6 := hv5.trans (hb38.mono hv5.size)
      refine hK _ _ hv6 ?_
      try simp only [Act.put, List.setIfInBounds_toArray, List.set_cons_zero, List.set_cons_succ]
      -- 39
      refine sched_run (v := ?_) (by rfl) ?_ ?_
      rotate_left
      · (intro w' hS'; go_simp; try with_reducible rfl)
      try simp only [Act.put, List.setIfInBounds_toArray, List.set_cons_zero, List.set_cons_succ]
      -- 40
      refine sched_run (v := ?_) (by rfl) ?_ ?_
      rotate_left
      · (intro w' hS'; go_simp; try with_reducible rfl)
      try simp only [Act.put, List.setIfInBounds_toArray, List.set_cons_zero, List.set_cons_succ]
      -- 41
      refine sched_run (v := ?_) (by rfl) ?_ ?_
      rotate_left
      · (intro w' hS'; go_simp; try with_reducible rfl)
      try simp only [Act.put, List.setIfInBounds_toArray, List.set_cons_zero, List.set_cons_succ]
      -- 42
      refine sched_run (v := ?_) (by rfl) ?_ ?_
      rotate_left
      · (intro w' hS'; obtain ⟨a0, a1, b0, b1, c0, c1⟩ := HLD.out w' hS'; go_simp; try with_reducible rfl)
      try simp only [Act.put, List.setIfInBounds_toArray, List.set_cons_zero, List.set_cons_succ]
      -- 43
      refine sched_call (by rfl) (fun K hK => ?_)
      go_simp
      refine (implReadNumbers_c _ _ (packL xs) _ fp2 (packL_byt P0.out) (rp.below hv6 rp.lt)).mono ?_
      rintro e v7 ⟨r43, rfl, ⟨x43, f43, rfl, hr43, hn43, hf43⟩, hb43⟩
      have hv7 : Below W.heap.size W v7 := hv6.trans (hb43.mono hv6.size)
      rw [HPC.out]
      obtain ⟨A43, c43, rfl⟩ := hr43.form
      clear hn43 hf43
      refine hK _ _ hv7 ?_
      try simp only [Act.put, List.setIfInBounds_toArray, List.set_cons_zero, List.set_cons_succ]
      -- 44
      refine sched_run (v := ?_) (by rfl) ?_ ?_
      rotate_left
      · (intro w' hS'; go_simp; try with_reducible rfl)
      try simp only [Act.put, List.setIfInBounds_toArray, List.set_cons_zero, List.set_cons_succ]
      -- 45
      refine sched_run (v := ?_) (by rfl) ?_ ?_
      rotate_left
      · (intro w' hS'; go_simp; try with_reducible rfl)
      try simp only [Act.put, List.setIfInBounds_toArray, List.set_cons_zero, List.set_cons_succ]
      -- 46
      refine sched_run (v := ?_) (by rfl) ?_ ?_
      rotate_left
      · (intro w' hS'; go_simp; try with_reducible rfl)
      try simp only [Act.put, List.setIfInBounds_toArray, List.set_cons_zero, List.set_cons_succ]
      -- 47
      refine sched_run (v := ?_) (by rfl) ?_ ?_
      rotate_left
      · (intro w' hS'; go_simp; try with_reducible rfl)
      try simp only [Act.put, List.setIfInBounds_toArray, List.set_cons_zero, List.set_cons_succ]
      -- 48
      refine sched_run (v := ?_) (by rfl) ?_ ?_
      rotate_left
      · (intro w' hS'; go_simp; try with_reducible rfl)
      try simp only [Act.put, List.setIfInBounds_toArray, List.set_cons_zero, List.set_cons_succ]
      -- 49
      refine sched_run (v := ?_) (by rfl) ?_ ?_
      rotate_left
      · (intro w' hS'; go_simp; try with_reducible rfl)
      try simp only [Act.put, List.setIfInBounds_toArray, List.set_cons_zero, List.set_cons_succ]
      -- 50
      refine sched_run (v := ?_) (by rfl) ?_ ?_
      rotate_left
      · (intro w' hS'; go_simp; try with_reducible rfl)
      try simp only [Act.put, List.setIfInBounds_toArray, List.set_cons_zero, List.set_cons_succ]
      -- 51
      refine sched_run (v := ?_) (by rfl) ?_ ?_
      rotate_left
      · (intro w' hS'; obtain ⟨a0, a1, b0, b1, c0, c1⟩ := HLD.out w' hS'; go_simp; try with_reducible rfl)
      try simp only [Act.put, List.setIfInBounds_toArray, List.set_cons_zero, List.set_cons_succ]
      -- 52
      refine sched_run (v := ?_) (by rfl) ?_ ?_
      rotate_left
      · (intro w' hS'; go_simp; try with_reducible rfl)
      try simp only [Act.put, List.setIfInBounds_toArray, List.set_cons_zero, List.set_cons_succ]
      -- 53
      refine sched_call (by rfl) (fun K hK => ?_)
      go_simp
      refine (specPutNumber_c n _).mono ?_
      rintro e v8 ⟨r53, rfl, ⟨x53, f53, rfl, hr53, hn53, hf53⟩, hb53⟩
      have hv8 : Below W.heap.size W v8 := hv7.trans (hb53.mono hv7.size)
      obtain ⟨A53, c53, rfl⟩ := hr53.form
      clear hn53 hf53
      refine hK _ _ hv8 ?_
      try simp only [Act.put, List.setIfInBounds_toArray, List.set_cons_zero, List.set_cons_succ]
      -- 54
      refine sched_run (v := ?_) (by rfl) ?_ ?_
      rotate_left
      · (intro w' hS'; go_simp; try with_reducible rfl)
      try simp only [Act.put, List.setIfInBounds_toArray, List.set_cons_zero, List.set_cons_succ]
      -- 55
      refine sched_run (v := ?_) (by rfl) ?_ ?_
      rotate_left
      · (intro w' hS'; go_simp; try with_reducible rfl)
      try simp only [Act.put, List.setIfInBounds_toArray, List.set_cons_zero, List.set_cons_succ]
      -- 56
      refine sched_run (v := ?_) (by rfl) ?_ ?_
      rotate_left
      · (intro w' hS'; go_simp; try with_reducible rfl)
      try simp only [Act.put, List.setIfInBounds_toArray, List.set_cons_zero, List.set_cons_succ]
      -- 57
      refine sched_run (v := ?_) (by rfl) ?_ ?_
      rotate_left
      · (intro w' hS'; go_simp; try with_reducible rfl)
      try simp only [Act.put, List.setIfInBounds_toArray, List.set_cons_zero, List.set_cons_succ]
      -- 58
      refine sched_run (v := ?_) (by rfl) ?_ ?_
      rotate_left
      · (intro w' hS'; go_simp; try with_reducible rfl)
      try simp only [Act.put, List.setIfInBounds_toArray, List.set_cons_zero, List.set_cons_succ]
      -- 59
      refine sched_run (v := ?_) (by rfl) ?_ ?_
      rotate_left
      · (intro w' hS'; obtain ⟨a0, a1, b0, b1, c0, c1⟩ := HLD.out w' hS'; go_simp; try with_reducible rfl)
      try simp only [Act.put, List.setIfInBounds_toArray, List.set_cons_zero, List.set_cons_succ]
      -- 60
      refine sched_run (v := ?_) (by rfl) ?_ ?_
      rotate_left
      · (intro w' hS'; go_simp; try with_reducible rfl)
      try simp only [Act.put, List.setIfInBounds_toArray, List.set_cons_zero, List.set_cons_succ]
      -- 61
      refine sched_run (v := ?_) (by rfl) ?_ ?_
      rotate_left
      · (intro w' hS'; go_simp; try with_reducible rfl)
      try simp only [Act.put, List.setIfInBounds_toArray, List.set_cons_zero, List.set_cons_succ]
      -- 62
      refine sched_run (v := ?_) (by rfl) ?_ ?_
      rotate_left
      · (intro w' hS'; go_simp; try with_reducible rfl)
      try simp only [Act.put, List.setIfInBounds_toArray, List.set_cons_zero, List.set_cons_succ]
      -- 63
      refine sched_run (v := ?_) (by rfl) ?_ ?_
      rotate_left
      · (intro w' hS'; obtain ⟨a0, a1, b0, b1, c0, c1⟩ := HLD.out w' hS'; go_simp; try with_reducible rfl)
      try simp only [Act.put, List.setIfInBounds_toArray, List.set_cons_zero, List.set_cons_succ]
      -- 66
      refine sched_run (v := ?_) (by rfl) ?_ ?_
      rotate_left
      · (intro w' hS'; go_simp; try with_reducible rfl)
      try simp only [Act.put, List.setIfInBounds_toArray, List.set_cons_zero, List.set_cons_succ]
      -- 64
      refine sched_call (by rfl) (fun K hK => ?_)
      go_simp
      refine (implGetNumber_c _ _ (putL n) 0 _ fw (wf_small (by omega) (by omega)) (putL_byt n) (rw_.below hv8 rw_.lt)).mono ?_
      rintro e v9 ⟨rfl, hb64⟩
      have hv9 : Below W.heap.size W v9 := hv8.trans (hb64.mono hv8.size)
      rw [getP_putL Q0.out]
      refine hK _ _ hv9 ?_
      try simp only [Act.put, List.setIfInBounds_toArray, List.set_cons_zero, List.set_cons_succ]
      -- 65
      refine sched_run (v := ?_) (by rfl) ?_ ?_
      rotate_left
      · (intro w' hS'; go_simp; try with_reducible rfl)
      try simp only [Act.put, List.setIfInBounds_toArray, List.set_cons_zero, List.set_cons_succ]
      -- 67
      refine sched_run (v := ?_) (by rfl) ?_ ?_
      rotate_left
      · (intro w' hS'; go_simp; try with_reducible rfl)
      try simp only [Act.put, List.setIfInBounds_toArray, List.set_cons_zero, List.set_cons_succ]
      -- 68
      refine sched_run (v := ?_) (by rfl) ?_ ?_
      rotate_left
      · (intro w' hS'; go_simp; try with_reducible rfl)
      try simp only [Act.put, List.setIfInBounds_toArray, List.set_cons_zero, List.set_cons_succ]
      -- 69
      refine sched_run (v := ?_) (by rfl) ?_ ?_
      rotate_left
      · (intro w' hS'; go_simp; try with_reducible rfl)
      try simp only [Act.put, List.setIfInBounds_toArray, List.set_cons_zero, List.set_cons_succ]
      refine sched_done ?_
      go_wp2_with fail
      refine (implGetNumber_c _ _ bs p _ fb hN.pwf hN.bby (rb.below hv9 rb.lt)).mono ?_
      rintro e v10 ⟨rfl, hbx9⟩
      have hv10 : Below W.heap.size W v10 := hv9.trans (hbx9.mono hv9.size)
      go_wp2_with fail
      refine (specGetNumber_c _ _ bs p _ fb hN.pwf hN.bby (rb.below hv10 rb.lt)).mono ?_
      rintro e v11 ⟨rfl, hbx10⟩
      have hv11 : Below W.heap.size W v11 := hv10.trans (hbx10.mono hv10.size)
      go_wp2_with fail
      refine (implGetNumber_c _ _ bs p _ fb hN.pwf hN.bby (rb.below hv11 rb.lt)).mono ?_
      rintro e v12 ⟨rfl, hbx11⟩
      have hv12 : Below W.heap.size W v12 := hv11.trans (hbx11.mono hv11.size)
      go_wp2_with fail
      refine (specGetNumber_c _ _ bs p _ fb hN.pwf hN.bby (rb.below hv12 rb.lt)).mono ?_
      rintro e v13 ⟨rfl, hbx12⟩
      have hv13 : Below W.heap.size W v13 := hv12.trans (hbx12.mono hv12.size)
      go_wp2
      go_ret
      exact ⟨rfl, hN.bel.trans (hv13.mono hN.bel.size)⟩
    · -- readable, packed, not short
      have R0 := Lib.hid hr0
      have tr : (readC ds == 0) = true := by simp [hr0]
      have P0 := Lib.hid hp0
      have tp : (packC xs == 0) = true := by simp [hp0]
      have Q0 := Lib.hid hq0
      have tq : (putC n == 0) = false := by simp [hq0]
      clear hr0 hp0 hq0
      have HRC := Lib.hid (pack_read hN.dby R0.out).1; have HRL := Lib.hid (pack_read hN.dby R0.out).2
      have HPC := Lib.hid (read_pack P0.out).1; have HPL := Lib.hid (read_pack P0.out).2
      refine wp_region_sched (fun w' => Below W.heap.size W w') [(0, true), (1, true), (2, true), (3, false), (4, true), (5, true), (6, true), (7, true), (8, true), (9, true), (10, true), (11, true), (12, true), (15, true), (13, false), (14, true), (16, false), (17, true), (18, true), (19, true), (20, true), (21, true), (22, true), (23, true), (24, false), (25, true), (26, true), (27, true), (28, true), (29, true), (30, true), (31, true), (32, true), (33, true), (34, true), (37, true), (35, false), (36, true), (38, false), (39, true), (40, true), (41, true), (42, true), (43, false), (44, true), (45, true), (46, true), (47, true), (48, true), (49, true), (50, true), (51, true), (52, true), (53, false), (54, true), (55, true), (56, true), (57, true), (58, true), (59, true), (60, true), (61, true), (62, true), (63, true), (66, true), (64, false), (65, true), (67, true), (68, true), (69, true)] (by kernel_rfl) (by kernel_rfl) (by kernel_rfl) (by kernel_rfl) (fun _ _ d _ _ h => by cases d <;> exact h) ⟨rfl, rfl, rfl, Nat.le_refl _, fun _ _ => rfl⟩ ?_
      simp only [opsOf, List.filterMap_cons, List.filterMap_nil, Option.map_some, List.append_eq, List.cons_append, List.nil_append, List.getElem?_toArray, List.getElem?_cons_zero, List.getElem?_cons_succ]
      have hld : ∀ w', Below W.heap.size W w' → w'.cell? ⟨w2.heap.size, 0, none⟩ = some (.int .i64 (readC ds)) ∧ w'.cell? ⟨w2.heap.size, 1, none⟩ = some (.slice Au (readL ds).length cu) ∧ w'.cell? ⟨w4.heap.size, 0, none⟩ = some (.int .i64 (packC xs)) ∧ w'.cell? ⟨w4.heap.size, 1, none⟩ = some (.slice Ap (packL xs).length cp) ∧ w'.cell? ⟨w6.heap.size, 0, none⟩ = some (.int .i64 (putC n)) ∧ w'.cell? ⟨w6.heap.size, 1, none⟩ = some (.slice Aw (putL n).length cw) := fun w' h =>
        ⟨(two_cells h hN.hu (heap_lt hN.hu)).1, (two_cells h hN.hu (heap_lt hN.hu)).2, (two_cells h hN.hp (heap_lt hN.hp)).1, (two_cells h hN.hp (heap_lt hN.hp)).2, (two_cells h hN.hw (heap_lt hN.hw)).1, (two_cells h hN.hw (heap_lt hN.hw)).2⟩
      have HLD := Lib.hid hld; clear hld
      generalize hW0 : ({ heap := W.heap, tape := W.tape, drawn := W.drawn + 1, os := W.os, output := W.output } : World) = v0
      have hv0 : Below W.heap.size W v0 := by rw [← hW0]; exact ⟨rfl, rfl, rfl, Nat.le_refl _, fun _ _ => rfl⟩
      clear hW0
      -- 0
      refine sched_run (v := ?_) (by rfl) ?_ ?_
      rotate_left
      · (intro w' hS'; go_simp; try with_reducible rfl)
      try simp only [Act.put, List.setIfInBounds_toArray, List.set_cons_zero, List.set_cons_succ]
      -- 1
      refine sched_run (v := ?_) (by rfl) ?_ ?_
      rotate_left
      · (intro w' hS'; obtain ⟨a0, a1, b0, b1, c0, c1⟩ := HLD.out w' hS'; go_simp; try with_reducible rfl)
      try simp only [Act.put, List.setIfInBounds_toArray, List.set_cons_zero, List.set_cons_succ]
      -- 2
      refine sched_run (v := ?_) (by rfl) ?_ ?_
      rotate_left
      · (intro w' hS'; go_simp; try with_reducible rfl)
      try simp only [Act.put, List.setIfInBounds_toArray, List.set_cons_zero, List.set_cons_succ]
      -- 3
      refine sched_call (by rfl) (fun K hK => ?_)
      go_simp
      refine (specReadNumbers_c _ _ ds _ fd hN.dby (rd.below hv0 rd.lt)).mono ?_
      rintro e v1 ⟨r3, rfl, ⟨x3, f3, rfl, hr3, hn3, hf3⟩, hb3⟩
      have hv1 : Below W.heap.size W v1 := hv0.trans (hb3.mono hv0.size)
      obtain ⟨A3, c3, rfl⟩ := hr3.form
      clear hn3 hf3
      refine hK _ _ hv1 ?_
      try simp only [Act.put, List.setIfInBounds_toArray, List.set_cons_zero, List.set_cons_succ]
      -- 4
      refine sched_run (v := ?_) (by rfl) ?_ ?_
      rotate_left
      · (intro w' hS'; go_simp; try with_reducible rfl)
      try simp only [Act.put, List.setIfInBounds_toArray, List.set_cons_zero, List.set_cons_succ]
      -- 5
      refine sched_run (v := ?_) (by rfl) ?_ ?_
      rotate_left
      · (intro w' hS'; go_simp; try with_reducible rfl)
      try simp only [Act.put, List.setIfInBounds_toArray, List.set_cons_zero, List.set_cons_succ]
      -- 6
      refine sched_run (v := ?_) (by rfl) ?_ ?_
      rotate_left
      · (intro w' hS'; go_simp; try with_reducible rfl)
      try simp only [Act.put, List.setIfInBounds_toArray, List.set_cons_zero, List.set_cons_succ]
      -- 7
      refine sched_run (v := ?_) (by rfl) ?_ ?_
      rotate_left
      · (intro w' hS'; go_simp; try with_reducible rfl)
      try simp only [Act.put, List.setIfInBounds_toArray, List.set_cons_zero, List.set_cons_succ]
      -- 8
      refine sched_run (v := ?_) (by rfl) ?_ ?_
      rotate_left
      · (intro w' hS'; obtain ⟨a0, a1, b0, b1, c0, c1⟩ := HLD.out w' hS'; go_simp; try with_reducible rfl)
      try simp only [Act.put, List.setIfInBounds_toArray, List.set_cons_zero, List.set_cons_succ]
      -- 9
      refine sched_run (v := ?_) (by rfl) ?_ ?_
      rotate_left
      · (intro w' hS'; go_simp; try with_reducible rfl)
      try simp only [Act.put, List.setIfInBounds_toArray, List.set_cons_zero, List.set_cons_succ]
      -- 10
      refine sched_run (v := ?_) (by rfl) ?_ ?_
      rotate_left
      · (intro w' hS'; go_simp; try with_reducible rfl)
      try simp only [Act.put, List.setIfInBounds_toArray, List.set_cons_zero, List.set_cons_succ]
      -- 11
      refine sched_run (v := ?_) (by rfl) ?_ ?_
      rotate_left
      · (intro w' hS'; go_simp; try with_reducible rfl)
      try simp only [Act.put, List.setIfInBounds_toArray, List.set_cons_zero, List.set_cons_succ]
      -- 12
      refine sched_run (v := ?_) (by rfl) ?_ ?_
      rotate_left
      · (intro w' hS'; obtain ⟨a0, a1, b0, b1, c0, c1⟩ := HLD.out w' hS'; go_simp; try with_reducible rfl)
      try simp only [Act.put, List.setIfInBounds_toArray, List.set_cons_zero, List.set_cons_succ]
      -- 15
      refine sched_run (v := ?_) (by rfl) ?_ ?_
      rotate_left
      · (intro w' hS'; go_simp; try with_reducible rfl)
      try simp only [Act.put, List.setIfInBounds_toArray, List.set_cons_zero, List.set_cons_succ]
      -- 13
      refine sched_call (by rfl) (fun K hK => ?_)
      go_simp
      refine (implPackNumbers_c _ _ (readL ds) _ fu (ru.below hv1 ru.lt)).mono ?_
      rintro e v2 ⟨r13, rfl, ⟨x13, f13, rfl, hr13, hn13, hf13⟩, hb13⟩
      have hv2 : Below W.heap.size W v2 := hv1.trans (hb13.mono hv1.size)
      rw [HRL.out] at hr13
      obtain ⟨A13, c13, rfl⟩ := hr13.form
      clear hn13 hf13
      refine hK _ _ hv2 ?_
      try simp only [Act.put, List.setIfInBounds_toArray, List.set_cons_zero, List.set_cons_succ]
      -- 14
      refine sched_run (v := ?_) (by rfl) ?_ ?_
      rotate_left
      · (intro w' hS'; go_simp; try with_reducible rfl)
      try simp only [Act.put, List.setIfInBounds_toArray, List.set_cons_zero, List.set_cons_succ]
      -- 16
      refine sched_call (by rfl) (fun K hK => ?_)
      go_simp
      refine (lwBytes_c _ _ _ _ ds _ f13 fd hr13 (rd.below hv2 rd.lt)).mono ?_
      rintro e v3 ⟨rfl, hb16⟩
      have hv3 : Below W.heap.size W v3 := hv2.trans (hb16.mono hv2.size)
      refine hK _ _ hv3 ?_
      try simp only [Act.put, List.setIfInBounds_toArray, List.set_cons_zero, List.set_cons_succ]
      -- 17
      refine sched_run (v := ?_) (by rfl) ?_ ?_
      rotate_left
      · (intro w' hS'; go_simp; try with_reducible rfl)
      try simp only [Act.put, List.setIfInBounds_toArray, List.set_cons_zero, List.set_cons_succ]
      -- 18
      refine sched_run (v := ?_) (by rfl) ?_ ?_
      rotate_left
      · (intro w' hS'; go_simp; try with_reducible rfl)
      try simp only [Act.put, List.setIfInBounds_toArray, List.set_cons_zero, List.set_cons_succ]
      -- 19
      refine sched_run (v := ?_) (by rfl) ?_ ?_
      rotate_left
      · (intro w' hS'; go_simp; try with_reducible rfl)
      try simp only [Act.put, List.setIfInBounds_toArray, List.set_cons_zero, List.set_cons_succ]
      -- 20
      refine sched_run (v := ?_) (by rfl) ?_ ?_
      rotate_left
      · (intro w' hS'; go_simp; try with_reducible rfl)
      try simp only [Act.put, List.setIfInBounds_toArray, List.set_cons_zero, List.set_cons_succ]
      -- 21
      refine sched_run (v := ?_) (by rfl) ?_ ?_
      rotate_left
      · (intro w' hS'; go_simp; try with_reducible rfl)
      try simp only [Act.put, List.setIfInBounds_toArray, List.set_cons_zero, List.set_cons_succ]
      -- 22
      refine sched_run (v := ?_) (by rfl) ?_ ?_
      rotate_left
      · (intro w' hS'; obtain ⟨a0, a1, b0, b1, c0, c1⟩ := HLD.out w' hS'; go_simp; try with_reducible rfl)
      try simp only [Act.put, List.setIfInBounds_toArray, List.set_cons_zero, List.set_cons_succ]
      -- 23
      refine sched_run (v := ?_) (by rfl) ?_ ?_
      rotate_left
      · (intro w' hS'; go_simp; try with_reducible rfl)
      try simp only [Act.put, List.setIfInBounds_toArray, List.set_cons_zero, List.set_cons_succ]
      -- 24
      refine sched_call (by rfl) (fun K hK => ?_)
      go_simp
      refine (specPackNumbers_c _ _ xs _ fx (rx.below hv3 rx.lt)).mono ?_
      rintro e v4 ⟨r24, rfl, ⟨x24, f24, rfl, hr24, hn24, hf24⟩, hb24⟩
      have hv4 : Below W.heap.size W v4 := hv3.trans (hb24.mono hv3.size)
      obtain ⟨A24, c24, rfl⟩ := hr24.form
      clear hn24 hf24
      refine hK _ _ hv4 ?_
      try simp only [Act.put, List.setIfInBounds_toArray, List.set_cons_zero, List.set_cons_succ]
      -- 25
      refine sched_run (v := ?_) (by rfl) ?_ ?_
      rotate_left
      · (intro w' hS'; go_simp; try with_reducible rfl)
      try simp only [Act.put, List.setIfInBounds_toArray, List.set_cons_zero, List.set_cons_succ]
      -- 26
      refine sched_run (v := ?_) (by rfl) ?_ ?_
      rotate_left
      · (intro w' hS'; go_simp; try with_reducible rfl)
      try simp only [Act.put, List.setIfInBounds_toArray, List.set_cons_zero, List.set_cons_succ]
      -- 27
      refine sched_run (v := ?_) (by rfl) ?_ ?_
      rotate_left
      · (intro w' hS'; go_simp; try with_reducible rfl)
      try simp only [Act.put, List.setIfInBounds_toArray, List.set_cons_zero, List.set_cons_succ]
      -- 28
      refine sched_run (v := ?_) (by rfl) ?_ ?_
      rotate_left
      · (intro w' hS'; go_simp; try with_reducible rfl)
      try simp only [Act.put, List.setIfInBounds_toArray, List.set_cons_zero, List.set_cons_succ]
      -- 29
      refine sched_run (v := ?_) (by rfl) ?_ ?_
      rotate_left
      · (intro w' hS'; go_simp; try with_reducible rfl)
      try simp only [Act.put, List.setIfInBounds_toArray, List.set_cons_zero, List.set_cons_succ]
      -- 30
      refine sched_run (v := ?_) (by rfl) ?_ ?_
      rotate_left
      · (intro w' hS'; obtain ⟨a0, a1, b0, b1, c0, c1⟩ := HLD.out w' hS'; go_simp; try with_reducible rfl)
      try simp only [Act.put, List.setIfInBounds_toArray, List.set_cons_zero, List.set_cons_succ]
      -- 31
      refine sched_run (v := ?_) (by rfl) ?_ ?_
      rotate_left
      · (intro w' hS'; go_simp; try with_reducible rfl)
      try simp only [Act.put, List.setIfInBounds_toArray, List.set_cons_zero, List.set_cons_succ]
      -- 32
      refine sched_run (v := ?_) (by rfl) ?_ ?_
      rotate_left
      · (intro w' hS'; go_simp; try with_reducible rfl)
      try simp only [Act.put, List.setIfInBounds_toArray, List.set_cons_zero, List.set_cons_succ]
      -- 33
      refine sched_run (v := ?_) (by rfl) ?_ ?_
      rotate_left
      · (intro w' hS'; go_simp; try with_reducible rfl)
      try simp only [Act.put, List.setIfInBounds_toArray, List.set_cons_zero, List.set_cons_succ]
      -- 34
      refine sched_run (v := ?_) (by rfl) ?_ ?_
      rotate_left
      · (intro w' hS'; obtain ⟨a0, a1, b0, b1, c0, c1⟩ := HLD.out w' hS'; go_simp; try with_reducible rfl)
      try simp only [Act.put, List.setIfInBounds_toArray, List.set_cons_zero, List.set_cons_succ]
      -- 37
      refine sched_run (v := ?_) (by rfl) ?_ ?_
      rotate_left
      · (intro w' hS'; go_simp; try with_reducible rfl)
      try simp only [Act.put, List.setIfInBounds_toArray, List.set_cons_zero, List.set_cons_succ]
      -- 35
      refine sched_call (by rfl) (fun K hK => ?_)
      go_simp
      refine (implReadNumbers_c _ _ (packL xs) _ fp2 (packL_byt P0.out) (rp.below hv4 rp.lt)).mono ?_
      rintro e v5 ⟨r35, rfl, ⟨x35, f35, rfl, hr35, hn35, hf35⟩, hb35⟩
      have hv5 : Below W.heap.size W v5 := hv4.trans (hb35.mono hv4.size)
      rw [HPL.out] at hr35
      obtain ⟨A35, c35, rfl⟩ := hr35.form
      clear hn35 hf35
      refine hK _ _ hv5 ?_
      try simp only [Act.put, List.setIfInBounds_toArray, List.set_cons_zero, List.set_cons_succ]
      -- 36
      refine sched_run (v := ?_) (by rfl) ?_ ?_
      rotate_left
      · (intro w' hS'; go_simp; try with_reducible rfl)
      try simp only [Act.put, List.setIfInBounds_toArray, List.set_cons_zero, List.set_cons_succ]
      -- 38
      refine sched_call (by rfl) (fun K hK => ?_)
      go_simp
      refine (lwNums_c _ _ _ _ xs _ f35 fx hr35 (rx.below hv5 rx.lt)).mono ?_
      rintro e v6 ⟨rfl, hb38⟩
      have hv6 : Below W.heap.size W v6 := hv5.trans (hb38.mono hv5.size)
      refine hK _ _ hv6 ?_
      try simp only [Act.put, List.setIfInBounds_toArray, List.set_cons_zero, List.set_cons_succ]
      -- 39
      refine sched_run (v := ?_) (by rfl) ?_ ?_
      rotate_left
      · (intro w' hS'; go_simp; try with_reducible rfl)
      try simp only [Act.put, List.setIfInBounds_toArray, List.set_cons_zero, List.set_cons_succ]
      -- 40
      refine sched_run (v := ?_) (by rfl) ?_ ?_
      rotate_left
      · (intro w' hS'; go_simp; try with_reducible rfl)
      try simp only [Act.put, List.setIfInBounds_toArray, List.set_cons_zero, List.set_cons_succ]
      -- 41
      refine sched_run (v := ?_) (by rfl) ?_ ?_
      rotate_left
      · (intro w' hS'; go_simp; try with_reducible rfl)
      try simp only [Act.put, List.setIfInBounds_toArray, List.set_cons_zero, List.set_cons_succ]
      -- 42
      refine sched_run (v := ?_) (by rfl) ?_ ?_
      rotate_left
      · (intro w' hS'; obtain ⟨a0, a1, b0, b1, c0, c1⟩ := HLD.out w' hS'; go_simp; try with_reducible rfl)
      try simp only [Act.put, List.setIfInBounds_toArray, List.set_cons_zero, List.set_cons_succ]
      -- 43
      refine sched_call (by rfl) (fun K hK => ?_)
      go_simp
      refine (implReadNumbers_c _ _ (packL xs) _ fp2 (packL_byt P0.out) (rp.below hv6 rp.lt)).mono ?_
      rintro e v7 ⟨r43, rfl, ⟨x43, f43, rfl, hr43, hn43, hf43⟩, hb43⟩
      have hv7 : Below W.heap.size W v7 := hv6.trans (hb43.mono hv6.size)
      rw [HPC.out]
      obtain ⟨A43, c43, rfl⟩ := hr43.form
      clear hn43 hf43
      refine hK _ _ hv7 ?_
      try simp only [Act.put, List.setIfInBounds_toArray, List.set_cons_zero, List.set_cons_succ]
      -- 44
      refine sched_run (v := ?_) (by rfl) ?_ ?_
      rotate_left
      · (intro w' hS'; go_simp; try with_reducible rfl)
      try simp only [Act.put, List.setIfInBounds_toArray, List.set_cons_zero, List.set_cons_succ]
      -- 45
      refine sched_run (v := ?_) (by rfl) ?_ ?_
      rotate_left
      · (intro w' hS'; go_simp; try with_reducible rfl)
      try simp only [Act.put, List.setIfInBounds_toArray, List.set_cons_zero, List.set_cons_succ]
      -- 46
      refine sched_run (v := ?_) (by rfl) ?_ ?_
      rotate_left
      · (intro w' hS'; go_simp; try with_reducible rfl)
      try simp only [Act.put, List.setIfInBounds_toArray, List.set_cons_zero, List.set_cons_succ]
      -- 47
      refine sched_run (v := ?_) (by rfl) ?_ ?_
      rotate_left
      · (intro w' hS'; go_simp; try with_reducible rfl)
      try simp only [Act.put, List.setIfInBounds_toArray, List.set_cons_zero, List.set_cons_succ]
      -- 48
      refine sched_run (v := ?_) (by rfl) ?_ ?_
      rotate_left
      · (intro w' hS'; go_simp; try with_reducible rfl)
      try simp only [Act.put, List.setIfInBounds_toArray, List.set_cons_zero, List.set_cons_succ]
      -- 49
      refine sched_run (v := ?_) (by rfl) ?_ ?_
      rotate_left
      · (intro w' hS'; go_simp; try with_reducible rfl)
      try simp only [Act.put, List.setIfInBounds_toArray, List.set_cons_zero, List.set_cons_succ]
      -- 50
      refine sched_run (v := ?_) (by rfl) ?_ ?_
      rotate_left
      · (intro w' hS'; go_simp; try with_reducible rfl)
      try simp only [Act.put, List.setIfInBounds_toArray, List.set_cons_zero, List.set_cons_succ]
      -- 51
      refine sched_run (v := ?_) (by rfl) ?_ ?_
      rotate_left
      · (intro w' hS'; obtain ⟨a0, a1, b0, b1, c0, c1⟩ := HLD.out w' hS'; go_simp; try with_reducible rfl)
      try simp only [Act.put, List.setIfInBounds_toArray, List.set_cons_zero, List.set_cons_succ]
      -- 52
      refine sched_run (v := ?_) (by rfl) ?_ ?_
      rotate_left
      · (intro w' hS'; go_simp; try with_reducible rfl)
      try simp only [Act.put, List.setIfInBounds_toArray, List.set_cons_zero, List.set_cons_succ]
      -- 53
      refine sched_call (by rfl) (fun K hK => ?_)
      go_simp
      refine (specPutNumber_c n _).mono ?_
      rintro e v8 ⟨r53, rfl, ⟨x53, f53, rfl, hr53, hn53, hf53⟩, hb53⟩
      have hv8 : Below W.heap.size W v8 := hv7.trans (hb53.mono hv7.size)
      obtain ⟨A53, c53, rfl⟩ := hr53.form
      clear hn53 hf53
      refine hK _ _ hv8 ?_
      try simp only [Act.put, List.setIfInBounds_toArray, List.set_cons_zero, List.set_cons_succ]
      -- 54
      refine sched_run (v := ?_) (by rfl) ?_ ?_
      rotate_left
      · (intro w' hS'; go_simp; try with_reducible rfl)
      try simp only [Act.put, List.setIfInBounds_toArray, List.set_cons_zero, List.set_cons_succ]
      -- 55
      refine sched_run (v := ?_) (by rfl) ?_ ?_
      rotate_left
      · (intro w' hS'; go_simp; try with_reducible rfl)
      try simp only [Act.put, List.setIfInBounds_toArray, List.set_cons_zero, List.set_cons_succ]
      -- 56
      refine sched_run (v := ?_) (by rfl) ?_ ?_
      rotate_left
      · (intro w' hS'; go_simp; try with_reducible rfl)
      try simp only [Act.put, List.setIfInBounds_toArray, List.set_cons_zero, List.set_cons_succ]
      -- 57
      refine sched_run (v := ?_) (by rfl) ?_ ?_
      rotate_left
      · (intro w' hS'; go_simp; try with_reducible rfl)
      try simp only [Act.put, List.setIfInBounds_toArray, List.set_cons_zero, List.set_cons_succ]
      -- 58
      refine sched_run (v := ?_) (by rfl) ?_ ?_
      rotate_left
      · (intro w' hS'; go_simp; try with_reducible rfl)
      try simp only [Act.put, List.setIfInBounds_toArray, List.set_cons_zero, List.set_cons_succ]
      -- 59
      refine sched_run (v := ?_) (by rfl) ?_ ?_
      rotate_left
      · (intro w' hS'; obtain ⟨a0, a1, b0, b1, c0, c1⟩ := HLD.out w' hS'; go_simp; try with_reducible rfl)
      try simp only [Act.put, List.setIfInBounds_toArray, List.set_cons_zero, List.set_cons_succ]
      -- 60
      refine sched_run (v := ?_) (by rfl) ?_ ?_
      rotate_left
      · (intro w' hS'; go_simp; try with_reducible rfl)
      try simp only [Act.put, List.setIfInBounds_toArray, List.set_cons_zero, List.set_cons_succ]
      -- 61
      refine sched_run (v := ?_) (by rfl) ?_ ?_
      rotate_left
      · (intro w' hS'; go_simp; try with_reducible rfl)
      try simp only [Act.put, List.setIfInBounds_toArray, List.set_cons_zero, List.set_cons_succ]
      -- 62
      refine sched_skip (by rfl) ?_
      try simp only [Act.put, List.setIfInBounds_toArray, List.set_cons_zero, List.set_cons_succ]
      -- 63
      refine sched_skip (by rfl) ?_
      try simp only [Act.put, List.setIfInBounds_toArray, List.set_cons_zero, List.set_cons_succ]
      -- 66
      refine sched_skip (by rfl) ?_
      try simp only [Act.put, List.setIfInBounds_toArray, List.set_cons_zero, List.set_cons_succ]
      -- 64
      refine sched_skip' (by rfl) ?_
      try simp only [Act.put, List.setIfInBounds_toArray, List.set_cons_zero, List.set_cons_succ]
      -- 65
      refine sched_skip (by rfl) ?_
      try simp only [Act.put, List.setIfInBounds_toArray, List.set_cons_zero, List.set_cons_succ]
      -- 67
      refine sched_skip (by rfl) ?_
      try simp only [Act.put, List.setIfInBounds_toArray, List.set_cons_zero, List.set_cons_succ]
      -- 68
      refine sched_run (v := ?_) (by rfl) ?_ ?_
      rotate_left
      · (intro w' hS'; go_simp; try with_reducible rfl)
      try simp only [Act.put, List.setIfInBounds_toArray, List.set_cons_zero, List.set_cons_succ]
      -- 69
      refine sched_run (v := ?_) (by rfl) ?_ ?_
      rotate_left
      · (intro w' hS'; go_simp; try with_reducible rfl)
      try simp only [Act.put, List.setIfInBounds_toArray, List.set_cons_zero, List.set_cons_succ]
      refine sched_done ?_
      go_wp2_with fail
      refine (implGetNumber_c _ _ bs p _ fb hN.pwf hN.bby (rb.below hv8 rb.lt)).mono ?_
      rintro e v9 ⟨rfl, hbx8⟩
      have hv9 : Below W.heap.size W v9 := hv8.trans (hbx8.mono hv8.size)
      go_wp2_with fail
      refine (specGetNumber_c _ _ bs p _ fb hN.pwf hN.bby (rb.below hv9 rb.lt)).mono ?_
      rintro e v10 ⟨rfl, hbx9⟩
      have hv10 : Below W.heap.size W v10 := hv9.trans (hbx9.mono hv9.size)
      go_wp2_with fail
      refine (implGetNumber_c _ _ bs p _ fb hN.pwf hN.bby (rb.below hv10 rb.lt)).mono ?_
      rintro e v11 ⟨rfl, hbx10⟩
      have hv11 : Below W.heap.size W v11 := hv10.trans (hbx10.mono hv10.size)
      go_wp2_with fail
      refine (specGetNumber_c _ _ bs p _ fb hN.pwf hN.bby (rb.below hv11 rb.lt)).mono ?_
      rintro e v12 ⟨rfl, hbx11⟩
      have hv12 : Below W.heap.size W v12 := hv11.trans (hbx11.mono hv11.size)
      go_wp2
      go_ret
      exact ⟨rfl, hN.bel.trans (hv12.mono hN.bel.size)⟩
    · -- readable, not packed, short
      have R0 := Lib.hid hr0
      have tr : (readC ds == 0) = true := by simp [hr0]
      have P0 := Lib.hid hp0
      have tp : (packC xs == 0) = false := by simp [hp0]
      have Q0 := Lib.hid hq0
      have tq : (putC n == 0) = true := by simp [hq0]
      clear hr0 hp0 hq0
      have HRC := Lib.hid (pack_read hN.dby R0.out).1; have HRL := Lib.hid (pack_read hN.dby R0.out).2
      refine wp_region_sched (fun w' => Below W.heap.size W w') [(0, true), (1, true), (2, true), (3, false), (4, true), (5, true), (6, true), (7, true), (8, true), (9, true), (10, true), (11, true), (12, true), (15, true), (13, false), (14, true), (16, false), (17, true), (18, true), (19, true), (20, true), (21, true), (22, true), (23, true), (24, false), (25, true), (26, true), (27, true), (28, true), (29, true), (30, true), (31, true), (32, true), (33, true), (34, true), (37, true), (35, false), (36, true), (38, false), (39, true), (40, true), (41, true), (42, true), (43, false), (44, true), (45, true), (46, true), (47, true), (48, true), (49, true), (50, true), (51, true), (52, true), (53, false), (54, true), (55, true), (56, true), (57, true), (58, true), (59, true), (60, true), (61, true), (62, true), (63, true), (66, true), (64, false), (65, true), (67, true), (68, true), (69, true)] (by kernel_rfl) (by kernel_rfl) (by kernel_rfl) (by kernel_rfl) (fun _ _ d _ _ h => by cases d <;> exact h) ⟨rfl, rfl, rfl, Nat.le_refl _, fun _ _ => rfl⟩ ?_
      simp only [opsOf, List.filterMap_cons, List.filterMap_nil, Option.map_some, List.append_eq, List.cons_append, List.nil_append, List.getElem?_toArray, List.getElem?_cons_zero, List.getElem?_cons_succ]
      have hld : ∀ w', Below W.heap.size W w' → w'.cell? ⟨w2.heap.size, 0, none⟩ = some (.int .i64 (readC ds)) ∧ w'.cell? ⟨w2.heap.size, 1, none⟩ = some (.slice Au (readL ds).length cu) ∧ w'.cell? ⟨w4.heap.size, 0, none⟩ = some (.int .i64 (packC xs)) ∧ w'.cell? ⟨w4.heap.size, 1, none⟩ = some (.slice Ap (packL xs).length cp) ∧ w'.cell? ⟨w6.heap.size, 0, none⟩ = some (.int .i64 (putC n)) ∧ w'.cell? ⟨w6.heap.size, 1, none⟩ = some (.slice Aw (putL n).length cw) := fun w' h =>
        ⟨(two_cells h hN.hu (heap_lt hN.hu)).1, (two_cells h hN.hu (heap_lt hN.hu)).2, (two_cells h hN.hp (heap_lt hN.hp)).1, (two_cells h hN.hp (heap_lt hN.hp)).2, (two_cells h hN.hw (heap_lt hN.hw)).1, (two_cells h hN.hw (heap_lt hN.hw)).2⟩
      have HLD := Lib.hid hld; clear hld
      generalize hW0 : ({ heap := W.heap, tape := W.tape, drawn := W.drawn + 1, os := W.os, output := W.output } : World) = v0
      have hv0 : Below W.heap.size W v0 := by rw [← hW0]; exact ⟨rfl, rfl, rfl, Nat.le_refl _, fun _ _ => rfl⟩
      clear hW0
      -- 0
      refine sched_run (v := ?_) (by rfl) ?_ ?_
      rotate_left
      · (intro w' hS'; go_simp; try with_reducible rfl)
      try simp only [Act.put, List.setIfInBounds_toArray, List.set_cons_zero, List.set_cons_succ]
      -- 1
      refine sched_run (v := ?_) (by rfl) ?_ ?_
      rotate_left
      · (intro w' hS'; obtain ⟨a0, a1, b0, b1, c0, c1⟩ := HLD.out w' hS'; go_simp; try with_reducible rfl)
      try simp only [Act.put, List.setIfInBounds_toArray, List.set_cons_zero, List.set_cons_succ]
      -- 2
      refine sched_run (v := ?_) (by rfl) ?_ ?_
      rotate_left
      · (intro w' hS'; go_simp; try with_reducible rfl)
      try simp only [Act.put, List.setIfInBounds_toArray, List.set_cons_zero, List.set_cons_succ]
      -- 3
      refine sched_call (by rfl) (fun K hK => ?_)
      go_simp
      refine (specReadNumbers_c _ _ ds _ fd hN.dby (rd.below hv0 rd.lt)).mono ?_
      rintro e v1 ⟨r3, rfl, ⟨x3, f3, rfl, hr3, hn3, hf3⟩, hb3⟩
      have hv1 : Below W.heap.size W v1 := hv0.trans (hb3.mono hv0.size)
      obtain ⟨A3, c3, rfl⟩ := hr3.form
      clear hn3 hf3
      refine hK _ _ hv1 ?_
      try simp only [Act.put, List.setIfInBounds_toArray, List.set_cons_zero, List.set_cons_succ]
      -- 4
      refine sched_run (v := ?_) (by rfl) ?_ ?_
      rotate_left
      · (intro w' hS'; go_simp; try with_reducible rfl)
      try simp only [Act.put, List.setIfInBounds_toArray, List.set_cons_zero, List.set_cons_succ]
      -- 5
      refine sched_run (v := ?_) (by rfl) ?_ ?_
      rotate_left
      · (intro w' hS'; go_simp; try with_reducible rfl)
      try simp only [Act.put, List.setIfInBounds_toArray, List.set_cons_zero, List.set_cons_succ]
      -- 6
      refine sched_run (v := ?_) (by rfl) ?_ ?_
      rotate_left
      · (intro w' hS'; go_simp; try with_reducible rfl)
      try simp only [Act.put, List.setIfInBounds_toArray, List.set_cons_zero, List.set_cons_succ]
      -- 7
      refine sched_run (v := ?_) (by rfl) ?_ ?_
      rotate_left
      · (intro w' hS'; go_simp; try with_reducible rfl)
      try simp only [Act.put, List.setIfInBounds_toArray, List.set_cons_zero, List.set_cons_succ]
      -- 8
      refine sched_run (v := ?_) (by rfl) ?_ ?_
      rotate_left
      · (intro w' hS'; obtain ⟨a0, a1, b0, b1, c0, c1⟩ := HLD.out w' hS'; go_simp; try with_reducible rfl)
      try simp only [Act.put, List.setIfInBounds_toArray, List.set_cons_zero, List.set_cons_succ]
      -- 9
      refine sched_run (v := ?_) (by rfl) ?_ ?_
      rotate_left
      · (intro w' hS'; go_simp; try with_reducible rfl)
      try simp only [Act.put, List.setIfInBounds_toArray, List.set_cons_zero, List.set_cons_succ]
      -- 10
      refine sched_run (v := ?_) (by rfl) ?_ ?_
      rotate_left
      · (intro w' hS'; go_simp; try with_reducible rfl)
      try simp only [Act.put, List.setIfInBounds_toArray, List.set_cons_zero, List.set_cons_succ]
      -- 11
      refine sched_run (v := ?_) (by rfl) ?_ ?_
      rotate_left
      · (intro w' hS'; go_simp; try with_reducible rfl)
      try simp only [Act.put, List.setIfInBounds_toArray, List.set_cons_zero, List.set_cons_succ]
      -- 12
      refine sched_run (v := ?_) (by rfl) ?_ ?_
      rotate_left
      · (intro w' hS'; obtain ⟨a0, a1, b0, b1, c0, c1⟩ := HLD.out w' hS'; go_simp; try with_reducible rfl)
      try simp only [Act.put, List.setIfInBounds_toArray, List.set_cons_zero, List.set_cons_succ]
      -- 15
      refine sched_run (v := ?_) (by rfl) ?_ ?_
      rotate_left
      · (intro w' hS'; go_simp; try with_reducible rfl)
      try simp only [Act.put, List.setIfInBounds_toArray, List.set_cons_zero, List.set_cons_succ]
      -- 13
      refine sched_call (by rfl) (fun K hK => ?_)
      go_simp
      refine (implPackNumbers_c _ _ (readL ds) _ fu (ru.below hv1 ru.lt)).mono ?_
      rintro e v2 ⟨r13, rfl, ⟨x13, f13, rfl, hr13, hn13, hf13⟩, hb13⟩
      have hv2 : Below W.heap.size W v2 := hv1.trans (hb13.mono hv1.size)
      rw [HRL.out] at hr13
      obtain ⟨A13, c13, rfl⟩ := hr13.form
      clear hn13 hf13
      refine hK _ _ hv2 ?_
      try simp only [Act.put, List.setIfInBounds_toArray, List.set_cons_zero, List.set_cons_succ]
      -- 14
      refine sched_run (v := ?_) (by rfl) ?_ ?_
      rotate_left
      · (intro w' hS'; go_simp; try with_reducible rfl)
      try simp only [Act.put, List.setIfInBounds_toArray, List.set_cons_zero, List.set_cons_succ]
      -- 16
      refine sched_call (by rfl) (fun K hK => ?_)
      go_simp
      refine (lwBytes_c _ _ _ _ ds _ f13 fd hr13 (rd.below hv2 rd.lt)).mono ?_
      rintro e v3 ⟨rfl, hb16⟩
      have hv3 : Below W.heap.size W v3 := hv2.trans (hb16.mono hv2.size)
      refine hK _ _ hv3 ?_
      try simp only [Act.put, List.setIfInBounds_toArray, List.set_cons_zero, List.set_cons_succ]
      -- 17
      refine sched_run (v := ?_) (by rfl) ?_ ?_
      rotate_left
      · (intro w' hS'; go_simp; try with_reducible rfl)
      try simp only [Act.put, List.setIfInBounds_toArray, List.set_cons_zero, List.set_cons_succ]
      -- 18
      refine sched_run (v := ?_) (by rfl) ?_ ?_
      rotate_left
      · (intro w' hS'; go_simp; try with_reducible rfl)
      try simp only [Act.put, List.setIfInBounds_toArray, List.set_cons_zero, List.set_cons_succ]
      -- 19
      refine sched_run (v := ?_) (by rfl) ?_ ?_
      rotate_left
      · (intro w' hS'; go_simp; try with_reducible rfl)
      try simp only [Act.put, List.setIfInBounds_toArray, List.set_cons_zero, List.set_cons_succ]
      -- 20
      refine sched_run (v := ?_) (by rfl) ?_ ?_
      rotate_left
      · (intro w' hS'; go_simp; try with_reducible rfl)
      try simp only [Act.put, List.setIfInBounds_toArray, List.set_cons_zero, List.set_cons_succ]
      -- 21
      refine sched_run (v := ?_) (by rfl) ?_ ?_
      rotate_left
      · (intro w' hS'; go_simp; try with_reducible rfl)
      try simp only [Act.put, List.setIfInBounds_toArray, List.set_cons_zero, List.set_cons_succ]
      -- 22
      refine sched_run (v := ?_) (by rfl) ?_ ?_
      rotate_left
      · (intro w' hS'; obtain ⟨a0, a1, b0, b1, c0, c1⟩ := HLD.out w' hS'; go_simp; try with_reducible rfl)
      try simp only [Act.put, List.setIfInBounds_toArray, List.set_cons_zero, List.set_cons_succ]
      -- 23
      refine sched_run (v := ?_) (by rfl) ?_ ?_
      rotate_left
      · (intro w' hS'; go_simp; try with_reducible rfl)
      try simp only [Act.put, List.setIfInBounds_toArray, List.set_cons_zero, List.set_cons_succ]
      -- 24
      refine sched_call (by rfl) (fun K hK => ?_)
      go_simp
      refine (specPackNumbers_c _ _ xs _ fx (rx.below hv3 rx.lt)).mono ?_
      rintro e v4 ⟨r24, rfl, ⟨x24, f24, rfl, hr24, hn24, hf24⟩, hb24⟩
      have hv4 : Below W.heap.size W v4 := hv3.trans (hb24.mono hv3.size)
      obtain ⟨A24, c24, rfl⟩ := hr24.form
      clear hn24 hf24
      refine hK _ _ hv4 ?_
      try simp only [Act.put, List.setIfInBounds_toArray, List.set_cons_zero, List.set_cons_succ]
      -- 25
      refine sched_run (v := ?_) (by rfl) ?_ ?_
      rotate_left
      · (intro w' hS'; go_simp; try with_reducible rfl)
      try simp only [Act.put, List.setIfInBounds_toArray, List.set_cons_zero, List.set_cons_succ]
      -- 26
      refine sched_run (v := ?_) (by rfl) ?_ ?_
      rotate_left
      · (intro w' hS'; go_simp; try with_reducible rfl)
      try simp only [Act.put, List.setIfInBounds_toArray, List.set_cons_zero, List.set_cons_succ]
      -- 27
      refine sched_run (v := ?_) (by rfl) ?_ ?_
      rotate_left
      · (intro w' hS'; go_simp; try with_reducible rfl)
      try simp only [Act.put, List.setIfInBounds_toArray, List.set_cons_zero, List.set_cons_succ]
      -- 28
      refine sched_run (v := ?_) (by rfl) ?_ ?_
      rotate_left
      · (intro w' hS'; go_simp; try with_reducible rfl)
      try simp only [Act.put, List.setIfInBounds_toArray, List.set_cons_zero, List.set_cons_succ]
      -- 29
      refine sched_run (v := ?_) (by rfl) ?_ ?_
      rotate_left
      · (intro w' hS'; go_simp; try with_reducible rfl)
      try simp only [Act.put, List.setIfInBounds_toArray, List.set_cons_zero, List.set_cons_succ]
      -- 30
      refine sched_run (v := ?_) (by rfl) ?_ ?_
      rotate_left
      · (intro w' hS'; obtain ⟨a0, a1, b0, b1, c0, c1⟩ := HLD.out w' hS'; go_simp; try with_reducible rfl)
      try simp only [Act.put, List.setIfInBounds_toArray, List.set_cons_zero, List.set_cons_succ]
      -- 31
      refine sched_run (v := ?_) (by rfl) ?_ ?_
      rotate_left
      · (intro w' hS'; go_simp; try with_reducible rfl)
      try simp only [Act.put, List.setIfInBounds_toArray, List.set_cons_zero, List.set_cons_succ]
      -- 32
      refine sched_run (v := ?_) (by rfl) ?_ ?_
      rotate_left
      · (intro w' hS'; go_simp; try with_reducible rfl)
      try simp only [Act.put, List.setIfInBounds_toArray, List.set_cons_zero, List.set_cons_succ]
      -- 33
      refine sched_skip (by rfl) ?_
      try simp only [Act.put, List.setIfInBounds_toArray, List.set_cons_zero, List.set_cons_succ]
      -- 34
      refine sched_skip (by rfl) ?_
      try simp only [Act.put, List.setIfInBounds_toArray, List.set_cons_zero, List.set_cons_succ]
      -- 37
      refine sched_skip (by rfl) ?_
      try simp only [Act.put, List.setIfInBounds_toArray, List.set_cons_zero, List.set_cons_succ]
      -- 35
      refine sched_skip' (by rfl) ?_
      try simp only [Act.put, List.setIfInBounds_toArray, List.set_cons_zero, List.set_cons_succ]
      -- 36
      refine sched_skip (by rfl) ?_
      try simp only [Act.put, List.setIfInBounds_toArray, List.set_cons_zero, List.set_cons_succ]
      -- 38
      refine sched_skip' (by rfl) ?_
      try simp only [Act.put, List.setIfInBounds_toArray, List.set_cons_zero, List.set_cons_succ]
      -- 39
      refine sched_skip (by rfl) ?_
      try simp only [Act.put, List.setIfInBounds_toArray, List.set_cons_zero, List.set_cons_succ]
      -- 40
      refine sched_skip (by rfl) ?_
      try simp only [Act.put, List.setIfInBounds_toArray, List.set_cons_zero, List.set_cons_succ]
      -- 41
      refine sched_skip (by rfl) ?_
      try simp only [Act.put, List.setIfInBounds_toArray, List.set_cons_zero, List.set_cons_succ]
      -- 42
      refine sched_skip (by rfl) ?_
      try simp only [Act.put, List.setIfInBounds_toArray, List.set_cons_zero, List.set_cons_succ]
      -- 43
      refine sched_skip' (by rfl) ?_
      try simp only [Act.put, List.setIfInBounds_toArray, List.set_cons_zero, List.set_cons_succ]
      -- 44
      refine sched_skip (by rfl) ?_
      try simp only [Act.put, List.setIfInBounds_toArray, List.set_cons_zero, List.set_cons_succ]
      -- 45
      refine sched_skip (by rfl) ?_
      try simp only [Act.put, List.setIfInBounds_toArray, List.set_cons_zero, List.set_cons_succ]
      -- 46
      refine sched_skip (by rfl) ?_
      try simp only [Act.put, List.setIfInBounds_toArray, List.set_cons_zero, List.set_cons_succ]
      -- 47
      refine sched_run (v := ?_) (by rfl) ?_ ?_
      rotate_left
      · (intro w' hS'; go_simp; try with_reducible rfl)
      try simp only [Act.put, List.setIfInBounds_toArray, List.set_cons_zero, List.set_cons_succ]
      -- 48
      refine sched_run (v := ?_) (by rfl) ?_ ?_
      rotate_left
      · (intro w' hS'; go_simp; try with_reducible rfl)
      try simp only [Act.put, List.setIfInBounds_toArray, List.set_cons_zero, List.set_cons_succ]
      -- 49
      refine sched_run (v := ?_) (by rfl) ?_ ?_
      rotate_left
      · (intro w' hS'; go_simp; try with_reducible rfl)
      try simp only [Act.put, List.setIfInBounds_toArray, List.set_cons_zero, List.set_cons_succ]
      -- 50
      refine sched_run (v := ?_) (by rfl) ?_ ?_
      rotate_left
      · (intro w' hS'; go_simp; try with_reducible rfl)
      try simp only [Act.put, List.setIfInBounds_toArray, List.set_cons_zero, List.set_cons_succ]
      -- 51
      refine sched_run (v := ?_) (by rfl) ?_ ?_
      rotate_left
      · (intro w' hS'; obtain ⟨a0, a1, b0, b1, c0, c1⟩ := HLD.out w' hS'; go_simp; try with_reducible rfl)
      try simp only [Act.put, List.setIfInBounds_toArray, List.set_cons_zero, List.set_cons_succ]
      -- 52
      refine sched_run (v := ?_) (by rfl) ?_ ?_
      rotate_left
      · (intro w' hS'; go_simp; try with_reducible rfl)
      try simp only [Act.put, List.setIfInBounds_toArray, List.set_cons_zero, List.set_cons_succ]
      -- 53
      refine sched_call (by rfl) (fun K hK => ?_)
      go_simp
      refine (specPutNumber_c n _).mono ?_
      rintro e v5 ⟨r53, rfl, ⟨x53, f53, rfl, hr53, hn53, hf53⟩, hb53⟩
      have hv5 : Below W.heap.size W v5 := hv4.trans (hb53.mono hv4.size)
      obtain ⟨A53, c53, rfl⟩ := hr53.form
      clear hn53 hf53
      refine hK _ _ hv5 ?_
      try simp only [Act.put, List.setIfInBounds_toArray, List.set_cons_zero, List.set_cons_succ]
      -- 54
      refine sched_run (v := ?_) (by rfl) ?_ ?_
      rotate_left
      · (intro w' hS'; go_simp; try with_reducible rfl)
      try simp only [Act.put, List.setIfInBounds_toArray, List.set_cons_zero, List.set_cons_succ]
      -- 55
      refine sched_run (v := ?_) (by rfl) ?_ ?_
      rotate_left
      · (intro w' hS'; go_simp; try with_reducible rfl)
      try simp only [Act.put, List.setIfInBounds_toArray, List.set_cons_zero, List.set_cons_succ]
      -- 56
      refine sched_run (v := ?_) (by rfl) ?_ ?_
      rotate_left
      · (intro w' hS'; go_simp; try with_reducible rfl)
      try simp only [Act.put, List.setIfInBounds_toArray, List.set_cons_zero, List.set_cons_succ]
      -- 57
      refine sched_run (v := ?_) (by rfl) ?_ ?_
      rotate_left
      · (intro w' hS'; go_simp; try with_reducible rfl)
      try simp only [Act.put, List.setIfInBounds_toArray, List.set_cons_zero, List.set_cons_succ]
      -- 58
      refine sched_run (v := ?_) (by rfl) ?_ ?_
      rotate_left
      · (intro w' hS'; go_simp; try with_reducible rfl)
      try simp only [Act.put, List.setIfInBounds_toArray, List.set_cons_zero, List.set_cons_succ]
      -- 59
      refine sched_run (v := ?_) (by rfl) ?_ ?_
      rotate_left
      · (intro w' hS'; obtain ⟨a0, a1, b0, b1, c0, c1⟩ := HLD.out w' hS'; go_simp; try with_reducible rfl)
      try simp only [Act.put, List.setIfInBounds_toArray, List.set_cons_zero, List.set_cons_succ]
      -- 60
      refine sched_run (v := ?_) (by rfl) ?_ ?_
      rotate_left
      · (intro w' hS'; go_simp; try with_reducible rfl)
      try simp only [Act.put, List.setIfInBounds_toArray, List.set_cons_zero, List.set_cons_succ]
      -- 61
      refine sched_run (v := ?_) (by rfl) ?_ ?_
      rotate_left
      · (intro w' hS'; go_simp; try with_reducible rfl)
      try simp only [Act.put, List.setIfInBounds_toArray, List.set_cons_zero, List.set_cons_succ]
      -- 62
      refine sched_run (v := ?_) (by rfl) ?_ ?_
      rotate_left
      · (intro w' hS'; go_simp; try with_reducible rfl)
      try simp only [Act.put, List.setIfInBounds_toArray, List.set_cons_zero, List.set_cons_succ]
      -- 63
      refine sched_run (v := ?_) (by rfl) ?_ ?_
      rotate_left
      · (intro w' hS'; obtain ⟨a0, a1, b0, b1, c0, c1⟩ := HLD.out w' hS'; go_simp; try with_reducible rfl)
      try simp only [Act.put, List.setIfInBounds_toArray, List.set_cons_zero, List.set_cons_succ]
      -- 66
      refine sched_run (v := ?_) (by rfl) ?_ ?_
      rotate_left
      · (intro w' hS'; go_simp; try with_reducible rfl)
      try simp only [Act.put, List.setIfInBounds_toArray, List.set_cons_zero, List.set_cons_succ]
      -- 64
      refine sched_call (by rfl) (fun K hK => ?_)
      go_simp
      refine (implGetNumber_c _ _ (putL n) 0 _ fw (wf_small (by omega) (by omega)) (putL_byt n) (rw_.below hv5 rw_.lt)).mono ?_
      rintro e v6 ⟨rfl, hb64⟩
      have hv6 : Below W.heap.size W v6 := hv5.trans (hb64.mono hv5.size)
      rw [getP_putL Q0.out]
      refine hK _ _ hv6 ?_
      try simp only [Act.put, List.setIfInBounds_toArray, List.set_cons_zero, List.set_cons_succ]
      -- 65
      refine sched_run (v := ?_) (by rfl) ?_ ?_
      rotate_left
      · (intro w' hS'; go_simp; try with_reducible rfl)
      try simp only [Act.put, List.setIfInBounds_toArray, List.set_cons_zero, List.set_cons_succ]
      -- 67
      refine sched_run (v := ?_) (by rfl) ?_ ?_
      rotate_left
      · (intro w' hS'; go_simp; try with_reducible rfl)
      try simp only [Act.put, List.setIfInBounds_toArray, List.set_cons_zero, List.set_cons_succ]
      -- 68
      refine sched_run (v := ?_) (by rfl) ?_ ?_
      rotate_left
      · (intro w' hS'; go_simp; try with_reducible rfl)
      try simp only [Act.put, List.setIfInBounds_toArray, List.set_cons_zero, List.set_cons_succ]
      -- 69
      refine sched_run (v := ?_) (by rfl) ?_ ?_
      rotate_left
      · (intro w' hS'; go_simp; try with_reducible rfl)
      try simp only [Act.put, List.setIfInBounds_toArray, List.set_cons_zero, List.set_cons_succ]
      refine sched_done ?_
      go_wp2_with fail
      refine (implGetNumber_c _ _ bs p _ fb hN.pwf hN.bby (rb.below hv6 rb.lt)).mono ?_
      rintro e v7 ⟨rfl, hbx6⟩
      have hv7 : Below W.heap.size W v7 := hv6.trans (hbx6.mono hv6.size)
      go_wp2_with fail
      refine (specGetNumber_c _ _ bs p _ fb hN.pwf hN.bby (rb.below hv7 rb.lt)).mono ?_
      rintro e v8 ⟨rfl, hbx7⟩
      have hv8 : Below W.heap.size W v8 := hv7.trans (hbx7.mono hv7.size)
      go_wp2_with fail
      refine (implGetNumber_c _ _ bs p _ fb hN.pwf hN.bby (rb.below hv8 rb.lt)).mono ?_
      rintro e v9 ⟨rfl, hbx8⟩
      have hv9 : Below W.heap.size W v9 := hv8.trans (hbx8.mono hv8.size)
      go_wp2_with fail
      refine (specGetNumber_c _ _ bs p _ fb hN.pwf hN.bby (rb.below hv9 rb.lt)).mono ?_
      rintro e v10 ⟨rfl, hbx9⟩
      have hv10 : Below W.heap.size W v10 := hv9.trans (hbx9.mono hv9.size)
      go_wp2
      go_ret
      exact ⟨rfl, hN.bel.trans (hv10.mono hN.bel.size)⟩
    · -- readable, not packed, not short
      have R0 := Lib.hid hr0
      have tr : (readC ds == 0) = true := by simp [hr0]
      have P0 := Lib.hid hp0
      have tp : (packC xs == 0) = false := by simp [hp0]
      have Q0 := Lib.hid hq0
      have tq : (putC n == 0) = false := by simp [hq0]
      clear hr0 hp0 hq0
      have HRC := Lib.hid (pack_read hN.dby R0.out).1; have HRL := Lib.hid (pack_read hN.dby R0.out).2
      refine wp_region_sched (fun w' => Below W.heap.size W w') [(0, true), (1, true), (2, true), (3, false), (4, true), (5, true), (6, true), (7, true), (8, true), (9, true), (10, true), (11, true), (12, true), (15, true), (13, false), (14, true), (16, false), (17, true), (18, true), (19, true), (20, true), (21, true), (22, true), (23, true), (24, false), (25, true), (26, true), (27, true), (28, true), (29, true), (30, true), (31, true), (32, true), (33, true), (34, true), (37, true), (35, false), (36, true), (38, false), (39, true), (40, true), (41, true), (42, true), (43, false), (44, true), (45, true), (46, true), (47, true), (48, true), (49, true), (50, true), (51, true), (52, true), (53, false), (54, true), (55, true), (56, true), (57, true), (58, true), (59, true), (60, true), (61, true), (62, true), (63, true), (66, true), (64, false), (65, true), (67, true), (68, true), (69, true)] (by kernel_rfl) (by kernel_rfl) (by kernel_rfl) (by kernel_rfl) (fun _ _ d _ _ h => by cases d <;> exact h) ⟨rfl, rfl, rfl, Nat.le_refl _, fun _ _ => rfl⟩ ?_
      simp only [opsOf, List.filterMap_cons, List.filterMap_nil, Option.map_some, List.append_eq, List.cons_append, List.nil_append, List.getElem?_toArray, List.getElem?_cons_zero, List.getElem?_cons_succ]
      have hld : ∀ w', Below W.heap.size W w' → w'.cell? ⟨w2.heap.size, 0, none⟩ = some (.int .i64 (readC ds)) ∧ w'.cell? ⟨w2.heap.size, 1, none⟩ = some (.slice Au (readL ds).length cu) ∧ w'.cell? ⟨w4.heap.size, 0, none⟩ = some (.int .i64 (packC xs)) ∧ w'.cell? ⟨w4.heap.size, 1, none⟩ = some (.slice Ap (packL xs).length cp) ∧ w'.cell? ⟨w6.heap.size, 0, none⟩ = some (.int .i64 (putC n)) ∧ w'.cell? ⟨w6.heap.size, 1, none⟩ = some (.slice Aw (putL n).length cw) := fun w' h =>
        ⟨(two_cells h hN.hu (heap_lt hN.hu)).1, (two_cells h hN.hu (heap_lt hN.hu)).2, (two_cells h hN.hp (heap_lt hN.hp)).1, (two_cells h hN.hp (heap_lt hN.hp)).2, (two_cells h hN.hw (heap_lt hN.hw)).1, (two_cells h hN.hw (heap_lt hN.hw)).2⟩
      have HLD := Lib.hid hld; clear hld
      generalize hW0 : ({ heap := W.heap, tape := W.tape, drawn := W.drawn + 1, os := W.os, output := W.output } : World) = v0
      have hv0 : Below W.heap.size W v0 := by rw [← hW0]; exact ⟨rfl, rfl, rfl, Nat.le_refl _, fun _ _ => rfl⟩
      clear hW0
      -- 0
      refine sched_run (v := ?_) (by rfl) ?_ ?_
      rotate_left
      · (intro w' hS'; go_simp; try with_reducible rfl)
      try simp only [Act.put, List.setIfInBounds_toArray, List.set_cons_zero, List.set_cons_succ]
      -- 1
      refine sched_run (v := ?_) (by rfl) ?_ ?_
      rotate_left
      · (intro w' hS'; obtain ⟨a0, a1, b0, b1, c0, c1⟩ := HLD.out w' hS'; go_simp; try with_reducible rfl)
      try simp only [Act.put, List.setIfInBounds_toArray, List.set_cons_zero, List.set_cons_succ]
      -- 2
      refine sched_run (v := ?_) (by rfl) ?_ ?_
      rotate_left
      · (intro w' hS'; go_simp; try with_reducible rfl)
      try simp only [Act.put, List.setIfInBounds_toArray, List.set_cons_zero, List.set_cons_succ]
      -- 3
      refine sched_call (by rfl) (fun K hK => ?_)
      go_simp
      refine (specReadNumbers_c _ _ ds _ fd hN.dby (rd.below hv0 rd.lt)).mono ?_
      rintro e v1 ⟨r3, rfl, ⟨x3, f3, rfl, hr3, hn3, hf3⟩, hb3⟩
      have hv1 : Below W.heap.size W v1 := hv0.trans (hb3.mono hv0.size)
      obtain ⟨A3, c3, rfl⟩ := hr3.form
      clear hn3 hf3
      refine hK _ _ hv1 ?_
      try simp only [Act.put, List.setIfInBounds_toArray, List.set_cons_zero, List.set_cons_succ]
      -- 4
      refine sched_run (v := ?_) (by rfl) ?_ ?_
      rotate_left
      · (intro w' hS'; go_simp; try with_reducible rfl)
      try simp only [Act.put, List.setIfInBounds_toArray, List.set_cons_zero, List.set_cons_succ]
      -- 5
      refine sched_run (v := ?_) (by rfl) ?_ ?_
      rotate_left
      · (intro w' hS'; go_simp; try with_reducible rfl)
      try simp only [Act.put, List.setIfInBounds_toArray, List.set_cons_zero, List.set_cons_succ]
      -- 6
      refine sched_run (v := ?_) (by rfl) ?_ ?_
      rotate_left
      · (intro w' hS'; go_simp; try with_reducible rfl)
      try simp only [Act.put, List.setIfInBounds_toArray, List.set_cons_zero, List.set_cons_succ]
      -- 7
      refine sched_run (v := ?_) (by rfl) ?_ ?_
      rotate_left
      · (intro w' hS'; go_simp; try with_reducible rfl)
      try simp only [Act.put, List.setIfInBounds_toArray, List.set_cons_zero, List.set_cons_succ]
      -- 8
      refine sched_run (v := ?_) (by rfl) ?_ ?_
      rotate_left
      · (intro w' hS'; obtain ⟨a0, a1, b0, b1, c0, c1⟩ := HLD.out w' hS'; go_simp; try with_reducible rfl)
      try simp only [Act.put, List.setIfInBounds_toArray, List.set_cons_zero, List.set_cons_succ]
      -- 9
      refine sched_run (v := ?_) (by rfl) ?_ ?_
      rotate_left
      · (intro w' hS'; go_simp; try with_reducible rfl)
      try simp only [Act.put, List.setIfInBounds_toArray, List.set_cons_zero, List.set_cons_succ]
      -- 10
      refine sched_run (v := ?_) (by rfl) ?_ ?_
      rotate_left
      · (intro w' hS'; go_simp; try with_reducible rfl)
      try simp only [Act.put, List.setIfInBounds_toArray, List.set_cons_zero, List.set_cons_succ]
      -- 11
      refine sched_run (v := ?_) (by rfl) ?_ ?_
      rotate_left
      · (intro w' hS'; go_simp; try with_reducible rfl)
      try simp only [Act.put, List.setIfInBounds_toArray, List.set_cons_zero, List.set_cons_succ]
      -- 12
      refine sched_run (v := ?_) (by rfl) ?_ ?_
      rotate_left
      · (intro w' hS'; obtain ⟨a0, a1, b0, b1, c0, c1⟩ := HLD.out w' hS'; go_simp; try with_reducible rfl)
      try simp only [Act.put, List.setIfInBounds_toArray, List.set_cons_zero, List.set_cons_succ]
      -- 15
      refine sched_run (v := ?_) (by rfl) ?_ ?_
      rotate_left
      · (intro w' hS'; go_simp; try with_reducible rfl)
      try simp only [Act.put, List.setIfInBounds_toArray, List.set_cons_zero, List.set_cons_succ]
      -- 13
      refine sched_call (by rfl) (fun K hK => ?_)
      go_simp
      refine (implPackNumbers_c _ _ (readL ds) _ fu (ru.below hv1 ru.lt)).mono ?_
      rintro e v2 ⟨r13, rfl, ⟨x13, f13, rfl, hr13, hn13, hf13⟩, hb13⟩
      have hv2 : Below W.heap.size W v2 := hv1.trans (hb13.mono hv1.size)
      rw [HRL.out] at hr13
      obtain ⟨A13, c13, rfl⟩ := hr13.form
      clear hn13 hf13
      refine hK _ _ hv2 ?_
      try simp only [Act.put, List.setIfInBounds_toArray, List.set_cons_zero, List.set_cons_succ]
      -- 14
      refine sched_run (v := ?_) (by rfl) ?_ ?_
      rotate_left
      · (intro w' hS'; go_simp; try with_reducible rfl)
      try simp only [Act.put, List.setIfInBounds_toArray, List.set_cons_zero, List.set_cons_succ]
      -- 16
      refine sched_call (by rfl) (fun K hK => ?_)
      go_simp
      refine (lwBytes_c _ _ _ _ ds _ f13 fd hr13 (rd.below hv2 rd.lt)).mono ?_
      rintro e v3 ⟨rfl, hb16⟩
      have hv3 : Below W.heap.size W v3 := hv2.trans (hb16.mono hv2.size)
      refine hK _ _ hv3 ?_
      try simp only [Act.put, List.setIfInBounds_toArray, List.set_cons_zero, List.set_cons_succ]
      -- 17
      refine sched_run (v := ?_) (by rfl) ?_ ?_
      rotate_left
      · (intro w' hS'; go_simp; try with_reducible rfl)
      try simp only [Act.put, List.setIfInBounds_toArray, List.set_cons_zero, List.set_cons_succ]
      -- 18
      refine sched_run (v := ?_) (by rfl) ?_ ?_
      rotate_left
      · (intro w' hS'; go_simp; try with_reducible rfl)
      try simp only [Act.put, List.setIfInBounds_toArray, List.set_cons_zero, List.set_cons_succ]
      -- 19
      refine sched_run (v := ?_) (by rfl) ?_ ?_
      rotate_left
      · (intro w' hS'; go_simp; try with_reducible rfl)
      try simp only [Act.put, List.setIfInBounds_toArray, List.set_cons_zero, List.set_cons_succ]
      -- 20
      refine sched_run (v := ?_) (by rfl) ?_ ?_
      rotate_left
      · (intro w' hS'; go_simp; try with_reducible rfl)
      try simp only [Act.put, List.setIfInBounds_toArray, List.set_cons_zero, List.set_cons_succ]
      -- 21
      refine sched_run (v := ?_) (by rfl) ?_ ?_
      rotate_left
      · (intro w' hS'; go_simp; try with_reducible rfl)
      try simp only [Act.put, List.setIfInBounds_toArray, List.set_cons_zero, List.set_cons_succ]
      -- 22
      refine sched_run (v := ?_) (by rfl) ?_ ?_
      rotate_left
      · (intro w' hS'; obtain ⟨a0, a1, b0, b1, c0, c1⟩ := HLD.out w' hS'; go_simp; try with_reducible rfl)
      try simp only [Act.put, List.setIfInBounds_toArray, List.set_cons_zero, List.set_cons_succ]
      -- 23
      refine sched_run (v := ?_) (by rfl) ?_ ?_
      rotate_left
      · (intro w' hS'; go_simp; try with_reducible rfl)
      try simp only [Act.put, List.setIfInBounds_toArray, List.set_cons_zero, List.set_cons_succ]
      -- 24
      refine sched_call (by rfl) (fun K hK => ?_)
      go_simp
      refine (specPackNumbers_c _ _ xs _ fx (rx.below hv3 rx.lt)).mono ?_
      rintro e v4 ⟨r24, rfl, ⟨x24, f24, rfl, hr24, hn24, hf24⟩, hb24⟩
      have hv4 : Below W.heap.size W v4 := hv3.trans (hb24.mono hv3.size)
      obtain ⟨A24, c24, rfl⟩ := hr24.form
      clear hn24 hf24
      refine hK _ _ hv4 ?_
      try simp only [Act.put, List.setIfInBounds_toArray, List.set_cons_zero, List.set_cons_succ]
      -- 25
      refine sched_run (v := ?_) (by rfl) ?_ ?_
      rotate_left
      · (intro w' hS'; go_simp; try with_reducible rfl)
      try simp only [Act.put, List.setIfInBounds_toArray, List.set_cons_zero, List.set_cons_succ]
      -- 26
      refine sched_run (v := ?_) (by rfl) ?_ ?_
      rotate_left
      · (intro w' hS'; go_simp; try with_reducible rfl)
      try simp only [Act.put, List.setIfInBounds_toArray, List.set_cons_zero, List.set_cons_succ]
      -- 27
      refine sched_run (v := ?_) (by rfl) ?_ ?_
      rotate_left
      · (intro w' hS'; go_simp; try with_reducible rfl)
      try simp only [Act.put, List.setIfInBounds_toArray, List.set_cons_zero, List.set_cons_succ]
      -- 28
      refine sched_run (v := ?_) (by rfl) ?_ ?_
      rotate_left
      · (intro w' hS'; go_simp; try with_reducible rfl)
      try simp only [Act.put, List.setIfInBounds_toArray, List.set_cons_zero, List.set_cons_succ]
      -- 29
      refine sched_run (v := ?_) (by rfl) ?_ ?_
      rotate_left
      · (intro w' hS'; go_simp; try with_reducible rfl)
      try simp only [Act.put, List.setIfInBounds_toArray, List.set_cons_zero, List.set_cons_succ]
      -- 30
      refine sched_run (v := ?_) (by rfl) ?_ ?_
      rotate_left
      · (intro w' hS'; obtain ⟨a0, a1, b0, b1, c0, c1⟩ := HLD.out w' hS'; go_simp; try with_reducible rfl)
      try simp only [Act.put, List.setIfInBounds_toArray, List.set_cons_zero, List.set_cons_succ]
      -- 31
      refine sched_run (v := ?_) (by rfl) ?_ ?_
      rotate_left
      · (intro w' hS'; go_simp; try with_reducible rfl)
      try simp only [Act.put, List.setIfInBounds_toArray, List.set_cons_zero, List.set_cons_succ]
      -- 32
      refine sched_run (v := ?_) (by rfl) ?_ ?_
      rotate_left
      · (intro w' hS'; go_simp; try with_reducible rfl)
      try simp only [Act.put, List.setIfInBounds_toArray, List.set_cons_zero, List.set_cons_succ]
      -- 33
      refine sched_skip (by rfl) ?_
      try simp only [Act.put, List.setIfInBounds_toArray, List.set_cons_zero, List.set_cons_succ]
      -- 34
      refine sched_skip (by rfl) ?_
      try simp only [Act.put, List.setIfInBounds_toArray, List.set_cons_zero, List.set_cons_succ]
      -- 37
      refine sched_skip (by rfl) ?_
      try simp only [Act.put, List.setIfInBounds_toArray, List.set_cons_zero, List.set_cons_succ]
      -- 35
      refine sched_skip' (by rfl) ?_
      try simp only [Act.put, List.setIfInBounds_toArray, List.set_cons_zero, List.set_cons_succ]
      -- 36
      refine sched_skip (by rfl) ?_
      try simp only [Act.put, List.setIfInBounds_toArray, List.set_cons_zero, List.set_cons_succ]
      -- 38
      refine sched_skip' (by rfl) ?_
      try simp only [Act.put, List.setIfInBounds_toArray, List.set_cons_zero, List.set_cons_succ]
      -- 39
      refine sched_skip (by rfl) ?_
      try simp only [Act.put, List.setIfInBounds_toArray, List.set_cons_zero, List.set_cons_succ]
      -- 40
      refine sched_skip (by rfl) ?_
      try simp only [Act.put, List.setIfInBounds_toArray, List.set_cons_zero, List.set_cons_succ]
      -- 41
      refine sched_skip (by rfl) ?_
      try simp only [Act.put, List.setIfInBounds_toArray, List.set_cons_zero, List.set_cons_succ]
      -- 42
      refine sched_skip (by rfl) ?_
      try simp only [Act.put, List.setIfInBounds_toArray, List.set_cons_zero, List.set_cons_succ]
      -- 43
      refine sched_skip' (by rfl) ?_
      try simp only [Act.put, List.setIfInBounds_toArray, List.set_cons_zero, List.set_cons_succ]
      -- 44
      refine sched_skip (by rfl) ?_
      try simp only [Act.put, List.setIfInBounds_toArray, List.set_cons_zero, List.set_cons_succ]
      -- 45
      refine sched_skip (by rfl) ?_
      try simp only [Act.put, List.setIfInBounds_toArray, List.set_cons_zero, List.set_cons_succ]
      -- 46
      refine sched_skip (by rfl) ?_
      try simp only [Act.put, List.setIfInBounds_toArray, List.set_cons_zero, List.set_cons_succ]
      -- 47
      refine sched_run (v := ?_) (by rfl) ?_ ?_
      rotate_left
      · (intro w' hS'; go_simp; try with_reducible rfl)
      try simp only [Act.put, List.setIfInBounds_toArray, List.set_cons_zero, List.set_cons_succ]
      -- 48
      refine sched_run (v := ?_) (by rfl) ?_ ?_
      rotate_left
      · (intro w' hS'; go_simp; try with_reducible rfl)
      try simp only [Act.put, List.setIfInBounds_toArray, List.set_cons_zero, List.set_cons_succ]
      -- 49
      refine sched_run (v := ?_) (by rfl) ?_ ?_
      rotate_left
      · (intro w' hS'; go_simp; try with_reducible rfl)
      try simp only [Act.put, List.setIfInBounds_toArray, List.set_cons_zero, List.set_cons_succ]
      -- 50
      refine sched_run (v := ?_) (by rfl) ?_ ?_
      rotate_left
      · (intro w' hS'; go_simp; try with_reducible rfl)
      try simp only [Act.put, List.setIfInBounds_toArray, List.set_cons_zero, List.set_cons_succ]
      -- 51
      refine sched_run (v := ?_) (by rfl) ?_ ?_
      rotate_left
      · (intro w' hS'; obtain ⟨a0, a1, b0, b1, c0, c1⟩ := HLD.out w' hS'; go_simp; try with_reducible rfl)
      try simp only [Act.put, List.setIfInBounds_toArray, List.set_cons_zero, List.set_cons_succ]
      -- 52
      refine sched_run (v := ?_) (by rfl) ?_ ?_
      rotate_left
      · (intro w' hS'; go_simp; try with_reducible rfl)
      try simp only [Act.put, List.setIfInBounds_toArray, List.set_cons_zero, List.set_cons_succ]
      -- 53
      refine sched_call (by rfl) (fun K hK => ?_)
      go_simp
      refine (specPutNumber_c n _).mono ?_
      rintro e v5 ⟨r53, rfl, ⟨x53, f53, rfl, hr53, hn53, hf53⟩, hb53⟩
      have hv5 : Below W.heap.size W v5 := hv4.trans (hb53.mono hv4.size)
      obtain ⟨A53, c53, rfl⟩ := hr53.form
      clear hn53 hf53
      refine hK _ _ hv5 ?_
      try simp only [Act.put, List.setIfInBounds_toArray, List.set_cons_zero, List.set_cons_succ]
      -- 54
      refine sched_run (v := ?_) (by rfl) ?_ ?_
      rotate_left
      · (intro w' hS'; go_simp; try with_reducible rfl)
      try simp only [Act.put, List.setIfInBounds_toArray, List.set_cons_zero, List.set_cons_succ]
      -- 55
      refine sched_run (v := ?_) (by rfl) ?_ ?_
      rotate_left
      · (intro w' hS'; go_simp; try with_reducible rfl)
      try simp only [Act.put, List.setIfInBounds_toArray, List.set_cons_zero, List.set_cons_succ]
      -- 56
      refine sched_run (v := ?_) (by rfl) ?_ ?_
      rotate_left
      · (intro w' hS'; go_simp; try with_reducible rfl)
      try simp only [Act.put, List.setIfInBounds_toArray, List.set_cons_zero, List.set_cons_succ]
      -- 57
      refine sched_run (v := ?_) (by rfl) ?_ ?_
      rotate_left
      · (intro w' hS'; go_simp; try with_reducible rfl)
      try simp only [Act.put, List.setIfInBounds_toArray, List.set_cons_zero, List.set_cons_succ]
      -- 58
      refine sched_run (v := ?_) (by rfl) ?_ ?_
      rotate_left
      · (intro w' hS'; go_simp; try with_reducible rfl)
      try simp only [Act.put, List.setIfInBounds_toArray, List.set_cons_zero, List.set_cons_succ]
      -- 59
      refine sched_run (v := ?_) (by rfl) ?_ ?_
      rotate_left
      · (intro w' hS'; obtain ⟨a0, a1, b0, b1, c0, c1⟩ := HLD.out w' hS'; go_simp; try with_reducible rfl)
      try simp only [Act.put, List.setIfInBounds_toArray, List.set_cons_zero, List.set_cons_succ]
      -- 60
      refine sched_run (v := ?_) (by rfl) ?_ ?_
      rotate_left
      · (intro w' hS'; go_simp; try with_reducible rfl)
      try simp only [Act.put, List.setIfInBounds_toArray, List.set_cons_zero, List.set_cons_succ]
      -- 61
      refine sched_run (v := ?_) (by rfl) ?_ ?_
      rotate_left
      · (intro w' hS'; go_simp; try with_reducible rfl)
      try simp only [Act.put, List.setIfInBounds_toArray, List.set_cons_zero, List.set_cons_succ]
      -- 62
      refine sched_skip (by rfl) ?_
      try simp only [Act.put, List.setIfInBounds_toArray, List.set_cons_zero, List.set_cons_succ]
      -- 63
      refine sched_skip (by rfl) ?_
      try simp only [Act.put, List.setIfInBounds_toArray, List.set_cons_zero, List.set_cons_succ]
      -- 66
      refine sched_skip (by rfl) ?_
      try simp only [Act.put, List.setIfInBounds_toArray, List.set_cons_zero, List.set_cons_succ]
      -- 64
      refine sched_skip' (by rfl) ?_
      try simp only [Act.put, List.setIfInBounds_toArray, List.set_cons_zero, List.set_cons_succ]
      -- 65
      refine sched_skip (by rfl) ?_
      try simp only [Act.put, List.setIfInBounds_toArray, List.set_cons_zero, List.set_cons_succ]
      -- 67
      refine sched_skip (by rfl) ?_
      try simp only [Act.put, List.setIfInBounds_toArray, List.set_cons_zero, List.set_cons_succ]
      -- 68
      refine sched_run (v := ?_) (by rfl) ?_ ?_
      rotate_left
      · (intro w' hS'; go_simp; try with_reducible rfl)
      try simp only [Act.put, List.setIfInBounds_toArray, List.set_cons_zero, List.set_cons_succ]
      -- 69
      refine sched_run (v := ?_) (by rfl) ?_ ?_
      rotate_left
      · (intro w' hS'; go_simp; try with_reducible rfl)
      try simp only [Act.put, List.setIfInBounds_toArray, List.set_cons_zero, List.set_cons_succ]
      refine sched_done ?_
      go_wp2_with fail
      refine (implGetNumber_c _ _ bs p _ fb hN.pwf hN.bby (rb.below hv5 rb.lt)).mono ?_
      rintro e v6 ⟨rfl, hbx5⟩
      have hv6 : Below W.heap.size W v6 := hv5.trans (hbx5.mono hv5.size)
      go_wp2_with fail
      refine (specGetNumber_c _ _ bs p _ fb hN.pwf hN.bby (rb.below hv6 rb.lt)).mono ?_
      rintro e v7 ⟨rfl, hbx6⟩
      have hv7 : Below W.heap.size W v7 := hv6.trans (hbx6.mono hv6.size)
      go_wp2_with fail
      refine (implGetNumber_c _ _ bs p _ fb hN.pwf hN.bby (rb.below hv7 rb.lt)).mono ?_
      rintro e v8 ⟨rfl, hbx7⟩
      have hv8 : Below W.heap.size W v8 := hv7.trans (hbx7.mono hv7.size)
      go_wp2_with fail
      refine (specGetNumber_c _ _ bs p _ fb hN.pwf hN.bby (rb.below hv8 rb.lt)).mono ?_
      rintro e v9 ⟨rfl, hbx8⟩
      have hv9 : Below W.heap.size W v9 := hv8.trans (hbx8.mono hv8.size)
      go_wp2
      go_ret
      exact ⟨rfl, hN.bel.trans (hv9.mono hN.bel.size)⟩
    · -- not readable, packed, short
      have R0 := Lib.hid hr0
      have tr : (readC ds == 0) = false := by simp [hr0]
      have P0 := Lib.hid hp0
      have tp : (packC xs == 0) = true := by simp [hp0]
      have Q0 := Lib.hid hq0
      have tq : (putC n == 0) = true := by simp [hq0]
      clear hr0 hp0 hq0
      have HPC := Lib.hid (read_pack P0.out).1; have HPL := Lib.hid (read_pack P0.out).2
      refine wp_region_sched (fun w' => Below W.heap.size W w') [(0, true), (1, true), (2, true), (3, false), (4, true), (5, true), (6, true), (7, true), (8, true), (9, true), (10, true), (11, true), (12, true), (15, true), (13, false), (14, true), (16, false), (17, true), (18, true), (19, true), (20, true), (21, true), (22, true), (23, true), (24, false), (25, true), (26, true), (27, true), (28, true), (29, true), (30, true), (31, true), (32, true), (33, true), (34, true), (37, true), (35, false), (36, true), (38, false), (39, true), (40, true), (41, true), (42, true), (43, false), (44, true), (45, true), (46, true), (47, true), (48, true), (49, true), (50, true), (51, true), (52, true), (53, false), (54, true), (55, true), (56, true), (57, true), (58, true), (59, true), (60, true), (61, true), (62, true), (63, true), (66, true), (64, false), (65, true), (67, true), (68, true), (69, true)] (by kernel_rfl) (by kernel_rfl) (by kernel_rfl) (by kernel_rfl) (fun _ _ d _ _ h => by cases d <;> exact h) ⟨rfl, rfl, rfl, Nat.le_refl _, fun _ _ => rfl⟩ ?_
      simp only [opsOf, List.filterMap_cons, List.filterMap_nil, Option.map_some, List.append_eq, List.cons_append, List.nil_append, List.getElem?_toArray, List.getElem?_cons_zero, List.getElem?_cons_succ]
      have hld : ∀ w', Below W.heap.size W w' → w'.cell? ⟨w2.heap.size, 0, none⟩ = some (.int .i64 (readC ds)) ∧ w'.cell? ⟨w2.heap.size, 1, none⟩ = some (.slice Au (readL ds).length cu) ∧ w'.cell? ⟨w4.heap.size, 0, none⟩ = some (.int .i64 (packC xs)) ∧ w'.cell? ⟨w4.heap.size, 1, none⟩ = some (.slice Ap (packL xs).length cp) ∧ w'.cell? ⟨w6.heap.size, 0, none⟩ = some (.int .i64 (putC n)) ∧ w'.cell? ⟨w6.heap.size, 1, none⟩ = some (.slice Aw (putL n).length cw) := fun w' h =>
        ⟨(two_cells h hN.hu (heap_lt hN.hu)).1, (two_cells h hN.hu (heap_lt hN.hu)).2, (two_cells h hN.hp (heap_lt hN.hp)).1, (two_cells h hN.hp (heap_lt hN.hp)).2, (two_cells h hN.hw (heap_lt hN.hw)).1, (two_cells h hN.hw (heap_lt hN.hw)).2⟩
      have HLD := Lib.hid hld; clear hld
      generalize hW0 : ({ heap := W.heap, tape := W.tape, drawn := W.drawn + 1, os := W.os, output := W.output } : World) = v0
      have hv0 : Below W.heap.size W v0 := by rw [← hW0]; exact ⟨rfl, rfl, rfl, Nat.le_refl _, fun _ _ => rfl⟩
      clear hW0
      -- 0
      refine sched_run (v := ?_) (by rfl) ?_ ?_
      rotate_left
      · (intro w' hS'; go_simp; try with_reducible rfl)
      try simp only [Act.put, List.setIfInBounds_toArray, List.set_cons_zero, List.set_cons_succ]
      -- 1
      refine sched_run (v := ?_) (by rfl) ?_ ?_
      rotate_left
      · (intro w' hS'; obtain ⟨a0, a1, b0, b1, c0, c1⟩ := HLD.out w' hS'; go_simp; try with_reducible rfl)
      try simp only [Act.put, List.setIfInBounds_toArray, List.set_cons_zero, List.set_cons_succ]
      -- 2
      refine sched_run (v := ?_) (by rfl) ?_ ?_
      rotate_left
      · (intro w' hS'; go_simp; try with_reducible rfl)
      try simp only [Act.put, List.setIfInBounds_toArray, List.set_cons_zero, List.set_cons_succ]
      -- 3
      refine sched_call (by rfl) (fun K hK => ?_)
      go_simp
      refine (specReadNumbers_c _ _ ds _ fd hN.dby (rd.below hv0 rd.lt)).mono ?_
      rintro e v1 ⟨r3, rfl, ⟨x3, f3, rfl, hr3, hn3, hf3⟩, hb3⟩
      have hv1 : Below W.heap.size W v1 := hv0.trans (hb3.mono hv0.size)
      obtain ⟨A3, c3, rfl⟩ := hr3.form
      clear hn3 hf3
      refine hK _ _ hv1 ?_
      try simp only [Act.put, List.setIfInBounds_toArray, List.set_cons_zero, List.set_cons_succ]
      -- 4
      refine sched_run (v := ?_) (by rfl) ?_ ?_
      rotate_left
      · (intro w' hS'; go_simp; try with_reducible rfl)
      try simp only [Act.put, List.setIfInBounds_toArray, List.set_cons_zero, List.set_cons_succ]
      -- 5
      refine sched_run (v := ?_) (by rfl) ?_ ?_
      rotate_left
      · (intro w' hS'; go_simp; try with_reducible rfl)
      try simp only [Act.put, List.setIfInBounds_toArray, List.set_cons_zero, List.set_cons_succ]
      -- 6
      refine sched_run (v := ?_) (by rfl) ?_ ?_
      rotate_left
      · (intro w' hS'; go_simp; try with_reducible rfl)
      try simp only [Act.put, List.setIfInBounds_toArray, List.set_cons_zero, List.set_cons_succ]
      -- 7
      refine sched_run (v := ?_) (by rfl) ?_ ?_
      rotate_left
      · (intro w' hS'; go_simp; try with_reducible rfl)
      try simp only [Act.put, List.setIfInBounds_toArray, List.set_cons_zero, List.set_cons_succ]
      -- 8
      refine sched_run (v := ?_) (by rfl) ?_ ?_
      rotate_left
      · (intro w' hS'; obtain ⟨a0, a1, b0, b1, c0, c1⟩ := HLD.out w' hS'; go_simp; try with_reducible rfl)
      try simp only [Act.put, List.setIfInBounds_toArray, List.set_cons_zero, List.set_cons_succ]
      -- 9
      refine sched_run (v := ?_) (by rfl) ?_ ?_
      rotate_left
      · (intro w' hS'; go_simp; try with_reducible rfl)
      try simp only [Act.put, List.setIfInBounds_toArray, List.set_cons_zero, List.set_cons_succ]
      -- 10
      refine sched_run (v := ?_) (by rfl) ?_ ?_
      rotate_left
      · (intro w' hS'; go_simp; try with_reducible rfl)
      try simp only [Act.put, List.setIfInBounds_toArray, List.set_cons_zero, List.set_cons_succ]
      -- 11
      refine sched_skip (by rfl) ?_
      try simp only [Act.put, List.setIfInBounds_toArray, List.set_cons_zero, List.set_cons_succ]
      -- 12
      refine sched_skip (by rfl) ?_
      try simp only [Act.put, List.setIfInBounds_toArray, List.set_cons_zero, List.set_cons_succ]
      -- 15
      refine sched_skip (by rfl) ?_
      try simp only [Act.put, List.setIfInBounds_toArray, List.set_cons_zero, List.set_cons_succ]
      -- 13
      refine sched_skip' (by rfl) ?_
      try simp only [Act.put, List.setIfInBounds_toArray, List.set_cons_zero, List.set_cons_succ]
      -- 14
      refine sched_skip (by rfl) ?_
      try simp only [Act.put, List.setIfInBounds_toArray, List.set_cons_zero, List.set_cons_succ]
      -- 16
      refine sched_skip' (by rfl) ?_
      try simp only [Act.put, List.setIfInBounds_toArray, List.set_cons_zero, List.set_cons_succ]
      -- 17
      refine sched_skip (by rfl) ?_
      try simp only [Act.put, List.setIfInBounds_toArray, List.set_cons_zero, List.set_cons_succ]
      -- 18
      refine sched_run (v := ?_) (by rfl) ?_ ?_
      rotate_left
      · (intro w' hS'; go_simp; try with_reducible rfl)
      try simp only [Act.put, List.setIfInBounds_toArray, List.set_cons_zero, List.set_cons_succ]
      -- 19
      refine sched_run (v := ?_) (by rfl) ?_ ?_
      rotate_left
      · (intro w' hS'; go_simp; try with_reducible rfl)
      try simp only [Act.put, List.setIfInBounds_toArray, List.set_cons_zero, List.set_cons_succ]
      -- 20
      refine sched_run (v := ?_) (by rfl) ?_ ?_
      rotate_left
      · (intro w' hS'; go_simp; try with_reducible rfl)
      try simp only [Act.put, List.setIfInBounds_toArray, List.set_cons_zero, List.set_cons_succ]
      -- 21
      refine sched_run (v := ?_) (by rfl) ?_ ?_
      rotate_left
      · (intro w' hS'; go_simp; try with_reducible rfl)
      try simp only [Act.put, List.setIfInBounds_toArray, List.set_cons_zero, List.set_cons_succ]
      -- 22
      refine sched_run (v := ?_) (by rfl) ?_ ?_
      rotate_left
      · (intro w' hS'; obtain ⟨a0, a1, b0, b1, c0, c1⟩ := HLD.out w' hS'; go_simp; try with_reducible rfl)
      try simp only [Act.put, List.setIfInBounds_toArray, List.set_cons_zero, List.set_cons_succ]
      -- 23
      refine sched_run (v := ?_) (by rfl) ?_ ?_
      rotate_left
      · (intro w' hS'; go_simp; try with_reducible rfl)
      try simp only [Act.put, List.setIfInBounds_toArray, List.set_cons_zero, List.set_cons_succ]
      -- 24
      refine sched_call (by rfl) (fun K hK => ?_)
      go_simp
      refine (specPackNumbers_c _ _ xs _ fx (rx.below hv1 rx.lt)).mono ?_
      rintro e v2 ⟨r24, rfl, ⟨x24, f24, rfl, hr24, hn24, hf24⟩, hb24⟩
      have hv2 : Below W.heap.size W v2 := hv1.trans (hb24.mono hv1.size)
      obtain ⟨A24, c24, rfl⟩ := hr24.form
      clear hn24 hf24
      refine hK _ _ hv2 ?_
      try simp only [Act.put, List.setIfInBounds_toArray, List.set_cons_zero, List.set_cons_succ]
      -- 25
      refine sched_run (v := ?_) (by rfl) ?_ ?_
      rotate_left
      · (intro w' hS'; go_simp; try with_reducible rfl)
      try simp only [Act.put, List.setIfInBounds_toArray, List.set_cons_zero, List.set_cons_succ]
      -- 26
      refine sched_run (v := ?_) (by rfl) ?_ ?_
      rotate_left
      · (intro w' hS'; go_simp; try with_reducible rfl)
      try simp only [Act.put, List.setIfInBounds_toArray, List.set_cons_zero, List.set_cons_succ]
      -- 27
      refine sched_run (v := ?_) (by rfl) ?_ ?_
      rotate_left
      · (intro w' hS'; go_simp; try with_reducible rfl)
      try simp only [Act.put, List.setIfInBounds_toArray, List.set_cons_zero, List.set_cons_succ]
      -- 28
      refine sched_run (v := ?_) (by rfl) ?_ ?_
      rotate_left
      · (intro w' hS'; go_simp; try with_reducible rfl)
      try simp only [Act.put, List.setIfInBounds_toArray, List.set_cons_zero, List.set_cons_succ]
      -- 29
      refine sched_run (v := ?_) (by rfl) ?_ ?_
      rotate_left
      · (intro w' hS'; go_simp; try with_reducible rfl)
      try simp only [Act.put, List.setIfInBounds_toArray, List.set_cons_zero, List.set_cons_succ]
      -- 30
      refine sched_run (v := ?_) (by rfl) ?_ ?_
      rotate_left
      · (intro w' hS'; obtain ⟨a0, a1, b0, b1, c0, c1⟩ := HLD.out w' hS'; go_simp; try with_reducible rfl)
      try simp only [Act.put, List.setIfInBounds_toArray, List.set_cons_zero, List.set_cons_succ]
      -- 31
      refine sched_run (v := ?_) (by rfl) ?_ ?_
      rotate_left
      · (intro w' hS'; go_simp; try with_reducible rfl)
      try simp only [Act.put, List.setIfInBounds_toArray, List.set_cons_zero, List.set_cons_succ]
      -- 32
      refine sched_run (v := ?_) (by rfl) ?_ ?_
      rotate_left
      · (intro w' hS'; go_simp; try with_reducible rfl)
      try simp only [Act.put, List.setIfInBounds_toArray, List.set_cons_zero, List.set_cons_succ]
      -- 33
      refine sched_run (v := ?_) (by rfl) ?_ ?_
      rotate_left
      · (intro w' hS'; go_simp; try with_reducible rfl)
      try simp only [Act.put, List.setIfInBounds_toArray, List.set_cons_zero, List.set_cons_succ]
      -- 34
      refine sched_run (v := ?_) (by rfl) ?_ ?_
      rotate_left
      · (intro w' hS'; obtain ⟨a0, a1, b0, b1, c0, c1⟩ := HLD.out w' hS'; go_simp; try with_reducible rfl)
      try simp only [Act.put, List.setIfInBounds_toArray, List.set_cons_zero, List.set_cons_succ]
      -- 37
      refine sched_run (v := ?_) (by rfl) ?_ ?_
      rotate_left
      · (intro w' hS'; go_simp; try with_reducible rfl)
      try simp only [Act.put, List.setIfInBounds_toArray, List.set_cons_zero, List.set_cons_succ]
      -- 35
      refine sched_call (by rfl) (fun K hK => ?_)
      go_simp
      refine (implReadNumbers_c _ _ (packL xs) _ fp2 (packL_byt P0.out) (rp.below hv2 rp.lt)).mono ?_
      rintro e v3 ⟨r35, rfl, ⟨x35, f35, rfl, hr35, hn35, hf35⟩, hb35⟩
      have hv3 : Below W.heap.size W v3 := hv2.trans (hb35.mono hv2.size)
      rw [HPL.out] at hr35
      obtain ⟨A35, c35, rfl⟩ := hr35.form
      clear hn35 hf35
      refine hK _ _ hv3 ?_
      try simp only [Act.put, List.setIfInBounds_toArray, List.set_cons_zero, List.set_cons_succ]
      -- 36
      refine sched_run (v := ?_) (by rfl) ?_ ?_
      rotate_left
      · (intro w' hS'; go_simp; try with_reducible rfl)
      try simp only [Act.put, List.setIfInBounds_toArray, List.set_cons_zero, List.set_cons_succ]
      -- 38
      refine sched_call (by rfl) (fun K hK => ?_)
      go_simp
      refine (lwNums_c _ _ _ _ xs _ f35 fx hr35 (rx.below hv3 rx.lt)).mono ?_
      rintro e v4 ⟨rfl, hb38⟩
      have hv4 : Below W.heap.size W v4 := hv3.trans (hb38.mono hv3.size)
      refine hK _ _ hv4 ?_
      try simp only [Act.put, List.setIfInBounds_toArray, List.set_cons_zero, List.set_cons_succ]
      -- 39
      refine sched_run (v := ?_) (by rfl) ?_ ?_
      rotate_left
      · (intro w' hS'; go_simp; try with_reducible rfl)
      try simp only [Act.put, List.setIfInBounds_toArray, List.set_cons_zero, List.set_cons_succ]
      -- 40
      refine sched_run (v := ?_) (by rfl) ?_ ?_
      rotate_left
      · (intro w' hS'; go_simp; try with_reducible rfl)
      try simp only [Act.put, List.setIfInBounds_toArray, List.set_cons_zero, List.set_cons_succ]
      -- 41
      refine sched_run (v := ?_) (by rfl) ?_ ?_
      rotate_left
      · (intro w' hS'; go_simp; try with_reducible rfl)
      try simp only [Act.put, List.setIfInBounds_toArray, List.set_cons_zero, List.set_cons_succ]
      -- 42
      refine sched_run (v := ?_) (by rfl) ?_ ?_
      rotate_left
      · (intro w' hS'; obtain ⟨a0, a1, b0, b1, c0, c1⟩ := HLD.out w' hS'; go_simp; try with_reducible rfl)
      try simp only [Act.put, List.setIfInBounds_toArray, List.set_cons_zero, List.set_cons_succ]
      -- 43
      refine sched_call (by rfl) (fun K hK => ?_)
      go_simp
      refine (implReadNumbers_c _ _ (packL xs) _ fp2 (packL_byt P0.out) (rp.below hv4 rp.lt)).mono ?_
      rintro e v5 ⟨r43, rfl, ⟨x43, f43, rfl, hr43, hn43, hf43⟩, hb43⟩
      have hv5 : Below W.heap.size W v5 := hv4.trans (hb43.mono hv4.size)
      rw [HPC.out]
      obtain ⟨A43, c43, rfl⟩ := hr43.form
      clear hn43 hf43
      refine hK _ _ hv5 ?_
      try simp only [Act.put, List.setIfInBounds_toArray, List.set_cons_zero, List.set_cons_succ]
      -- 44
      refine sched_run (v := ?_) (by rfl) ?_ ?_
      rotate_left
      · (intro w' hS'; go_simp; try with_reducible rfl)
      try simp only [Act.put, List.setIfInBounds_toArray, List.set_cons_zero, List.set_cons_succ]
      -- 45
      refine sched_run (v := ?_) (by rfl) ?_ ?_
      rotate_left
      · (intro w' hS'; go_simp; try with_reducible rfl)
      try simp only [Act.put, List.setIfInBounds_toArray, List.set_cons_zero, List.set_cons_succ]
      -- 46
      refine sched_run (v := ?_) (by rfl) ?_ ?_
      rotate_left
      · (intro w' hS'; go_simp; try with_reducible rfl)
      try simp only [Act.put, List.setIfInBounds_toArray, List.set_cons_zero, List.set_cons_succ]
      -- 47
      refine sched_run (v := ?_) (by rfl) ?_ ?_
      rotate_left
      · (intro w' hS'; go_simp; try with_reducible rfl)
      try simp only [Act.put, List.setIfInBounds_toArray, List.set_cons_zero, List.set_cons_succ]
      -- 48
      refine sched_run (v := ?_) (by rfl) ?_ ?_
      rotate_left
      · (intro w' hS'; go_simp; try with_reducible rfl)
      try simp only [Act.put, List.setIfInBounds_toArray, List.set_cons_zero, List.set_cons_succ]
      -- 49
      refine sched_run (v := ?_) (by rfl) ?_ ?_
      rotate_left
      · (intro w' hS'; go_simp; try with_reducible rfl)
      try simp only [Act.put, List.setIfInBounds_toArray, List.set_cons_zero, List.set_cons_succ]
      -- 50
      refine sched_run (v := ?_) (by rfl) ?_ ?_
      rotate_left
      · (intro w' hS'; go_simp; try with_reducible rfl)
      try simp only [Act.put, List.setIfInBounds_toArray, List.set_cons_zero, List.set_cons_succ]
      -- 51
      refine sched_run (v := ?_) (by rfl) ?_ ?_
      rotate_left
      · (intro w' hS'; obtain ⟨a0, a1, b0, b1, c0, c1⟩ := HLD.out w' hS'; go_simp; try with_reducible rfl)
      try simp only [Act.put, List.setIfInBounds_toArray, List.set_cons_zero, List.set_cons_succ]
      -- 52
      refine sched_run (v := ?_) (by rfl) ?_ ?_
      rotate_left
      · (intro w' hS'; go_simp; try with_reducible rfl)
      try simp only [Act.put, List.setIfInBounds_toArray, List.set_cons_zero, List.set_cons_succ]
      -- 53
      refine sched_call (by rfl) (fun K hK => ?_)
      go_simp
      refine (specPutNumber_c n _).mono ?_
      rintro e v6 ⟨r53, rfl, ⟨x53, f53, rfl, hr53, hn53, hf53⟩, hb53⟩
      have hv6 : Below W.heap.size W v6 := hv5.trans (hb53.mono hv5.size)
      obtain ⟨A53, c53, rfl⟩ := hr53.form
      clear hn53 hf53
      refine hK _ _ hv6 ?_
      try simp only [Act.put, List.setIfInBounds_toArray, List.set_cons_zero, List.set_cons_succ]
      -- 54
      refine sched_run (v := ?_) (by rfl) ?_ ?_
      rotate_left
      · (intro w' hS'; go_simp; try with_reducible rfl)
      try simp only [Act.put, List.setIfInBounds_toArray, List.set_cons_zero, List.set_cons_succ]
      -- 55
      refine sched_run (v := ?_) (by rfl) ?_ ?_
      rotate_left
      · (intro w' hS'; go_simp; try with_reducible rfl)
      try simp only [Act.put, List.setIfInBounds_toArray, List.set_cons_zero, List.set_cons_succ]
      -- 56
      refine sched_run (v := ?_) (by rfl) ?_ ?_
      rotate_left
      · (intro w' hS'; go_simp; try with_reducible rfl)
      try simp only [Act.put, List.setIfInBounds_toArray, List.set_cons_zero, List.set_cons_succ]
      -- 57
      refine sched_run (v := ?_) (by rfl) ?_ ?_
      rotate_left
      · (intro w' hS'; go_simp; try with_reducible rfl)
      try simp only [Act.put, List.setIfInBounds_toArray, List.set_cons_zero, List.set_cons_succ]
      -- 58
      refine sched_run (v := ?_) (by rfl) ?_ ?_
      rotate_left
      · (intro w' hS'; go_simp; try with_reducible rfl)
      try simp only [Act.put, List.setIfInBounds_toArray, List.set_cons_zero, List.set_cons_succ]
      -- 59
      refine sched_run (v := ?_) (by rfl) ?_ ?_
      rotate_left
      · (intro w' hS'; obtain ⟨a0, a1, b0, b1, c0, c1⟩ := HLD.out w' hS'; go_simp; try with_reducible rfl)
      try simp only [Act.put, List.setIfInBounds_toArray, List.set_cons_zero, List.set_cons_succ]
      -- 60
      refine sched_run (v := ?_) (by rfl) ?_ ?_
      rotate_left
      · (intro w' hS'; go_simp; try with_reducible rfl)
      try simp only [Act.put, List.setIfInBounds_toArray, List.set_cons_zero, List.set_cons_succ]
      -- 61
      refine sched_run (v := ?_) (by rfl) ?_ ?_
      rotate_left
      · (intro w' hS'; go_simp; try with_reducible rfl)
      try simp only [Act.put, List.setIfInBounds_toArray, List.set_cons_zero, List.set_cons_succ]
      -- 62
      refine sched_run (v := ?_) (by rfl) ?_ ?_
      rotate_left
      · (intro w' hS'; go_simp; try with_reducible rfl)
      try simp only [Act.put, List.setIfInBounds_toArray, List.set_cons_zero, List.set_cons_succ]
      -- 63
      refine sched_run (v := ?_) (by rfl) ?_ ?_
      rotate_left
      · (intro w' hS'; obtain ⟨a0, a1, b0, b1, c0, c1⟩ := HLD.out w' hS'; go_simp; try with_reducible rfl)
      try simp only [Act.put, List.setIfInBounds_toArray, List.set_cons_zero, List.set_cons_succ]
      -- 66
      refine sched_run (v := ?_) (by rfl) ?_ ?_
      rotate_left
      · (intro w' hS'; go_simp; try with_reducible rfl)
      try simp only [Act.put, List.setIfInBounds_toArray, List.set_cons_zero, List.set_cons_succ]
      -- 64
      refine sched_call (by rfl) (fun K hK => ?_)
      go_simp
      refine (implGetNumber_c _ _ (putL n) 0 _ fw (wf_small (by omega) (by omega)) (putL_byt n) (rw_.below hv6 rw_.lt)).mono ?_
      rintro e v7 ⟨rfl, hb64⟩
      have hv7 : Below W.heap.size W v7 := hv6.trans (hb64.mono hv6.size)
      rw [getP_putL Q0.out]
      refine hK _ _ hv7 ?_
      try simp only [Act.put, List.setIfInBounds_toArray, List.set_cons_zero, List.set_cons_succ]
      -- 65
      refine sched_run (v := ?_) (by rfl) ?_ ?_
      rotate_left
      · (intro w' hS'; go_simp; try with_reducible rfl)
      try simp only [Act.put, List.setIfInBounds_toArray, List.set_cons_zero, List.set_cons_succ]
      -- 67
      refine sched_run (v := ?_) (by rfl) ?_ ?_
      rotate_left
      · (intro w' hS'; go_simp; try with_reducible rfl)
      try simp only [Act.put, List.setIfInBounds_toArray, List.set_cons_zero, List.set_cons_succ]
      -- 68
      refine sched_run (v := ?_) (by rfl) ?_ ?_
      rotate_left
      · (intro w' hS'; go_simp; try with_reducible rfl)
      try simp only [Act.put, List.setIfInBounds_toArray, List.set_cons_zero, List.set_cons_succ]
      -- 69
      refine sched_run (v := ?_) (by rfl) ?_ ?_
      rotate_left
      · (intro w' hS'; go_simp; try with_reducible rfl)
      try simp only [Act.put, List.setIfInBounds_toArray, List.set_cons_zero, List.set_cons_succ]
      refine sched_done ?_
      go_wp2_with fail
      refine (implGetNumber_c _ _ bs p _ fb hN.pwf hN.bby (rb.below hv7 rb.lt)).mono ?_
      rintro e v8 ⟨rfl, hbx7⟩
      have hv8 : Below W.heap.size W v8 := hv7.trans (hbx7.mono hv7.size)
      go_wp2_with fail
      refine (specGetNumber_c _ _ bs p _ fb hN.pwf hN.bby (rb.below hv8 rb.lt)).mono ?_
      rintro e v9 ⟨rfl, hbx8⟩
      have hv9 : Below W.heap.size W v9 := hv8.trans (hbx8.mono hv8.size)
      go_wp2_with fail
      refine (implGetNumber_c _ _ bs p _ fb hN.pwf hN.bby (rb.below hv9 rb.lt)).mono ?_
      rintro e v10 ⟨rfl, hbx9⟩
      have hv10 : Below W.heap.size W v10 := hv9.trans (hbx9.mono hv9.size)
      go_wp2_with fail
      refine (specGetNumber_c _ _ bs p _ fb hN.pwf hN.bby (rb.below hv10 rb.lt)).mono ?_
      rintro e v11 ⟨rfl, hbx10⟩
      have hv11 : Below W.heap.size W v11 := hv10.trans (hbx10.mono hv10.size)
      go_wp2
      go_ret
      exact ⟨rfl, hN.bel.trans (hv11.mono hN.bel.size)⟩
    · -- not readable, packed, not short
      have R0 := Lib.hid hr0
      have tr : (readC ds == 0) = false := by simp [hr0]
      have P0 := Lib.hid hp0
      have tp : (packC xs == 0) = true := by simp [hp0]
      have Q0 := Lib.hid hq0
      have tq : (putC n == 0) = false := by simp [hq0]
      clear hr0 hp0 hq0
      have HPC := Lib.hid (read_pack P0.out).1; have HPL := Lib.hid (read_pack P0.out).2
      refine wp_region_sched (fun w' => Below W.heap.size W w') [(0, true), (1, true), (2, true), (3, false), (4, true), (5, true), (6, true), (7, true), (8, true), (9, true), (10, true), (11, true), (12, true), (15, true), (13, false), (14, true), (16, false), (17, true), (18, true), (19, true), (20, true), (21, true), (22, true), (23, true), (24, false), (25, true), (26, true), (27, true), (28, true), (29, true), (30, true), (31, true), (32, true), (33, true), (34, true), (37, true), (35, false), (36, true), (38, false), (39, true), (40, true), (41, true), (42, true), (43, false), (44, true), (45, true), (46, true), (47, true), (48, true), (49, true), (50, true), (51, true), (52, true), (53, false), (54, true), (55, true), (56, true), (57, true), (58, true), (59, true), (60, true), (61, true), (62, true), (63, true), (66, true), (64, false), (65, true), (67, true), (68, true), (69, true)] (by kernel_rfl) (by kernel_rfl) (by kernel_rfl) (by kernel_rfl) (fun _ _ d _ _ h => by cases d <;> exact h) ⟨rfl, rfl, rfl, Nat.le_refl _, fun _ _ => rfl⟩ ?_
      simp only [opsOf, List.filterMap_cons, List.filterMap_nil, Option.map_some, List.append_eq, List.cons_append, List.nil_append, List.getElem?_toArray, List.getElem?_cons_zero, List.getElem?_cons_succ]
      have hld : ∀ w', Below W.heap.size W w' → w'.cell? ⟨w2.heap.size, 0, none⟩ = some (.int .i64 (readC ds)) ∧ w'.cell? ⟨w2.heap.size, 1, none⟩ = some (.slice Au (readL ds).length cu) ∧ w'.cell? ⟨w4.heap.size, 0, none⟩ = some (.int .i64 (packC xs)) ∧ w'.cell? ⟨w4.heap.size, 1, none⟩ = some (.slice Ap (packL xs).length cp) ∧ w'.cell? ⟨w6.heap.size, 0, none⟩ = some (.int .i64 (putC n)) ∧ w'.cell? ⟨w6.heap.size, 1, none⟩ = some (.slice Aw (putL n).length cw) := fun w' h =>
        ⟨(two_cells h hN.hu (heap_lt hN.hu)).1, (two_cells h hN.hu (heap_lt hN.hu)).2, (two_cells h hN.hp (heap_lt hN.hp)).1, (two_cells h hN.hp (heap_lt hN.hp)).2, (two_cells h hN.hw (heap_lt hN.hw)).1, (two_cells h hN.hw (heap_lt hN.hw)).2⟩
      have HLD := Lib.hid hld; clear hld
      generalize hW0 : ({ heap := W.heap, tape := W.tape, drawn := W.drawn + 1, os := W.os, output := W.output } : World) = v0
      have hv0 : Below W.heap.size W v0 := by rw [← hW0]; exact ⟨rfl, rfl, rfl, Nat.le_refl _, fun _ _ => rfl⟩
      clear hW0
      -- 0
      refine sched_run (v := ?_) (by rfl) ?_ ?_
      rotate_left
      · (intro w' hS'; go_simp; try with_reducible rfl)
      try simp only [Act.put, List.setIfInBounds_toArray, List.set_cons_zero, List.set_cons_succ]
      -- 1
      refine sched_run (v := ?_) (by rfl) ?_ ?_
      rotate_left
      · (intro w' hS'; obtain ⟨a0, a1, b0, b1, c0, c1⟩ := HLD.out w' hS'; go_simp; try with_reducible rfl)
      try simp only [Act.put, List.setIfInBounds_toArray, List.set_cons_zero, List.set_cons_succ]
      -- 2
      refine sched_run (v := ?_) (by rfl) ?_ ?_
      rotate_left
      · (intro w' hS'; go_simp; try with_reducible rfl)
      try simp only [Act.put, List.setIfInBounds_toArray, List.set_cons_zero, List.set_cons_succ]
      -- 3
      refine sched_call (by rfl) (fun K hK => ?_)
      go_simp
      refine (specReadNumbers_c _ _ ds _ fd hN.dby (rd.below hv0 rd.lt)).mono ?_
      rintro e v1 ⟨r3, rfl, ⟨x3, f3, rfl, hr3, hn3, hf3⟩, hb3⟩
      have hv1 : Below W.heap.size W v1 := hv0.trans (hb3.mono hv0.size)
      obtain ⟨A3, c3, rfl⟩ := hr3.form
      clear hn3 hf3
      refine hK _ _ hv1 ?_
      try simp only [Act.put, List.setIfInBounds_toArray, List.set_cons_zero, List.set_cons_succ]
      -- 4
      refine sched_run (v := ?_) (by rfl) ?_ ?_
      rotate_left
      · (intro w' hS'; go_simp; try with_reducible rfl)
      try simp only [Act.put, List.setIfInBounds_toArray, List.set_cons_zero, List.set_cons_succ]
      -- 5
      refine sched_run (v := ?_) (by rfl) ?_ ?_
      rotate_left
      · (intro w' hS'; go_simp; try with_reducible rfl)
      try simp only [Act.put, List.setIfInBounds_toArray, List.set_cons_zero, List.set_cons_succ]
      -- 6
      refine sched_run (v := ?_) (by rfl) ?_ ?_
      rotate_left
      · (intro w' hS'; go_simp; try with_reducible rfl)
      try simp only [Act.put, List.setIfInBounds_toArray, List.set_cons_zero, List.set_cons_succ]
      -- 7
      refine sched_run (v := ?_) (by rfl) ?_ ?_
      rotate_left
      · (intro w' hS'; go_simp; try with_reducible rfl)
      try simp only [Act.put, List.setIfInBounds_toArray, List.set_cons_zero, List.set_cons_succ]
      -- 8
      refine sched_run (v := ?_) (by rfl) ?_ ?_
      rotate_left
      · (intro w' hS'; obtain ⟨a0, a1, b0, b1, c0, c1⟩ := HLD.out w' hS'; go_simp; try with_reducible rfl)
      try simp only [Act.put, List.setIfInBounds_toArray, List.set_cons_zero, List.set_cons_succ]
      -- 9
      refine sched_run (v := ?_) (by rfl) ?_ ?_
      rotate_left
      · (intro w' hS'; go_simp; try with_reducible rfl)
      try simp only [Act.put, List.setIfInBounds_toArray, List.set_cons_zero, List.set_cons_succ]
      -- 10
      refine sched_run (v := ?_) (by rfl) ?_ ?_
      rotate_left
      · (intro w' hS'; go_simp; try with_reducible rfl)
      try simp only [Act.put, List.setIfInBounds_toArray, List.set_cons_zero, List.set_cons_succ]
      -- 11
      refine sched_skip (by rfl) ?_
      try simp only [Act.put, List.setIfInBounds_toArray, List.set_cons_zero, List.set_cons_succ]
      -- 12
      refine sched_skip (by rfl) ?_
      try simp only [Act.put, List.setIfInBounds_toArray, List.set_cons_zero, List.set_cons_succ]
      -- 15
      refine sched_skip (by rfl) ?_
      try simp only [Act.put, List.setIfInBounds_toArray, List.set_cons_zero, List.set_cons_succ]
      -- 13
      refine sched_skip' (by rfl) ?_
      try simp only [Act.put, List.setIfInBounds_toArray, List.set_cons_zero, List.set_cons_succ]
      -- 14
      refine sched_skip (by rfl) ?_
      try simp only [Act.put, List.setIfInBounds_toArray, List.set_cons_zero, List.set_cons_succ]
      -- 16
      refine sched_skip' (by rfl) ?_
      try simp only [Act.put, List.setIfInBounds_toArray, List.set_cons_zero, List.set_cons_succ]
      -- 17
      refine sched_skip (by rfl) ?_
      try simp only [Act.put, List.setIfInBounds_toArray, List.set_cons_zero, List.set_cons_succ]
      -- 18
      refine sched_run (v := ?_) (by rfl) ?_ ?_
      rotate_left
      · (intro w' hS'; go_simp; try with_reducible rfl)
      try simp only [Act.put, List.setIfInBounds_toArray, List.set_cons_zero, List.set_cons_succ]
      -- 19
      refine sched_run (v := ?_) (by rfl) ?_ ?_
      rotate_left
      · (intro w' hS'; go_simp; try with_reducible rfl)
      try simp only [Act.put, List.setIfInBounds_toArray, List.set_cons_zero, List.set_cons_succ]
      -- 20
      refine sched_run (v := ?_) (by rfl) ?_ ?_
      rotate_left
      · (intro w' hS'; go_simp; try with_reducible rfl)
      try simp only [Act.put, List.setIfInBounds_toArray, List.set_cons_zero, List.set_cons_succ]
      -- 21
      refine sched_run (v := ?_) (by rfl) ?_ ?_
      rotate_left
      · (intro w' hS'; go_simp; try with_reducible rfl)
      try simp only [Act.put, List.setIfInBounds_toArray, List.set_cons_zero, List.set_cons_succ]
      -- 22
      refine sched_run (v := ?_) (by rfl) ?_ ?_
      rotate_left
      · (intro w' hS'; obtain ⟨a0, a1, b0, b1, c0, c1⟩ := HLD.out w' hS'; go_simp; try with_reducible rfl)
      try simp only [Act.put, List.setIfInBounds_toArray, List.set_cons_zero, List.set_cons_succ]
      -- 23
      refine sched_run (v := ?_) (by rfl) ?_ ?_
      rotate_left
      · (intro w' hS'; go_simp; try with_reducible rfl)
      try simp only [Act.put, List.setIfInBounds_toArray, List.set_cons_zero, List.set_cons_succ]
      -- 24
      refine sched_call (by rfl) (fun K hK => ?_)
      go_simp
      refine (specPackNumbers_c _ _ xs _ fx (rx.below hv1 rx.lt)).mono ?_
      rintro e v2 ⟨r24, rfl, ⟨x24, f24, rfl, hr24, hn24, hf24⟩, hb24⟩
      have hv2 : Below W.heap.size W v2 := hv1.trans (hb24.mono hv1.size)
      obtain ⟨A24, c24, rfl⟩ := hr24.form
      clear hn24 hf24
      refine hK _ _ hv2 ?_
      try simp only [Act.put, List.setIfInBounds_toArray, List.set_cons_zero, List.set_cons_succ]
      -- 25
      refine sched_run (v := ?_) (by rfl) ?_ ?_
      rotate_left
      · (intro w' hS'; go_simp; try with_reducible rfl)
      try simp only [Act.put, List.setIfInBounds_toArray, List.set_cons_zero, List.set_cons_succ]
      -- 26
      refine sched_run (v := ?_) (by rfl) ?_ ?_
      rotate_left
      · (intro w' hS'; go_simp; try with_reducible rfl)
      try simp only [Act.put, List.setIfInBounds_toArray, List.set_cons_zero, List.set_cons_succ]
      -- 27
      refine sched_run (v := ?_) (by rfl) ?_ ?_
      rotate_left
      · (intro w' hS'; go_simp; try with_reducible rfl)
      try simp only [Act.put, List.setIfInBounds_toArray, List.set_cons_zero, List.set_cons_succ]
      -- 28
      refine sched_run (v := ?_) (by rfl) ?_ ?_
      rotate_left
      · (intro w' hS'; go_simp; try with_reducible rfl)
      try simp only [Act.put, List.setIfInBounds_toArray, List.set_cons_zero, List.set_cons_succ]
      -- 29
      refine sched_run (v := ?_) (by rfl) ?_ ?_
      rotate_left
      · (intro w' hS'; go_simp; try with_reducible rfl)
      try simp only [Act.put, List.setIfInBounds_toArray, List.set_cons_zero, List.set_cons_succ]
      -- 30
      refine sched_run (v := ?_) (by rfl) ?_ ?_
      rotate_left
      · (intro w' hS'; obtain ⟨a0, a1, b0, b1, c0, c1⟩ := HLD.out w' hS'; go_simp; try with_reducible rfl)
      try simp only [Act.put, List.setIfInBounds_toArray, List.set_cons_zero, List.set_cons_succ]
      -- 31
      refine sched_run (v := ?_) (by rfl) ?_ ?_
      rotate_left
      · (intro w' hS'; go_simp; try with_reducible rfl)
      try simp only [Act.put, List.setIfInBounds_toArray, List.set_cons_zero, List.set_cons_succ]
      -- 32
      refine sched_run (v := ?_) (by rfl) ?_ ?_
      rotate_left
      · (intro w' hS'; go_simp; try with_reducible rfl)
      try simp only [Act.put, List.setIfInBounds_toArray, List.set_cons_zero, List.set_cons_succ]
      -- 33
      refine sched_run (v := ?_) (by rfl) ?_ ?_
      rotate_left
      · (intro w' hS'; go_simp; try with_reducible rfl)
      try simp only [Act.put, List.setIfInBounds_toArray, List.set_cons_zero, List.set_cons_succ]
      -- 34
      refine sched_run (v := ?_) (by rfl) ?_ ?_
      rotate_left
      · (intro w' hS'; obtain ⟨a0, a1, b0, b1, c0, c1⟩ := HLD.out w' hS'; go_simp; try with_reducible rfl)
      try simp only [Act.put, List.setIfInBounds_toArray, List.set_cons_zero, List.set_cons_succ]
      -- 37
      refine sched_run (v := ?_) (by rfl) ?_ ?_
      rotate_left
      · (intro w' hS'; go_simp; try with_reducible rfl)
      try simp only [Act.put, List.setIfInBounds_toArray, List.set_cons_zero, List.set_cons_succ]
      -- 35
      refine sched_call (by rfl) (fun K hK => ?_)
      go_simp
      refine (implReadNumbers_c _ _ (packL xs) _ fp2 (packL_byt P0.out) (rp.below hv2 rp.lt)).mono ?_
      rintro e v3 ⟨r35, rfl, ⟨x35, f35, rfl, hr35, hn35, hf35⟩, hb35⟩
      have hv3 : Below W.heap.size W v3 := hv2.trans (hb35.mono hv2.size)
      rw [HPL.out] at hr35
      obtain ⟨A35, c35, rfl⟩ := hr35.form
      clear hn35 hf35
      refine hK _ _ hv3 ?_
      try simp only [Act.put, List.setIfInBounds_toArray, List.set_cons_zero, List.set_cons_succ]
      -- 36
      refine sched_run (v := ?_) (by rfl) ?_ ?_
      rotate_left
      · (intro w' hS'; go_simp; try with_reducible rfl)
      try simp only [Act.put, List.setIfInBounds_toArray, List.set_cons_zero, List.set_cons_succ]
      -- 38
      refine sched_call (by rfl) (fun K hK => ?_)
      go_simp
      refine (lwNums_c _ _ _ _ xs _ f35 fx hr35 (rx.below hv3 rx.lt)).mono ?_
      rintro e v4 ⟨rfl, hb38⟩
      have hv4 : Below W.heap.size W v4 := hv3.trans (hb38.mono hv3.size)
      refine hK _ _ hv4 ?_
      try simp only [Act.put, List.setIfInBounds_toArray, List.set_cons_zero, List.set_cons_succ]
      -- 39
      refine sched_run (v := ?_) (by rfl) ?_ ?_
      rotate_left
      · (intro w' hS'; go_simp; try with_reducible rfl)
      try simp only [Act.put, List.setIfInBounds_toArray, List.set_cons_zero, List.set_cons_succ]
      -- 40
      refine sched_run (v := ?_) (by rfl) ?_ ?_
      rotate_left
      · (intro w' hS'; go_simp; try with_reducible rfl)
      try simp only [Act.put, List.setIfInBounds_toArray, List.set_cons_zero, List.set_cons_succ]
      -- 41
      refine sched_run (v := ?_) (by rfl) ?_ ?_
      rotate_left
      · (intro w' hS'; go_simp; try with_reducible rfl)
      try simp only [Act.put, List.setIfInBounds_toArray, List.set_cons_zero, List.set_cons_succ]
      -- 42
      refine sched_run (v := ?_) (by rfl) ?_ ?_
      rotate_left
      · (intro w' hS'; obtain ⟨a0, a1, b0, b1, c0, c1⟩ := HLD.out w' hS'; go_simp; try with_reducible rfl)
      try simp only [Act.put, List.setIfInBounds_toArray, List.set_cons_zero, List.set_cons_succ]
      -- 43
      refine sched_call (by rfl) (fun K hK => ?_)
      go_simp
      refine (implReadNumbers_c _ _ (packL xs) _ fp2 (packL_byt P0.out) (rp.below hv4 rp.lt)).mono ?_
      rintro e v5 ⟨r43, rfl, ⟨x43, f43, rfl, hr43, hn43, hf43⟩, hb43⟩
      have hv5 : Below W.heap.size W v5 := hv4.trans (hb43.mono hv4.size)
      rw [HPC.out]
      obtain ⟨A43, c43, rfl⟩ := hr43.form
      clear hn43 hf43
      refine hK _ _ hv5 ?_
      try simp only [Act.put, List.setIfInBounds_toArray, List.set_cons_zero, List.set_cons_succ]
      -- 44
      refine sched_run (v := ?_) (by rfl) ?_ ?_
      rotate_left
      · (intro w' hS'; go_simp; try with_reducible rfl)
      try simp only [Act.put, List.setIfInBounds_toArray, List.set_cons_zero, List.set_cons_succ]
      -- 45
      refine sched_run (v := ?_) (by rfl) ?_ ?_
      rotate_left
      · (intro w' hS'; go_simp; try with_reducible rfl)
      try simp only [Act.put, List.setIfInBounds_toArray, List.set_cons_zero, List.set_cons_succ]
      -- 46
      refine sched_run (v := ?_) (by rfl) ?_ ?_
      rotate_left
      · (intro w' hS'; go_simp; try with_reducible rfl)
      try simp only [Act.put, List.setIfInBounds_toArray, List.set_cons_zero, List.set_cons_succ]
      -- 47
      refine sched_run (v := ?_) (by rfl) ?_ ?_
      rotate_left
      · (intro w' hS'; go_simp; try with_reducible rfl)
      try simp only [Act.put, List.setIfInBounds_toArray, List.set_cons_zero, List.set_cons_succ]
      -- 48
      refine sched_run (v := ?_) (by rfl) ?_ ?_
      rotate_left
      · (intro w' hS'; go_simp; try with_reducible rfl)
      try simp only [Act.put, List.setIfInBounds_toArray, List.set_cons_zero, List.set_cons_succ]
      -- 49
      refine sched_run (v := ?_) (by rfl) ?_ ?_
      rotate_left
      · (intro w' hS'; go_simp; try with_reducible rfl)
      try simp only [Act.put, List.setIfInBounds_toArray, List.set_cons_zero, List.set_cons_succ]
      -- 50
      refine sched_run (v := ?_) (by rfl) ?_ ?_
      rotate_left
      · (intro w' hS'; go_simp; try with_reducible rfl)
      try simp only [Act.put, List.setIfInBounds_toArray, List.set_cons_zero, List.set_cons_succ]
      -- 51
      refine sched_run (v := ?_) (by rfl) ?_ ?_
      rotate_left
      · (intro w' hS'; obtain ⟨a0, a1, b0, b1, c0, c1⟩ := HLD.out w' hS'; go_simp; try with_reducible rfl)
      try simp only [Act.put, List.setIfInBounds_toArray, List.set_cons_zero, List.set_cons_succ]
      -- 52
      refine sched_run (v := ?_) (by rfl) ?_ ?_
      rotate_left
      · (intro w' hS'; go_simp; try with_reducible rfl)
      try simp only [Act.put, List.setIfInBounds_toArray, List.set_cons_zero, List.set_cons_succ]
      -- 53
      refine sched_call (by rfl) (fun K hK => ?_)
      go_simp
      refine (specPutNumber_c n _).mono ?_
      rintro e v6 ⟨r53, rfl, ⟨x53, f53, rfl, hr53, hn53, hf53⟩, hb53⟩
      have hv6 : Below W.heap.size W v6 := hv5.trans (hb53.mono hv5.size)
      obtain ⟨A53, c53, rfl⟩ := hr53.form
      clear hn53 hf53
      refine hK _ _ hv6 ?_
      try simp only [Act.put, List.setIfInBounds_toArray, List.set_cons_zero, List.set_cons_succ]
      -- 54
      refine sched_run (v := ?_) (by rfl) ?_ ?_
      rotate_left
      · (intro w' hS'; go_simp; try with_reducible rfl)
      try simp only [Act.put, List.setIfInBounds_toArray, List.set_cons_zero, List.set_cons_succ]
      -- 55
      refine sched_run (v := ?_) (by rfl) ?_ ?_
      rotate_left
      · (intro w' hS'; go_simp; try with_reducible rfl)
      try simp only [Act.put, List.setIfInBounds_toArray, List.set_cons_zero, List.set_cons_succ]
      -- 56
      refine sched_run (v := ?_) (by rfl) ?_ ?_
      rotate_left
      · (intro w' hS'; go_simp; try with_reducible rfl)
      try simp only [Act.put, List.setIfInBounds_toArray, List.set_cons_zero, List.set_cons_succ]
      -- 57
      refine sched_run (v := ?_) (by rfl) ?_ ?_
      rotate_left
      · (intro w' hS'; go_simp; try with_reducible rfl)
      try simp only [Act.put, List.setIfInBounds_toArray, List.set_cons_zero, List.set_cons_succ]
      -- 58
      refine sched_run (v := ?_) (by rfl) ?_ ?_
      rotate_left
      · (intro w' hS'; go_simp; try with_reducible rfl)
      try simp only [Act.put, List.setIfInBounds_toArray, List.set_cons_zero, List.set_cons_succ]
      -- 59
      refine sched_run (v := ?_) (by rfl) ?_ ?_
      rotate_left
      · (intro w' hS'; obtain ⟨a0, a1, b0, b1, c0, c1⟩ := HLD.out w' hS'; go_simp; try with_reducible rfl)
      try simp only [Act.put, List.setIfInBounds_toArray, List.set_cons_zero, List.set_cons_succ]
      -- 60
      refine sched_run (v := ?_) (by rfl) ?_ ?_
      rotate_left
      · (intro w' hS'; go_simp; try with_reducible rfl)
      try simp only [Act.put, List.setIfInBounds_toArray, List.set_cons_zero, List.set_cons_succ]
      -- 61
      refine sched_run (v := ?_) (by rfl) ?_ ?_
      rotate_left
      · (intro w' hS'; go_simp; try with_reducible rfl)
      try simp only [Act.put, List.setIfInBounds_toArray, List.set_cons_zero, List.set_cons_succ]
      -- 62
      refine sched_skip (by rfl) ?_
      try simp only [Act.put, List.setIfInBounds_toArray, List.set_cons_zero, List.set_cons_succ]
      -- 63
      refine sched_skip (by rfl) ?_
      try simp only [Act.put, List.setIfInBounds_toArray, List.set_cons_zero, List.set_cons_succ]
      -- 66
      refine sched_skip (by rfl) ?_
      try simp only [Act.put, List.setIfInBounds_toArray, List.set_cons_zero, List.set_cons_succ]
      -- 64
      refine sched_skip' (by rfl) ?_
      try simp only [Act.put, List.setIfInBounds_toArray, List.set_cons_zero, List.set_cons_succ]
      -- 65
      refine sched_skip (by rfl) ?_
      try simp only [Act.put, List.setIfInBounds_toArray, List.set_cons_zero, List.set_cons_succ]
      -- 67
      refine sched_skip (by rfl) ?_
      try simp only [Act.put, List.setIfInBounds_toArray, List.set_cons_zero, List.set_cons_succ]
      -- 68
      refine sched_run (v := ?_) (by rfl) ?_ ?_
      rotate_left
      · (intro w' hS'; go_simp; try with_reducible rfl)
      try simp only [Act.put, List.setIfInBounds_toArray, List.set_cons_zero, List.set_cons_succ]
      -- 69
      refine sched_run (v := ?_) (by rfl) ?_ ?_
      rotate_left
      · (intro w' hS'; go_simp; try with_reducible rfl)
      try simp only [Act.put, List.setIfInBounds_toArray, List.set_cons_zero, List.set_cons_succ]
      refine sched_done ?_
      go_wp2_with fail
      refine (implGetNumber_c _ _ bs p _ fb hN.pwf hN.bby (rb.below hv6 rb.lt)).mono ?_
      rintro e v7 ⟨rfl, hbx6⟩
      have hv7 : Below W.heap.size W v7 := hv6.trans (hbx6.mono hv6.size)
      go_wp2_with fail
      refine (specGetNumber_c _ _ bs p _ fb hN.pwf hN.bby (rb.below hv7 rb.lt)).mono ?_
      rintro e v8 ⟨rfl, hbx7⟩
      have hv8 : Below W.heap.size W v8 := hv7.trans (hbx7.mono hv7.size)
      go_wp2_with fail
      refine (implGetNumber_c _ _ bs p _ fb hN.pwf hN.bby (rb.below hv8 rb.lt)).mono ?_
      rintro e v9 ⟨rfl, hbx8⟩
      have hv9 : Below W.heap.size W v9 := hv8.trans (hbx8.mono hv8.size)
      go_wp2_with fail
      refine (specGetNumber_c _ _ bs p _ fb hN.pwf hN.bby (rb.below hv9 rb.lt)).mono ?_
      rintro e v10 ⟨rfl, hbx9⟩
      have hv10 : Below W.heap.size W v10 := hv9.trans (hbx9.mono hv9.size)
      go_wp2
      go_ret
      exact ⟨rfl, hN.bel.trans (hv10.mono hN.bel.size)⟩
    · -- not readable, not packed, short
      have R0 := Lib.hid hr0
      have tr : (readC ds == 0) = false := by simp [hr0]
      have P0 := Lib.hid hp0
      have tp : (packC xs == 0) = false := by simp [hp0]
      have Q0 := Lib.hid hq0
      have tq : (putC n == 0) = true := by simp [hq0]
      clear hr0 hp0 hq0
      refine wp_region_sched (fun w' => Below W.heap.size W w') [(0, true), (1, true), (2, true), (3, false), (4, true), (5, true), (6, true), (7, true), (8, true), (9, true), (10, true), (11, true), (12, true), (15, true), (13, false), (14, true), (16, false), (17, true), (18, true), (19, true), (20, true), (21, true), (22, true), (23, true), (24, false), (25, true), (26, true), (27, true), (28, true), (29, true), (30, true), (31, true), (32, true), (33, true), (34, true), (37, true), (35, false), (36, true), (38, false), (39, true), (40, true), (41, true), (42, true), (43, false), (44, true), (45, true), (46, true), (47, true), (48, true), (49, true), (50, true), (51, true), (52, true), (53, false), (54, true), (55, true), (56, true), (57, true), (58, true), (59, true), (60, true), (61, true), (62, true), (63, true), (66, true), (64, false), (65, true), (67, true), (68, true), (69, true)] (by kernel_rfl) (by kernel_rfl) (by kernel_rfl) (by kernel_rfl) (fun _ _ d _ _ h => by cases d <;> exact h) ⟨rfl, rfl, rfl, Nat.le_refl _, fun _ _ => rfl⟩ ?_
      simp only [opsOf, List.filterMap_cons, List.filterMap_nil, Option.map_some, List.append_eq, List.cons_append, List.nil_append, List.getElem?_toArray, List.getElem?_cons_zero, List.getElem?_cons_succ]
      have hld : ∀ w', Below W.heap.size W w' → w'.cell? ⟨w2.heap.size, 0, none⟩ = some (.int .i64 (readC ds)) ∧ w'.cell? ⟨w2.heap.size, 1, none⟩ = some (.slice Au (readL ds).length cu) ∧ w'.cell? ⟨w4.heap.size, 0, none⟩ = some (.int .i64 (packC xs)) ∧ w'.cell? ⟨w4.heap.size, 1, none⟩ = some (.slice Ap (packL xs).length cp) ∧ w'.cell? ⟨w6.heap.size, 0, none⟩ = some (.int .i64 (putC n)) ∧ w'.cell? ⟨w6.heap.size, 1, none⟩ = some (.slice Aw (putL n).length cw) := fun w' h =>
        ⟨(two_cells h hN.hu (heap_lt hN.hu)).1, (two_cells h hN.hu (heap_lt hN.hu)).2, (two_cells h hN.hp (heap_lt hN.hp)).1, (two_cells h hN.hp (heap_lt hN.hp)).2, (two_cells h hN.hw (heap_lt hN.hw)).1, (two_cells h hN.hw (heap_lt hN.hw)).2⟩
      have HLD := Lib.hid hld; clear hld
      generalize hW0 : ({ heap := W.heap, tape := W.tape, drawn := W.drawn + 1, os := W.os, output := W.output } : World) = v0
      have hv0 : Below W.heap.size W v0 := by rw [← hW0]; exact ⟨rfl, rfl, rfl, Nat.le_refl _, fun _ _ => rfl⟩
      clear hW0
      -- 0
      refine sched_run (v := ?_) (by rfl) ?_ ?_
      rotate_left
      · (intro w' hS'; go_simp; try with_reducible rfl)
      try simp only [Act.put, List.setIfInBounds_toArray, List.set_cons_zero, List.set_cons_succ]
      -- 1
      refine sched_run (v := ?_) (by rfl) ?_ ?_
      rotate_left
      · (intro w' hS'; obtain ⟨a0, a1, b0, b1, c0, c1⟩ := HLD.out w' hS'; go_simp; try with_reducible rfl)
      try simp only [Act.put, List.setIfInBounds_toArray, List.set_cons_zero, List.set_cons_succ]
      -- 2
      refine sched_run (v := ?_) (by rfl) ?_ ?_
      rotate_left
      · (intro w' hS'; go_simp; try with_reducible rfl)
      try simp only [Act.put, List.setIfInBounds_toArray, List.set_cons_zero, List.set_cons_succ]
      -- 3
      refine sched_call (by rfl) (fun K hK => ?_)
      go_simp
      refine (specReadNumbers_c _ _ ds _ fd hN.dby (rd.below hv0 rd.lt)).mono ?_
      rintro e v1 ⟨r3, rfl, ⟨x3, f3, rfl, hr3, hn3, hf3⟩, hb3⟩
      have hv1 : Below W.heap.size W v1 := hv0.trans (hb3.mono hv0.size)
      obtain ⟨A3, c3, rfl⟩ := hr3.form
      clear hn3 hf3
      refine hK _ _ hv1 ?_
      try simp only [Act.put, List.setIfInBounds_toArray, List.set_cons_zero, List.set_cons_succ]
      -- 4
      refine sched_run (v := ?_) (by rfl) ?_ ?_
      rotate_left
      · (intro w' hS'; go_simp; try with_reducible rfl)
      try simp only [Act.put, List.setIfInBounds_toArray, List.set_cons_zero, List.set_cons_succ]
      -- 5
      refine sched_run (v := ?_) (by rfl) ?_ ?_
      rotate_left
      · (intro w' hS'; go_simp; try with_reducible rfl)
      try simp only [Act.put, List.setIfInBounds_toArray, List.set_cons_zero, List.set_cons_succ]
      -- 6
      refine sched_run (v := ?_) (by rfl) ?_ ?_
      rotate_left
      · (intro w' hS'; go_simp; try with_reducible rfl)
      try simp only [Act.put, List.setIfInBounds_toArray, List.set_cons_zero, List.set_cons_succ]
      -- 7
      refine sched_run (v := ?_) (by rfl) ?_ ?_
      rotate_left
      · (intro w' hS'; go_simp; try with_reducible rfl)
      try simp only [Act.put, List.setIfInBounds_toArray, List.set_cons_zero, List.set_cons_succ]
      -- 8
      refine sched_run (v := ?_) (by rfl) ?_ ?_
      rotate_left
      · (intro w' hS'; obtain ⟨a0, a1, b0, b1, c0, c1⟩ := HLD.out w' hS'; go_simp; try with_reducible rfl)
      try simp only [Act.put, List.setIfInBounds_toArray, List.set_cons_zero, List.set_cons_succ]
      -- 9
      refine sched_run (v := ?_) (by rfl) ?_ ?_
      rotate_left
      · (intro w' hS'; go_simp; try with_reducible rfl)
      try simp only [Act.put, List.setIfInBounds_toArray, List.set_cons_zero, List.set_cons_succ]
      -- 10
      refine sched_run (v := ?_) (by rfl) ?_ ?_
      rotate_left
      · (intro w' hS'; go_simp; try with_reducible rfl)
      try simp only [Act.put, List.setIfInBounds_toArray, List.set_cons_zero, List.set_cons_succ]
      -- 11
      refine sched_skip (by rfl) ?_
      try simp only [Act.put, List.setIfInBounds_toArray, List.set_cons_zero, List.set_cons_succ]
      -- 12
      refine sched_skip (by rfl) ?_
      try simp only [Act.put, List.setIfInBounds_toArray, List.set_cons_zero, List.set_cons_succ]
      -- 15
      refine sched_skip (by rfl) ?_
      try simp only [Act.put, List.setIfInBounds_toArray, List.set_cons_zero, List.set_cons_succ]
      -- 13
      refine sched_skip' (by rfl) ?_
      try simp only [Act.put, List.setIfInBounds_toArray, List.set_cons_zero, List.set_cons_succ]
      -- 14
      refine sched_skip (by rfl) ?_
      try simp only [Act.put, List.setIfInBounds_toArray, List.set_cons_zero, List.set_cons_succ]
      -- 16
      refine sched_skip' (by rfl) ?_
      try simp only [Act.put, List.setIfInBounds_toArray, List.set_cons_zero, List.set_cons_succ]
      -- 17
      refine sched_skip (by rfl) ?_
      try simp only [Act.put, List.setIfInBounds_toArray, List.set_cons_zero, List.set_cons_succ]
      -- 18
      refine sched_run (v := ?_) (by rfl) ?_ ?_
      rotate_left
      · (intro w' hS'; go_simp; try with_reducible rfl)
      try simp only [Act.put, List.setIfInBounds_toArray, List.set_cons_zero, List.set_cons_succ]
      -- 19
      refine sched_run (v := ?_) (by rfl) ?_ ?_
      rotate_left
      · (intro w' hS'; go_simp; try with_reducible rfl)
      try simp only [Act.put, List.setIfInBounds_toArray, List.set_cons_zero, List.set_cons_succ]
      -- 20
      refine sched_run (v := ?_) (by rfl) ?_ ?_
      rotate_left
      · (intro w' hS'; go_simp; try with_reducible rfl)
      try simp only [Act.put, List.setIfInBounds_toArray, List.set_cons_zero, List.set_cons_succ]
      -- 21
      refine sched_run (v := ?_) (by rfl) ?_ ?_
      rotate_left
      · (intro w' hS'; go_simp; try with_reducible rfl)
      try simp only [Act.put, List.setIfInBounds_toArray, List.set_cons_zero, List.set_cons_succ]
      -- 22
      refine sched_run (v := ?_) (by rfl) ?_ ?_
      rotate_left
      · (intro w' hS'; obtain ⟨a0, a1, b0, b1, c0, c1⟩ := HLD.out w' hS'; go_simp; try with_reducible rfl)
      try simp only [Act.put, List.setIfInBounds_toArray, List.set_cons_zero, List.set_cons_succ]
      -- 23
      refine sched_run (v := ?_) (by rfl) ?_ ?_
      rotate_left
      · (intro w' hS'; go_simp; try with_reducible rfl)
      try simp only [Act.put, List.setIfInBounds_toArray, List.set_cons_zero, List.set_cons_succ]
      -- 24
      refine sched_call (by rfl) (fun K hK => ?_)
      go_simp
      refine (specPackNumbers_c _ _ xs _ fx (rx.below hv1 rx.lt)).mono ?_
      rintro e v2 ⟨r24, rfl, ⟨x24, f24, rfl, hr24, hn24, hf24⟩, hb24⟩
      have hv2 : Below W.heap.size W v2 := hv1.trans (hb24.mono hv1.size)
      obtain ⟨A24, c24, rfl⟩ := hr24.form
      clear hn24 hf24
      refine hK _ _ hv2 ?_
      try simp only [Act.put, List.setIfInBounds_toArray, List.set_cons_zero, List.set_cons_succ]
      -- 25
      refine sched_run (v := ?_) (by rfl) ?_ ?_
      rotate_left
      · (intro w' hS'; go_simp; try with_reducible rfl)
      try simp only [Act.put, List.setIfInBounds_toArray, List.set_cons_zero, List.set_cons_succ]
      -- 26
      refine sched_run (v := ?_) (by rfl) ?_ ?_
      rotate_left
      · (intro w' hS'; go_simp; try with_reducible rfl)
      try simp only [Act.put, List.setIfInBounds_toArray, List.set_cons_zero, List.set_cons_succ]
      -- 27
      refine sched_run (v := ?_) (by rfl) ?_ ?_
      rotate_left
      · (intro w' hS'; go_simp; try with_reducible rfl)
      try simp only [Act.put, List.setIfInBounds_toArray, List.set_cons_zero, List.set_cons_succ]
      -- 28
      refine sched_run (v := ?_) (by rfl) ?_ ?_
      rotate_left
      · (intro w' hS'; go_simp; try with_reducible rfl)
      try simp only [Act.put, List.setIfInBounds_toArray, List.set_cons_zero, List.set_cons_succ]
      -- 29
      refine sched_run (v := ?_) (by rfl) ?_ ?_
      rotate_left
      · (intro w' hS'; go_simp; try with_reducible rfl)
      try simp only [Act.put, List.setIfInBounds_toArray, List.set_cons_zero, List.set_cons_succ]
      -- 30
      refine sched_run (v := ?_) (by rfl) ?_ ?_
      rotate_left
      · (intro w' hS'; obtain ⟨a0, a1, b0, b1, c0, c1⟩ := HLD.out w' hS'; go_simp; try with_reducible rfl)
      try simp only [Act.put, List.setIfInBounds_toArray, List.set_cons_zero, List.set_cons_succ]
      -- 31
      refine sched_run (v := ?_) (by rfl) ?_ ?_
      rotate_left
      · (intro w' hS'; go_simp; try with_reducible rfl)
      try simp only [Act.put, List.setIfInBounds_toArray, List.set_cons_zero, List.set_cons_succ]
      -- 32
      refine sched_run (v := ?_) (by rfl) ?_ ?_
      rotate_left
      · (intro w' hS'; go_simp; try with_reducible rfl)
      try simp only [Act.put, List.setIfInBounds_toArray, List.set_cons_zero, List.set_cons_succ]
      -- 33
      refine sched_skip (by rfl) ?_
      try simp only [Act.put, List.setIfInBounds_toArray, List.set_cons_zero, List.set_cons_succ]
      -- 34
      refine sched_skip (by rfl) ?_
      try simp only [Act.put, List.setIfInBounds_toArray, List.set_cons_zero, List.set_cons_succ]
      -- 37
      refine sched_skip (by rfl) ?_
      try simp only [Act.put, List.setIfInBounds_toArray, List.set_cons_zero, List.set_cons_succ]
      -- 35
      refine sched_skip' (by rfl) ?_
      try simp only [Act.put, List.setIfInBounds_toArray, List.set_cons_zero, List.set_cons_succ]
      -- 36
      refine sched_skip (by rfl) ?_
      try simp only [Act.put, List.setIfInBounds_toArray, List.set_cons_zero, List.set_cons_succ]
      -- 38
      refine sched_skip' (by rfl) ?_
      try simp only [Act.put, List.setIfInBounds_toArray, List.set_cons_zero, List.set_cons_succ]
      -- 39
      refine sched_skip (by rfl) ?_
      try simp only [Act.put, List.setIfInBounds_toArray, List.set_cons_zero, List.set_cons_succ]
      -- 40
      refine sched_skip (by rfl) ?_
      try simp only [Act.put, List.setIfInBounds_toArray, List.set_cons_zero, List.set_cons_succ]
      -- 41
      refine sched_skip (by rfl) ?_
      try simp only [Act.put, List.setIfInBounds_toArray, List.set_cons_zero, List.set_cons_succ]
      -- 42
      refine sched_skip (by rfl) ?_
      try simp only [Act.put, List.setIfInBounds_toArray, List.set_cons_zero, List.set_cons_succ]
      -- 43
      refine sched_skip' (by rfl) ?_
      try simp only [Act.put, List.setIfInBounds_toArray, List.set_cons_zero, List.set_cons_succ]
      -- 44
      refine sched_skip (by rfl) ?_
      try simp only [Act.put, List.setIfInBounds_toArray, List.set_cons_zero, List.set_cons_succ]
      -- 45
      refine sched_skip (by rfl) ?_
      try simp only [Act.put, List.setIfInBounds_toArray, List.set_cons_zero, List.set_cons_succ]
      -- 46
      refine sched_skip (by rfl) ?_
      try simp only [Act.put, List.setIfInBounds_toArray, List.set_cons_zero, List.set_cons_succ]
      -- 47
      refine sched_run (v := ?_) (by rfl) ?_ ?_
      rotate_left
      · (intro w' hS'; go_simp; try with_reducible rfl)
      try simp only [Act.put, List.setIfInBounds_toArray, List.set_cons_zero, List.set_cons_succ]
      -- 48
      refine sched_run (v := ?_) (by rfl) ?_ ?_
      rotate_left
      · (intro w' hS'; go_simp; try with_reducible rfl)
      try simp only [Act.put, List.setIfInBounds_toArray, List.set_cons_zero, List.set_cons_succ]
      -- 49
      refine sched_run (v := ?_) (by rfl) ?_ ?_
      rotate_left
      · (intro w' hS'; go_simp; try with_reducible rfl)
      try simp only [Act.put, List.setIfInBounds_toArray, List.set_cons_zero, List.set_cons_succ]
      -- 50
      refine sched_run (v := ?_) (by rfl) ?_ ?_
      rotate_left
      · (intro w' hS'; go_simp; try with_reducible rfl)
      try simp only [Act.put, List.setIfInBounds_toArray, List.set_cons_zero, List.set_cons_succ]
      -- 51
      refine sched_run (v := ?_) (by rfl) ?_ ?_
      rotate_left
      · (intro w' hS'; obtain ⟨a0, a1, b0, b1, c0, c1⟩ := HLD.out w' hS'; go_simp; try with_reducible rfl)
      try simp only [Act.put, List.setIfInBounds_toArray, List.set_cons_zero, List.set_cons_succ]
      -- 52
      refine sched_run (v := ?_) (by rfl) ?_ ?_
      rotate_left
      · (intro w' hS'; go_simp; try with_reducible rfl)
      try simp only [Act.put, List.setIfInBounds_toArray, List.set_cons_zero, List.set_cons_succ]
      -- 53
      refine sched_call (by rfl) (fun K hK => ?_)
      go_simp
      refine (specPutNumber_c n _).mono ?_
      rintro e v3 ⟨r53, rfl, ⟨x53, f53, rfl, hr53, hn53, hf53⟩, hb53⟩
      have hv3 : Below W.heap.size W v3 := hv2.trans (hb53.mono hv2.size)
      obtain ⟨A53, c53, rfl⟩ := hr53.form
      clear hn53 hf53
      refine hK _ _ hv3 ?_
      try simp only [Act.put, List.setIfInBounds_toArray, List.set_cons_zero, List.set_cons_succ]
      -- 54
      refine sched_run (v := ?_) (by rfl) ?_ ?_
      rotate_left
      · (intro w' hS'; go_simp; try with_reducible rfl)
      try simp only [Act.put, List.setIfInBounds_toArray, List.set_cons_zero, List.set_cons_succ]
      -- 55
      refine sched_run (v := ?_) (by rfl) ?_ ?_
      rotate_left
      · (intro w' hS'; go_simp; try with_reducible rfl)
      try simp only [Act.put, List.setIfInBounds_toArray, List.set_cons_zero, List.set_cons_succ]
      -- 56
      refine sched_run (v := ?_) (by rfl) ?_ ?_
      rotate_left
      · (intro w' hS'; go_simp; try with_reducible rfl)
      try simp only [Act.put, List.setIfInBounds_toArray, List.set_cons_zero, List.set_cons_succ]
      -- 57
      refine sched_run (v := ?_) (by rfl) ?_ ?_
      rotate_left
      · (intro w' hS'; go_simp; try with_reducible rfl)
      try simp only [Act.put, List.setIfInBounds_toArray, List.set_cons_zero, List.set_cons_succ]
      -- 58
      refine sched_run (v := ?_) (by rfl) ?_ ?_
      rotate_left
      · (intro w' hS'; go_simp; try with_reducible rfl)
      try simp only [Act.put, List.setIfInBounds_toArray, List.set_cons_zero, List.set_cons_succ]
      -- 59
      refine sched_run (v := ?_) (by rfl) ?_ ?_
      rotate_left
      · (intro w' hS'; obtain ⟨a0, a1, b0, b1, c0, c1⟩ := HLD.out w' hS'; go_simp; try with_reducible rfl)
      try simp only [Act.put, List.setIfInBounds_toArray, List.set_cons_zero, List.set_cons_succ]
      -- 60
      refine sched_run (v := ?_) (by rfl) ?_ ?_
      rotate_left
      · (intro w' hS'; go_simp; try with_reducible rfl)
      try simp only [Act.put, List.setIfInBounds_toArray, List.set_cons_zero, List.set_cons_succ]
      -- 61
      refine sched_run (v := ?_) (by rfl) ?_ ?_
      rotate_left
      · (intro w' hS'; go_simp; try with_reducible rfl)
      try simp only [Act.put, List.setIfInBounds_toArray, List.set_cons_zero, List.set_cons_succ]
      -- 62
      refine sched_run (v := ?_) (by rfl) ?_ ?_
      rotate_left
      · (intro w' hS'; go_simp; try with_reducible rfl)
      try simp only [Act.put, List.setIfInBounds_toArray, List.set_cons_zero, List.set_cons_succ]
      -- 63
      refine sched_run (v := ?_) (by rfl) ?_ ?_
      rotate_left
      · (intro w' hS'; obtain ⟨a0, a1, b0, b1, c0, c1⟩ := HLD.out w' hS'; go_simp; try with_reducible rfl)
      try simp only [Act.put, List.setIfInBounds_toArray, List.set_cons_zero, List.set_cons_succ]
      -- 66
      refine sched_run (v := ?_) (by rfl) ?_ ?_
      rotate_left
      · (intro w' hS'; go_simp; try with_reducible rfl)
      try simp only [Act.put, List.setIfInBounds_toArray, List.set_cons_zero, List.set_cons_succ]
      -- 64
      refine sched_call (by rfl) (fun K hK => ?_)
      go_simp
      refine (implGetNumber_c _ _ (putL n) 0 _ fw (wf_small (by omega) (by omega)) (putL_byt n) (rw_.below hv3 rw_.lt)).mono ?_
      rintro e v4 ⟨rfl, hb64⟩
      have hv4 : Below W.heap.size W v4 := hv3.trans (hb64.mono hv3.size)
      rw [getP_putL Q0.out]
      refine hK _ _ hv4 ?_
      try simp only [Act.put, List.setIfInBounds_toArray, List.set_cons_zero, List.set_cons_succ]
      -- 65
      refine sched_run (v := ?_) (by rfl) ?_ ?_
      rotate_left
      · (intro w' hS'; go_simp; try with_reducible rfl)
      try simp only [Act.put, List.setIfInBounds_toArray, List.set_cons_zero, List.set_cons_succ]
      -- 67
      refine sched_run (v := ?_) (by rfl) ?_ ?_
      rotate_left
      · (intro w' hS'; go_simp; try with_reducible rfl)
      try simp only [Act.put, List.setIfInBounds_toArray, List.set_cons_zero, List.set_cons_succ]
      -- 68
      refine sched_run (v := ?_) (by rfl) ?_ ?_
      rotate_left
      · (intro w' hS'; go_simp; try with_reducible rfl)
      try simp only [Act.put, List.setIfInBounds_toArray, List.set_cons_zero, List.set_cons_succ]
      -- 69
      refine sched_run (v := ?_) (by rfl) ?_ ?_
      rotate_left
      · (intro w' hS'; go_simp; try with_reducible rfl)
      try simp only [Act.put, List.setIfInBounds_toArray, List.set_cons_zero, List.set_cons_succ]
      refine sched_done ?_
      go_wp2_with fail
      refine (implGetNumber_c _ _ bs p _ fb hN.pwf hN.bby (rb.below hv4 rb.lt)).mono ?_
      rintro e v5 ⟨rfl, hbx4⟩
      have hv5 : Below W.heap.size W v5 := hv4.trans (hbx4.mono hv4.size)
      go_wp2_with fail
      refine (specGetNumber_c _ _ bs p _ fb hN.pwf hN.bby (rb.below hv5 rb.lt)).mono ?_
      rintro e v6 ⟨rfl, hbx5⟩
      have hv6 : Below W.heap.size W v6 := hv5.trans (hbx5.mono hv5.size)
      go_wp2_with fail
      refine (implGetNumber_c _ _ bs p _ fb hN.pwf hN.bby (rb.below hv6 rb.lt)).mono ?_
      rintro e v7 ⟨rfl, hbx6⟩
      have hv7 : Below W.heap.size W v7 := hv6.trans (hbx6.mono hv6.size)
      go_wp2_with fail
      refine (specGetNumber_c _ _ bs p _ fb hN.pwf hN.bby (rb.below hv7 rb.lt)).mono ?_
      rintro e v8 ⟨rfl, hbx7⟩
      have hv8 : Below W.heap.size W v8 := hv7.trans (hbx7.mono hv7.size)
      go_wp2
      go_ret
      exact ⟨rfl, hN.bel.trans (hv8.mono hN.bel.size)⟩
    · -- not readable, not packed, not short
      have R0 := Lib.hid hr0
      have tr : (readC ds == 0) = false := by simp [hr0]
      have P0 := Lib.hid hp0
      have tp : (packC xs == 0) = false := by simp [hp0]
      have Q0 := Lib.hid hq0
      have tq : (putC n == 0) = false := by simp [hq0]
      clear hr0 hp0 hq0
      refine wp_region_sched (fun w' => Below W.heap.size W w') [(0, true), (1, true), (2, true), (3, false), (4, true), (5, true), (6, true), (7, true), (8, true), (9, true), (10, true), (11, true), (12, true), (15, true), (13, false), (14, true), (16, false), (17, true), (18, true), (19, true), (20, true), (21, true), (22, true), (23, true), (24, false), (25, true), (26, true), (27, true), (28, true), (29, true), (30, true), (31, true), (32, true), (33, true), (34, true), (37, true), (35, false), (36, true), (38, false), (39, true), (40, true), (41, true), (42, true), (43, false), (44, true), (45, true), (46, true), (47, true), (48, true), (49, true), (50, true), (51, true), (52, true), (53, false), (54, true), (55, true), (56, true), (57, true), (58, true), (59, true), (60, true), (61, true), (62, true), (63, true), (66, true), (64, false), (65, true), (67, true), (68, true), (69, true)] (by kernel_rfl) (by kernel_rfl) (by kernel_rfl) (by kernel_rfl) (fun _ _ d _ _ h => by cases d <;> exact h) ⟨rfl, rfl, rfl, Nat.le_refl _, fun _ _ => rfl⟩ ?_
      simp only [opsOf, List.filterMap_cons, List.filterMap_nil, Option.map_some, List.append_eq, List.cons_append, List.nil_append, List.getElem?_toArray, List.getElem?_cons_zero, List.getElem?_cons_succ]
      have hld : ∀ w', Below W.heap.size W w' → w'.cell? ⟨w2.heap.size, 0, none⟩ = some (.int .i64 (readC ds)) ∧ w'.cell? ⟨w2.heap.size, 1, none⟩ = some (.slice Au (readL ds).length cu) ∧ w'.cell? ⟨w4.heap.size, 0, none⟩ = some (.int .i64 (packC xs)) ∧ w'.cell? ⟨w4.heap.size, 1, none⟩ = some (.slice Ap (packL xs).length cp) ∧ w'.cell? ⟨w6.heap.size, 0, none⟩ = some (.int .i64 (putC n)) ∧ w'.cell? ⟨w6.heap.size, 1, none⟩ = some (.slice Aw (putL n).length cw) := fun w' h =>
        ⟨(two_cells h hN.hu (heap_lt hN.hu)).1, (two_cells h hN.hu (heap_lt hN.hu)).2, (two_cells h hN.hp (heap_lt hN.hp)).1, (two_cells h hN.hp (heap_lt hN.hp)).2, (two_cells h hN.hw (heap_lt hN.hw)).1, (two_cells h hN.hw (heap_lt hN.hw)).2⟩
      have HLD := Lib.hid hld; clear hld
      generalize hW0 : ({ heap := W.heap, tape := W.tape, drawn := W.drawn + 1, os := W.os, output := W.output } : World) = v0
      have hv0 : Below W.heap.size W v0 := by rw [← hW0]; exact ⟨rfl, rfl, rfl, Nat.le_refl _, fun _ _ => rfl⟩
      clear hW0
      -- 0
      refine sched_run (v := ?_) (by rfl) ?_ ?_
      rotate_left
      · (intro w' hS'; go_simp; try with_reducible rfl)
      try simp only [Act.put, List.setIfInBounds_toArray, List.set_cons_zero, List.set_cons_succ]
      -- 1
      refine sched_run (v := ?_) (by rfl) ?_ ?_
      rotate_left
      · (intro w' hS'; obtain ⟨a0, a1, b0, b1, c0, c1⟩ := HLD.out w' hS'; go_simp; try with_reducible rfl)
      try simp only [Act.put, List.setIfInBounds_toArray, List.set_cons_zero, List.set_cons_succ]
      -- 2
      refine sched_run (v := ?_) (by rfl) ?_ ?_
      rotate_left
      · (intro w' hS'; go_simp; try with_reducible rfl)
      try simp only [Act.put, List.setIfInBounds_toArray, List.set_cons_zero, List.set_cons_succ]
      -- 3
      refine sched_call (by rfl) (fun K hK => ?_)
      go_simp
      refine (specReadNumbers_c _ _ ds _ fd hN.dby (rd.below hv0 rd.lt)).mono ?_
      rintro e v1 ⟨r3, rfl, ⟨x3, f3, rfl, hr3, hn3, hf3⟩, hb3⟩
      have hv1 : Below W.heap.size W v1 := hv0.trans (hb3.mono hv0.size)
      obtain ⟨A3, c3, rfl⟩ := hr3.form
      clear hn3 hf3
      refine hK _ _ hv1 ?_
      try simp only [Act.put, List.setIfInBounds_toArray, List.set_cons_zero, List.set_cons_succ]
      -- 4
      refine sched_run (v := ?_) (by rfl) ?_ ?_
      rotate_left
      · (intro w' hS'; go_simp; try with_reducible rfl)
      try simp only [Act.put, List.setIfInBounds_toArray, List.set_cons_zero, List.set_cons_succ]
      -- 5
      refine sched_run (v := ?_) (by rfl) ?_ ?_
      rotate_left
      · (intro w' hS'; go_simp; try with_reducible rfl)
      try simp only [Act.put, List.setIfInBounds_toArray, List.set_cons_zero, List.set_cons_succ]
      -- 6
      refine sched_run (v := ?_) (by rfl) ?_ ?_
      rotate_left
      · (intro w' hS'; go_simp; try with_reducible rfl)
      try simp only [Act.put, List.setIfInBounds_toArray, List.set_cons_zero, List.set_cons_succ]
      -- 7
      refine sched_run (v := ?_) (by rfl) ?_ ?_
      rotate_left
      · (intro w' hS'; go_simp; try with_reducible rfl)
      try simp only [Act.put, List.setIfInBounds_toArray, List.set_cons_zero, List.set_cons_succ]
      -- 8
      refine sched_run (v := ?_) (by rfl) ?_ ?_
      rotate_left
      · (intro w' hS'; obtain ⟨a0, a1, b0, b1, c0, c1⟩ := HLD.out w' hS'; go_simp; try with_reducible rfl)
      try simp only [Act.put, List.setIfInBounds_toArray, List.set_cons_zero, List.set_cons_succ]
      -- 9
      refine sched_run (v := ?_) (by rfl) ?_ ?_
      rotate_left
      · (intro w' hS'; go_simp; try with_reducible rfl)
      try simp only [Act.put, List.setIfInBounds_toArray, List.set_cons_zero, List.set_cons_succ]
      -- 10
      refine sched_run (v := ?_) (by rfl) ?_ ?_
      rotate_left
      · (intro w' hS'; go_simp; try with_reducible rfl)
      try simp only [Act.put, List.setIfInBounds_toArray, List.set_cons_zero, List.set_cons_succ]
      -- 11
      refine sched_skip (by rfl) ?_
      try simp only [Act.put, List.setIfInBounds_toArray, List.set_cons_zero, List.set_cons_succ]
      -- 12
      refine sched_skip (by rfl) ?_
      try simp only [Act.put, List.setIfInBounds_toArray, List.set_cons_zero, List.set_cons_succ]
      -- 15
      refine sched_skip (by rfl) ?_
      try simp only [Act.put, List.setIfInBounds_toArray, List.set_cons_zero, List.set_cons_succ]
      -- 13
      refine sched_skip' (by rfl) ?_
      try simp only [Act.put, List.setIfInBounds_toArray, List.set_cons_zero, List.set_cons_succ]
      -- 14
      refine sched_skip (by rfl) ?_
      try simp only [Act.put, List.setIfInBounds_toArray, List.set_cons_zero, List.set_cons_succ]
      -- 16
      refine sched_skip' (by rfl) ?_
      try simp only [Act.put, List.setIfInBounds_toArray, List.set_cons_zero, List.set_cons_succ]
      -- 17
      refine sched_skip (by rfl) ?_
      try simp only [Act.put, List.setIfInBounds_toArray, List.set_cons_zero, List.set_cons_succ]
      -- 18
      refine sched_run (v := ?_) (by rfl) ?_ ?_
      rotate_left
      · (intro w' hS'; go_simp; try with_reducible rfl)
      try simp only [Act.put, List.setIfInBounds_toArray, List.set_cons_zero, List.set_cons_succ]
      -- 19
      refine sched_run (v := ?_) (by rfl) ?_ ?_
      rotate_left
      · (intro w' hS'; go_simp; try with_reducible rfl)
      try simp only [Act.put, List.setIfInBounds_toArray, List.set_cons_zero, List.set_cons_succ]
      -- 20
      refine sched_run (v := ?_) (by rfl) ?_ ?_
      rotate_left
      · (intro w' hS'; go_simp; try with_reducible rfl)
      try simp only [Act.put, List.setIfInBounds_toArray, List.set_cons_zero, List.set_cons_succ]
      -- 21
      refine sched_run (v := ?_) (by rfl) ?_ ?_
      rotate_left
      · (intro w' hS'; go_simp; try with_reducible rfl)
      try simp only [Act.put, List.setIfInBounds_toArray, List.set_cons_zero, List.set_cons_succ]
      -- 22
      refine sched_run (v := ?_) (by rfl) ?_ ?_
      rotate_left
      · (intro w' hS'; obtain ⟨a0, a1, b0, b1, c0, c1⟩ := HLD.out w' hS'; go_simp; try with_reducible rfl)
      try simp only [Act.put, List.setIfInBounds_toArray, List.set_cons_zero, List.set_cons_succ]
      -- 23
      refine sched_run (v := ?_) (by rfl) ?_ ?_
      rotate_left
      · (intro w' hS'; go_simp; try with_reducible rfl)
      try simp only [Act.put, List.setIfInBounds_toArray, List.set_cons_zero, List.set_cons_succ]
      -- 24
      refine sched_call (by rfl) (fun K hK => ?_)
      go_simp
      refine (specPackNumbers_c _ _ xs _ fx (rx.below hv1 rx.lt)).mono ?_
      rintro e v2 ⟨r24, rfl, ⟨x24, f24, rfl, hr24, hn24, hf24⟩, hb24⟩
      have hv2 : Below W.heap.size W v2 := hv1.trans (hb24.mono hv1.size)
      obtain ⟨A24, c24, rfl⟩ := hr24.form
      clear hn24 hf24
      refine hK _ _ hv2 ?_
      try simp only [Act.put, List.setIfInBounds_toArray, List.set_cons_zero, List.set_cons_succ]
      -- 25
      refine sched_run (v := ?_) (by rfl) ?_ ?_
      rotate_left
      · (intro w' hS'; go_simp; try with_reducible rfl)
      try simp only [Act.put, List.setIfInBounds_toArray, List.set_cons_zero, List.set_cons_succ]
      -- 26
      refine sched_run (v := ?_) (by rfl) ?_ ?_
      rotate_left
      · (intro w' hS'; go_simp; try with_reducible rfl)
      try simp only [Act.put, List.setIfInBounds_toArray, List.set_cons_zero, List.set_cons_succ]
      -- 27
      refine sched_run (v := ?_) (by rfl) ?_ ?_
      rotate_left
      · (intro w' hS'; go_simp; try with_reducible rfl)
      try simp only [Act.put, List.setIfInBounds_toArray, List.set_cons_zero, List.set_cons_succ]
      -- 28
      refine sched_run (v := ?_) (by rfl) ?_ ?_
      rotate_left
      · (intro w' hS'; go_simp; try with_reducible rfl)
      try simp only [Act.put, List.setIfInBounds_toArray, List.set_cons_zero, List.set_cons_succ]
      -- 29
      refine sched_run (v := ?_) (by rfl) ?_ ?_
      rotate_left
      · (intro w' hS'; go_simp; try with_reducible rfl)
      try simp only [Act.put, List.setIfInBounds_toArray, List.set_cons_zero, List.set_cons_succ]
      -- 30
      refine sched_run (v := ?_) (by rfl) ?_ ?_
      rotate_left
      · (intro w' hS'; obtain ⟨a0, a1, b0, b1, c0, c1⟩ := HLD.out w' hS'; go_simp; try with_reducible rfl)
      try simp only [Act.put, List.setIfInBounds_toArray, List.set_cons_zero, List.set_cons_succ]
      -- 31
      refine sched_run (v := ?_) (by rfl) ?_ ?_
      rotate_left
      · (intro w' hS'; go_simp; try with_reducible rfl)
      try simp only [Act.put, List.setIfInBounds_toArray, List.set_cons_zero, List.set_cons_succ]
      -- 32
      refine sched_run (v := ?_) (by rfl) ?_ ?_
      rotate_left
      · (intro w' hS'; go_simp; try with_reducible rfl)
      try simp only [Act.put, List.setIfInBounds_toArray, List.set_cons_zero, List.set_cons_succ]
      -- 33
      refine sched_skip (by rfl) ?_
      try simp only [Act.put, List.setIfInBounds_toArray, List.set_cons_zero, List.set_cons_succ]
      -- 34
      refine sched_skip (by rfl) ?_
      try simp only [Act.put, List.setIfInBounds_toArray, List.set_cons_zero, List.set_cons_succ]
      -- 37
      refine sched_skip (by rfl) ?_
      try simp only [Act.put, List.setIfInBounds_toArray, List.set_cons_zero, List.set_cons_succ]
      -- 35
      refine sched_skip' (by rfl) ?_
      try simp only [Act.put, List.setIfInBounds_toArray, List.set_cons_zero, List.set_cons_succ]
      -- 36
      refine sched_skip (by rfl) ?_
      try simp only [Act.put, List.setIfInBounds_toArray, List.set_cons_zero, List.set_cons_succ]
      -- 38
      refine sched_skip' (by rfl) ?_
      try simp only [Act.put, List.setIfInBounds_toArray, List.set_cons_zero, List.set_cons_succ]
      -- 39
      refine sched_skip (by rfl) ?_
      try simp only [Act.put, List.setIfInBounds_toArray, List.set_cons_zero, List.set_cons_succ]
      -- 40
      refine sched_skip (by rfl) ?_
      try simp only [Act.put, List.setIfInBounds_toArray, List.set_cons_zero, List.set_cons_succ]
      -- 41
      refine sched_skip (by rfl) ?_
      try simp only [Act.put, List.setIfInBounds_toArray, List.set_cons_zero, List.set_cons_succ]
      -- 42
      refine sched_skip (by rfl) ?_
      try simp only [Act.put, List.setIfInBounds_toArray, List.set_cons_zero, List.set_cons_succ]
      -- 43
      refine sched_skip' (by rfl) ?_
      try simp only [Act.put, List.setIfInBounds_toArray, List.set_cons_zero, List.set_cons_succ]
      -- 44
      refine sched_skip (by rfl) ?_
      try simp only [Act.put, List.setIfInBounds_toArray, List.set_cons_zero, List.set_cons_succ]
      -- 45
      refine sched_skip (by rfl) ?_
      try simp only [Act.put, List.setIfInBounds_toArray, List.set_cons_zero, List.set_cons_succ]
      -- 46
      refine sched_skip (by rfl) ?_
      try simp only [Act.put, List.setIfInBounds_toArray, List.set_cons_zero, List.set_cons_succ]
      -- 47
      refine sched_run (v := ?_) (by rfl) ?_ ?_
      rotate_left
      · (intro w' hS'; go_simp; try with_reducible rfl)
      try simp only [Act.put, List.setIfInBounds_toArray, List.set_cons_zero, List.set_cons_succ]
      -- 48
      refine sched_run (v := ?_) (by rfl) ?_ ?_
      rotate_left
      · (intro w' hS'; go_simp; try with_reducible rfl)
      try simp only [Act.put, List.setIfInBounds_toArray, List.set_cons_zero, List.set_cons_succ]
      -- 49
      refine sched_run (v := ?_) (by rfl) ?_ ?_
      rotate_left
      · (intro w' hS'; go_simp; try with_reducible rfl)
      try simp only [Act.put, List.setIfInBounds_toArray, List.set_cons_zero, List.set_cons_succ]
      -- 50
      refine sched_run (v := ?_) (by rfl) ?_ ?_
      rotate_left
      · (intro w' hS'; go_simp; try with_reducible rfl)
      try simp only [Act.put, List.setIfInBounds_toArray, List.set_cons_zero, List.set_cons_succ]
      -- 51
      refine sched_run (v := ?_) (by rfl) ?_ ?_
      rotate_left
      · (intro w' hS'; obtain ⟨a0, a1, b0, b1, c0, c1⟩ := HLD.out w' hS'; go_simp; try with_reducible rfl)
      try simp only [Act.put, List.setIfInBounds_toArray, List.set_cons_zero, List.set_cons_succ]
      -- 52
      refine sched_run (v := ?_) (by rfl) ?_ ?_
      rotate_left
      · (intro w' hS'; go_simp; try with_reducible rfl)
      try simp only [Act.put, List.setIfInBounds_toArray, List.set_cons_zero, List.set_cons_succ]
      -- 53
      refine sched_call (by rfl) (fun K hK => ?_)
      go_simp
      refine (specPutNumber_c n _).mono ?_
      rintro e v3 ⟨r53, rfl, ⟨x53, f53, rfl, hr53, hn53, hf53⟩, hb53⟩
      have hv3 : Below W.heap.size W v3 := hv2.trans (hb53.mono hv2.size)
      obtain ⟨A53, c53, rfl⟩ := hr53.form
      clear hn53 hf53
      refine hK _ _ hv3 ?_
      try simp only [Act.put, List.setIfInBounds_toArray, List.set_cons_zero, List.set_cons_succ]
      -- 54
      refine sched_run (v := ?_) (by rfl) ?_ ?_
      rotate_left
      · (intro w' hS'; go_simp; try with_reducible rfl)
      try simp only [Act.put, List.setIfInBounds_toArray, List.set_cons_zero, List.set_cons_succ]
      -- 55
      refine sched_run (v := ?_) (by rfl) ?_ ?_
      rotate_left
      · (intro w' hS'; go_simp; try with_reducible rfl)
      try simp only [Act.put, List.setIfInBounds_toArray, List.set_cons_zero, List.set_cons_succ]
      -- 56
      refine sched_run (v := ?_) (by rfl) ?_ ?_
      rotate_left
      · (intro w' hS'; go_simp; try with_reducible rfl)
      try simp only [Act.put, List.setIfInBounds_toArray, List.set_cons_zero, List.set_cons_succ]
      -- 57
      refine sched_run (v := ?_) (by rfl) ?_ ?_
      rotate_left
      · (intro w' hS'; go_simp; try with_reducible rfl)
      try simp only [Act.put, List.setIfInBounds_toArray, List.set_cons_zero, List.set_cons_succ]
      -- 58
      refine sched_run (v := ?_) (by rfl) ?_ ?_
      rotate_left
      · (intro w' hS'; go_simp; try with_reducible rfl)
      try simp only [Act.put, List.setIfInBounds_toArray, List.set_cons_zero, List.set_cons_succ]
      -- 59
      refine sched_run (v := ?_) (by rfl) ?_ ?_
      rotate_left
      · (intro w' hS'; obtain ⟨a0, a1, b0, b1, c0, c1⟩ := HLD.out w' hS'; go_simp; try with_reducible rfl)
      try simp only [Act.put, List.setIfInBounds_toArray, List.set_cons_zero, List.set_cons_succ]
      -- 60
      refine sched_run (v := ?_) (by rfl) ?_ ?_
      rotate_left
      · (intro w' hS'; go_simp; try with_reducible rfl)
      try simp only [Act.put, List.setIfInBounds_toArray, List.set_cons_zero, List.set_cons_succ]
      -- 61
      refine sched_run (v := ?_) (by rfl) ?_ ?_
      rotate_left
      · (intro w' hS'; go_simp; try with_reducible rfl)
      try simp only [Act.put, List.setIfInBounds_toArray, List.set_cons_zero, List.set_cons_succ]
      -- 62
      refine sched_skip (by rfl) ?_
      try simp only [Act.put, List.setIfInBounds_toArray, List.set_cons_zero, List.set_cons_succ]
      -- 63
      refine sched_skip (by rfl) ?_
      try simp only [Act.put, List.setIfInBounds_toArray, List.set_cons_zero, List.set_cons_succ]
      -- 66
      refine sched_skip (by rfl) ?_
      try simp only [Act.put, List.setIfInBounds_toArray, List.set_cons_zero, List.set_cons_succ]
      -- 64
      refine sched_skip' (by rfl) ?_
      try simp only [Act.put, List.setIfInBounds_toArray, List.set_cons_zero, List.set_cons_succ]
      -- 65
      refine sched_skip (by rfl) ?_
      try simp only [Act.put, List.setIfInBounds_toArray, List.set_cons_zero, List.set_cons_succ]
      -- 67
      refine sched_skip (by rfl) ?_
      try simp only [Act.put, List.setIfInBounds_toArray, List.set_cons_zero, List.set_cons_succ]
      -- 68
      refine sched_run (v := ?_) (by rfl) ?_ ?_
      rotate_left
      · (intro w' hS'; go_simp; try with_reducible rfl)
      try simp only [Act.put, List.setIfInBounds_toArray, List.set_cons_zero, List.set_cons_succ]
      -- 69
      refine sched_run (v := ?_) (by rfl) ?_ ?_
      rotate_left
      · (intro w' hS'; go_simp; try with_reducible rfl)
      try simp only [Act.put, List.setIfInBounds_toArray, List.set_cons_zero, List.set_cons_succ]
      refine sched_done ?_
      go_wp2_with fail
      refine (implGetNumber_c _ _ bs p _ fb hN.pwf hN.bby (rb.below hv3 rb.lt)).mono ?_
      rintro e v4 ⟨rfl, hbx3⟩
      have hv4 : Below W.heap.size W v4 := hv3.trans (hbx3.mono hv3.size)
      go_wp2_with fail
      refine (specGetNumber_c _ _ bs p _ fb hN.pwf hN.bby (rb.below hv4 rb.lt)).mono ?_
      rintro e v5 ⟨rfl, hbx4⟩
      have hv5 : Below W.heap.size W v5 := hv4.trans (hbx4.mono hv4.size)
      go_wp2_with fail
      refine (implGetNumber_c _ _ bs p _ fb hN.pwf hN.bby (rb.below hv5 rb.lt)).mono ?_
      rintro e v6 ⟨rfl, hbx5⟩
      have hv6 : Below W.heap.size W v6 := hv5.trans (hbx5.mono hv5.size)
      go_wp2_with fail
      refine (specGetNumber_c _ _ bs p _ fb hN.pwf hN.bby (rb.below hv6 rb.lt)).mono ?_
      rintro e v7 ⟨rfl, hbx6⟩
      have hv7 : Below W.heap.size W v7 := hv6.trans (hbx6.mono hv6.size)
      go_wp2
      go_ret
      exact ⟨rfl, hN.bel.trans (hv7.mono hN.bel.size)⟩
end Go.Proofs.Ytfbplblpgdpilaa
