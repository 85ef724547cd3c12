/-
  The model's draw of an operation: it has no fault.
-/
import Derived.Test.YtocllaendofndaaDoorDraw3a
namespace Go.Proofs.YtocllaendofndaaDoor
open Go.RowKit

theorem drawn_of {o : O} (h1 : formB o = true) (h2 : rangeB o = true) (h3 : ¬ (o.k = 6 ∧ o.tt = o.lc)) : opF o = 0 := by unfold opF; rw [if_pos h1, if_pos h2, if_neg h3]
theorem drawn_12 {k rq lc sk qt : Int} (hk : k = 1 ∨ k = 2) (h1 : 0 ≤ rq ∧ rq ≤ 999) (h2 : 0 ≤ lc ∧ lc ≤ 3) (h3 : 1 ≤ sk ∧ sk ≤ 20) (h4 : 1 ≤ qt ∧ qt ≤ 9999) : opF ⟨k, rq, lc, 0, sk, qt, 0⟩ = 0 := by
  rcases hk with rfl | rfl <;> refine drawn_of ?_ ?_ ?_ <;> simp [formB, rangeB, placedB, heldB, toB, inB, isB] <;> omega
theorem drawn_3 {rq lc tt sk qt hd : Int} (h1 : 0 ≤ rq ∧ rq ≤ 999) (h2 : 0 ≤ lc ∧ lc ≤ 3) (h5 : 1 ≤ tt ∧ tt ≤ 999) (h3 : 1 ≤ sk ∧ sk ≤ 20) (h4 : 1 ≤ qt ∧ qt ≤ 9999) (h6 : 1 ≤ hd ∧ hd ≤ 50) : opF ⟨3, rq, lc, tt, sk, qt, hd⟩ = 0 := by
  refine drawn_of ?_ ?_ ?_ <;> simp [formB, rangeB, placedB, heldB, toB, inB, isB] <;> omega
theorem drawn_45 {k rq hd : Int} (hk : k = 4 ∨ k = 5) (h1 : 0 ≤ rq ∧ rq ≤ 999) (h6 : 1 ≤ hd ∧ hd ≤ 50) : opF ⟨k, rq, 0, 0, 0, 0, hd⟩ = 0 := by
  rcases hk with rfl | rfl <;> refine drawn_of ?_ ?_ ?_ <;> simp [formB, rangeB, placedB, heldB, toB, inB] <;> omega
theorem drawn_6 {rq lc tt sk qt : Int} (h1 : 0 ≤ rq ∧ rq ≤ 999) (h2 : 0 ≤ lc ∧ lc ≤ 3) (h5 : 0 ≤ tt ∧ tt ≤ 3) (h3 : 1 ≤ sk ∧ sk ≤ 20) (h4 : 1 ≤ qt ∧ qt ≤ 9999) (hne : tt ≠ lc) : opF ⟨6, rq, lc, tt, sk, qt, 0⟩ = 0 := by
  refine drawn_of ?_ ?_ ?_ <;> simp [formB, rangeB, placedB, heldB, toB, inB, isB] <;> omega
theorem drawn_7 {qt : Int} (h4 : 1 ≤ qt ∧ qt ≤ 999) : opF ⟨7, 0, 0, 0, 0, qt, 0⟩ = 0 := by
  refine drawn_of ?_ ?_ ?_ <;> simp [formB, rangeB, placedB, heldB, toB, inB] <;> omega

set_option maxRecDepth 100000 in
set_option maxHeartbeats 8000000 in
theorem l3Draw_c (w : World) (s : Nat) (zs : List Int) (a : Nat) (h : Src w s zs a) (ha : a < 900000) :
    Calls Tryd.prog 24 #[.pointer (some ⟨s, 0, none⟩)] w (DOpPost w s zs a 12 (fun o => opF o = 0)) := by
  have hlt := h.lt
  have hd0 := (Drawn.start h).alloc (obox o0)
  have hr0 := heap_new w (obox o0) rfl
  have hp := pick_d (w.alloc (obox o0)) s zs (a + 0) [1, 1, 1, 2, 3, 3, 4, 5, 6, 7] hd0.src (by omega) (by simp) (by simp)
  rw [show (w.alloc (obox o0)).heap.size = w.heap.size + 1 by simp] at hp
  have HP := Lib.hid hp; have HD0 := Lib.hid hd0; have HR0 := Lib.hid hr0
  clear hp hd0 hr0 h
  go_enter Tryd.func24, Tryd.ntmps24
  go_wp2_with fail
  refine HP.out.mono ?_
  rintro e x0 ⟨k, rfl, hk, hd⟩
  have hge : w.heap.size < x0.heap.size := by have := hd.but.size; simp at this; omega
  have hds : DS w s zs a 1 x0.heap.size ⟨k, 0, 0, 0, 0, 0, 0⟩ (x0.alloc (obox ⟨k, 0, 0, 0, 0, 0, 0⟩)) :=
    ⟨by have := (HD0.out.trans hd).alloc (obox ⟨k, 0, 0, 0, 0, 0, 0⟩); simpa using this, heap_new _ _ rfl, heap_old (hd.but.heap HR0.out (by simp; omega)), hlt, hge⟩
  have D := Lib.hid hds
  clear hds hd HP HD0 HR0
  have hk7 : k = 1 ∨ k = 2 ∨ k = 3 ∨ k = 4 ∨ k = 5 ∨ k = 6 ∨ k = 7 := by simp at hk; omega
  clear hk
  go_upto_region 2 with (fail)
  generalize x0.alloc (obox ⟨k, 0, 0, 0, 0, 0, 0⟩) = y0 at *
  generalize hg : x0.heap.size = g at *
  clear hg
  obtain ⟨⟨c0, c1, c2, c3, c4, c5, c6, cz⟩, cf, ⟨r0, r1, r2, r3, r4, r5, r6, rz⟩, rf⟩ := D.out.cells
  have hne : w.heap.size ≠ g := by omega
  rcases hk7 with rfl | rfl | rfl | rfl | rfl | rfl | rfl
  · go_wp2_with fail
    clear c0 c1 c2 c3 c4 c5 c6 cz cf r0 r1 r2 r3 r4 r5 r6 rz rf
    refine (chance_d _ s zs _ 2 D.out.drawn.src (by omega) (by omega) (by omega)).mono ?_
    rintro e x1 ⟨b, rfl, hd⟩
    replace D := Lib.hid (D.out.call hd)
    clear hd
    obtain ⟨⟨c0, c1, c2, c3, c4, c5, c6, cz⟩, cf, ⟨r0, r1, r2, r3, r4, r5, r6, rz⟩, rf⟩ := D.out.cells
    cases b
    · go_wp2_with fail
      clear c0 c1 c2 c3 c4 c5 c6 cz cf r0 r1 r2 r3 r4 r5 r6 rz rf
      refine (next_d _ s zs _ 3 D.out.drawn.src (by omega) (by omega) (by omega)).mono ?_
      rintro e x2 ⟨vl, rfl, vl0, vl1, hd⟩
      replace D := Lib.hid (D.out.call hd)
      clear hd
      obtain ⟨⟨c0, c1, c2, c3, c4, c5, c6, cz⟩, cf, ⟨r0, r1, r2, r3, r4, r5, r6, rz⟩, rf⟩ := D.out.cells
      go_wp2_with fail
      replace D := Lib.hid (D.out.set (i := 2) (v := vl) (o' := ⟨1, 0, vl, 0, 0, 0, 0⟩) (by rfl))
      clear c0 c1 c2 c3 c4 c5 c6 cz cf r0 r1 r2 r3 r4 r5 r6 rz rf
      have hz2 := set_size x2 ⟨g, 2, none⟩ (.int .i64 (vl))
      generalize x2.setCell ⟨g, 2, none⟩ (.int .i64 (vl)) = y2 at *
      refine (next_d _ s zs _ 3 D.out.drawn.src (by omega) (by omega) (by omega)).mono ?_
      rintro e x3 ⟨vs, rfl, vs0, vs1, hd⟩
      replace D := Lib.hid (D.out.call hd)
      clear hd
      obtain ⟨⟨c0, c1, c2, c3, c4, c5, c6, cz⟩, cf, ⟨r0, r1, r2, r3, r4, r5, r6, rz⟩, rf⟩ := D.out.cells
      go_wp2_with fail
      replace D := Lib.hid (D.out.set (i := 4) (v := 1 + vs) (o' := ⟨1, 0, vl, 0, 1 + vs, 0, 0⟩) (by rfl))
      clear c0 c1 c2 c3 c4 c5 c6 cz cf r0 r1 r2 r3 r4 r5 r6 rz rf
      have hz3 := set_size x3 ⟨g, 4, none⟩ (.int .i64 (1 + vs))
      generalize x3.setCell ⟨g, 4, none⟩ (.int .i64 (1 + vs)) = y3 at *
      refine (pick_e _ s zs _ _ [1, 2, 5, 20] D.out.drawn.src (by omega) (by omega) (by simp) (by simp)).mono ?_
      rintro e x4 ⟨vq, rfl, hvq, hd⟩
      have vq0 : vq = 1 ∨ vq = 2 ∨ vq = 5 ∨ vq = 20 := by simpa using hvq
      clear hvq
      replace D := Lib.hid (D.out.call hd)
      clear hd
      obtain ⟨⟨c0, c1, c2, c3, c4, c5, c6, cz⟩, cf, ⟨r0, r1, r2, r3, r4, r5, r6, rz⟩, rf⟩ := D.out.cells
      go_wp2_with fail
      replace D := Lib.hid (D.out.set (i := 5) (v := vq) (o' := ⟨1, 0, vl, 0, 1 + vs, vq, 0⟩) (by rfl))
      exact bodyPost_ret (v := ov ⟨1, 0, vl, 0, 1 + vs, vq, 0⟩) (by simp [results, Tryd.results24, go_sem, r0, r1, r2, r3, r4, r5, r6]) rfl ⟨⟨1, 0, vl, 0, 1 + vs, vq, 0⟩, _, rfl, drawn_12 (by omega) ⟨by omega, by omega⟩ ⟨by omega, by omega⟩ ⟨by omega, by omega⟩ ⟨by omega, by omega⟩, by omega, D.out.drawn.set7 hlt _ _ _ _ _ _ _⟩
    · go_wp2_with fail
      clear c0 c1 c2 c3 c4 c5 c6 cz cf r0 r1 r2 r3 r4 r5 r6 rz rf
      refine (next_d _ s zs _ 9 D.out.drawn.src (by omega) (by omega) (by omega)).mono ?_
      rintro e x2 ⟨vr, rfl, vr0, vr1, hd⟩
      replace D := Lib.hid (D.out.call hd)
      clear hd
      obtain ⟨⟨c0, c1, c2, c3, c4, c5, c6, cz⟩, cf, ⟨r0, r1, r2, r3, r4, r5, r6, rz⟩, rf⟩ := D.out.cells
      go_wp2_with fail
      replace D := Lib.hid (D.out.set (i := 1) (v := 1 + vr) (o' := ⟨1, 1 + vr, 0, 0, 0, 0, 0⟩) (by rfl))
      clear c0 c1 c2 c3 c4 c5 c6 cz cf r0 r1 r2 r3 r4 r5 r6 rz rf
      have hz2 := set_size x2 ⟨g, 1, none⟩ (.int .i64 (1 + vr))
      generalize x2.setCell ⟨g, 1, none⟩ (.int .i64 (1 + vr)) = y2 at *
      refine (next_d _ s zs _ 3 D.out.drawn.src (by omega) (by omega) (by omega)).mono ?_
      rintro e x3 ⟨vl, rfl, vl0, vl1, hd⟩
      replace D := Lib.hid (D.out.call hd)
      clear hd
      obtain ⟨⟨c0, c1, c2, c3, c4, c5, c6, cz⟩, cf, ⟨r0, r1, r2, r3, r4, r5, r6, rz⟩, rf⟩ := D.out.cells
      go_wp2_with fail
      replace D := Lib.hid (D.out.set (i := 2) (v := vl) (o' := ⟨1, 1 + vr, vl, 0, 0, 0, 0⟩) (by rfl))
      clear c0 c1 c2 c3 c4 c5 c6 cz cf r0 r1 r2 r3 r4 r5 r6 rz rf
      have hz3 := set_size x3 ⟨g, 2, none⟩ (.int .i64 (vl))
      generalize x3.setCell ⟨g, 2, none⟩ (.int .i64 (vl)) = y3 at *
      refine (next_d _ s zs _ 3 D.out.drawn.src (by omega) (by omega) (by omega)).mono ?_
      rintro e x4 ⟨vs, rfl, vs0, vs1, hd⟩
      replace D := Lib.hid (D.out.call hd)
      clear hd
      obtain ⟨⟨c0, c1, c2, c3, c4, c5, c6, cz⟩, cf, ⟨r0, r1, r2, r3, r4, r5, r6, rz⟩, rf⟩ := D.out.cells
      go_wp2_with fail
      replace D := Lib.hid (D.out.set (i := 4) (v := 1 + vs) (o' := ⟨1, 1 + vr, vl, 0, 1 + vs, 0, 0⟩) (by rfl))
      clear c0 c1 c2 c3 c4 c5 c6 cz cf r0 r1 r2 r3 r4 r5 r6 rz rf
      have hz4 := set_size x4 ⟨g, 4, none⟩ (.int .i64 (1 + vs))
      generalize x4.setCell ⟨g, 4, none⟩ (.int .i64 (1 + vs)) = y4 at *
      refine (pick_e _ s zs _ _ [1, 2, 5, 20] D.out.drawn.src (by omega) (by omega) (by simp) (by simp)).mono ?_
      rintro e x5 ⟨vq, rfl, hvq, hd⟩
      have vq0 : vq = 1 ∨ vq = 2 ∨ vq = 5 ∨ vq = 20 := by simpa using hvq
      clear hvq
      replace D := Lib.hid (D.out.call hd)
      clear hd
      obtain ⟨⟨c0, c1, c2, c3, c4, c5, c6, cz⟩, cf, ⟨r0, r1, r2, r3, r4, r5, r6, rz⟩, rf⟩ := D.out.cells
      go_wp2_with fail
      replace D := Lib.hid (D.out.set (i := 5) (v := vq) (o' := ⟨1, 1 + vr, vl, 0, 1 + vs, vq, 0⟩) (by rfl))
      exact bodyPost_ret (v := ov ⟨1, 1 + vr, vl, 0, 1 + vs, vq, 0⟩) (by simp [results, Tryd.results24, go_sem, r0, r1, r2, r3, r4, r5, r6]) rfl ⟨⟨1, 1 + vr, vl, 0, 1 + vs, vq, 0⟩, _, rfl, drawn_12 (by omega) ⟨by omega, by omega⟩ ⟨by omega, by omega⟩ ⟨by omega, by omega⟩ ⟨by omega, by omega⟩, by omega, D.out.drawn.set7 hlt _ _ _ _ _ _ _⟩
  · go_wp2_with fail
    clear c0 c1 c2 c3 c4 c5 c6 cz cf r0 r1 r2 r3 r4 r5 r6 rz rf
    refine (chance_d _ s zs _ 2 D.out.drawn.src (by omega) (by omega) (by omega)).mono ?_
    rintro e x1 ⟨b, rfl, hd⟩
    replace D := Lib.hid (D.out.call hd)
    clear hd
    obtain ⟨⟨c0, c1, c2, c3, c4, c5, c6, cz⟩, cf, ⟨r0, r1, r2, r3, r4, r5, r6, rz⟩, rf⟩ := D.out.cells
    cases b
    · go_wp2_with fail
      clear c0 c1 c2 c3 c4 c5 c6 cz cf r0 r1 r2 r3 r4 r5 r6 rz rf
      refine (next_d _ s zs _ 3 D.out.drawn.src (by omega) (by omega) (by omega)).mono ?_
      rintro e x2 ⟨vl, rfl, vl0, vl1, hd⟩
      replace D := Lib.hid (D.out.call hd)
      clear hd
      obtain ⟨⟨c0, c1, c2, c3, c4, c5, c6, cz⟩, cf, ⟨r0, r1, r2, r3, r4, r5, r6, rz⟩, rf⟩ := D.out.cells
      go_wp2_with fail
      replace D := Lib.hid (D.out.set (i := 2) (v := vl) (o' := ⟨2, 0, vl, 0, 0, 0, 0⟩) (by rfl))
      clear c0 c1 c2 c3 c4 c5 c6 cz cf r0 r1 r2 r3 r4 r5 r6 rz rf
      have hz2 := set_size x2 ⟨g, 2, none⟩ (.int .i64 (vl))
      generalize x2.setCell ⟨g, 2, none⟩ (.int .i64 (vl)) = y2 at *
      refine (next_d _ s zs _ 3 D.out.drawn.src (by omega) (by omega) (by omega)).mono ?_
      rintro e x3 ⟨vs, rfl, vs0, vs1, hd⟩
      replace D := Lib.hid (D.out.call hd)
      clear hd
      obtain ⟨⟨c0, c1, c2, c3, c4, c5, c6, cz⟩, cf, ⟨r0, r1, r2, r3, r4, r5, r6, rz⟩, rf⟩ := D.out.cells
      go_wp2_with fail
      replace D := Lib.hid (D.out.set (i := 4) (v := 1 + vs) (o' := ⟨2, 0, vl, 0, 1 + vs, 0, 0⟩) (by rfl))
      clear c0 c1 c2 c3 c4 c5 c6 cz cf r0 r1 r2 r3 r4 r5 r6 rz rf
      have hz3 := set_size x3 ⟨g, 4, none⟩ (.int .i64 (1 + vs))
      generalize x3.setCell ⟨g, 4, none⟩ (.int .i64 (1 + vs)) = y3 at *
      refine (pick_e _ s zs _ _ [1, 2, 5, 20] D.out.drawn.src (by omega) (by omega) (by simp) (by simp)).mono ?_
      rintro e x4 ⟨vq, rfl, hvq, hd⟩
      have vq0 : vq = 1 ∨ vq = 2 ∨ vq = 5 ∨ vq = 20 := by simpa using hvq
      clear hvq
      replace D := Lib.hid (D.out.call hd)
      clear hd
      obtain ⟨⟨c0, c1, c2, c3, c4, c5, c6, cz⟩, cf, ⟨r0, r1, r2, r3, r4, r5, r6, rz⟩, rf⟩ := D.out.cells
      go_wp2_with fail
      replace D := Lib.hid (D.out.set (i := 5) (v := vq) (o' := ⟨2, 0, vl, 0, 1 + vs, vq, 0⟩) (by rfl))
      exact bodyPost_ret (v := ov ⟨2, 0, vl, 0, 1 + vs, vq, 0⟩) (by simp [results, Tryd.results24, go_sem, r0, r1, r2, r3, r4, r5, r6]) rfl ⟨⟨2, 0, vl, 0, 1 + vs, vq, 0⟩, _, rfl, drawn_12 (by omega) ⟨by omega, by omega⟩ ⟨by omega, by omega⟩ ⟨by omega, by omega⟩ ⟨by omega, by omega⟩, by omega, D.out.drawn.set7 hlt _ _ _ _ _ _ _⟩
    · go_wp2_with fail
      clear c0 c1 c2 c3 c4 c5 c6 cz cf r0 r1 r2 r3 r4 r5 r6 rz rf
      refine (next_d _ s zs _ 9 D.out.drawn.src (by omega) (by omega) (by omega)).mono ?_
      rintro e x2 ⟨vr, rfl, vr0, vr1, hd⟩
      replace D := Lib.hid (D.out.call hd)
      clear hd
      obtain ⟨⟨c0, c1, c2, c3, c4, c5, c6, cz⟩, cf, ⟨r0, r1, r2, r3, r4, r5, r6, rz⟩, rf⟩ := D.out.cells
      go_wp2_with fail
      replace D := Lib.hid (D.out.set (i := 1) (v := 1 + vr) (o' := ⟨2, 1 + vr, 0, 0, 0, 0, 0⟩) (by rfl))
      clear c0 c1 c2 c3 c4 c5 c6 cz cf r0 r1 r2 r3 r4 r5 r6 rz rf
      have hz2 := set_size x2 ⟨g, 1, none⟩ (.int .i64 (1 + vr))
      generalize x2.setCell ⟨g, 1, none⟩ (.int .i64 (1 + vr)) = y2 at *
      refine (next_d _ s zs _ 3 D.out.drawn.src (by omega) (by omega) (by omega)).mono ?_
      rintro e x3 ⟨vl, rfl, vl0, vl1, hd⟩
      replace D := Lib.hid (D.out.call hd)
      clear hd
      obtain ⟨⟨c0, c1, c2, c3, c4, c5, c6, cz⟩, cf, ⟨r0, r1, r2, r3, r4, r5, r6, rz⟩, rf⟩ := D.out.cells
      go_wp2_with fail
      replace D := Lib.hid (D.out.set (i := 2) (v := vl) (o' := ⟨2, 1 + vr, vl, 0, 0, 0, 0⟩) (by rfl))
      clear c0 c1 c2 c3 c4 c5 c6 cz cf r0 r1 r2 r3 r4 r5 r6 rz rf
      have hz3 := set_size x3 ⟨g, 2, none⟩ (.int .i64 (vl))
      generalize x3.setCell ⟨g, 2, none⟩ (.int .i64 (vl)) = y3 at *
      refine (next_d _ s zs _ 3 D.out.drawn.src (by omega) (by omega) (by omega)).mono ?_
      rintro e x4 ⟨vs, rfl, vs0, vs1, hd⟩
      replace D := Lib.hid (D.out.call hd)
      clear hd
      obtain ⟨⟨c0, c1, c2, c3, c4, c5, c6, cz⟩, cf, ⟨r0, r1, r2, r3, r4, r5, r6, rz⟩, rf⟩ := D.out.cells
      go_wp2_with fail
      replace D := Lib.hid (D.out.set (i := 4) (v := 1 + vs) (o' := ⟨2, 1 + vr, vl, 0, 1 + vs, 0, 0⟩) (by rfl))
      clear c0 c1 c2 c3 c4 c5 c6 cz cf r0 r1 r2 r3 r4 r5 r6 rz rf
      have hz4 := set_size x4 ⟨g, 4, none⟩ (.int .i64 (1 + vs))
      generalize x4.setCell ⟨g, 4, none⟩ (.int .i64 (1 + vs)) = y4 at *
      refine (pick_e _ s zs _ _ [1, 2, 5, 20] D.out.drawn.src (by omega) (by omega) (by simp) (by simp)).mono ?_
      rintro e x5 ⟨vq, rfl, hvq, hd⟩
      have vq0 : vq = 1 ∨ vq = 2 ∨ vq = 5 ∨ vq = 20 := by simpa using hvq
      clear hvq
      replace D := Lib.hid (D.out.call hd)
      clear hd
      obtain ⟨⟨c0, c1, c2, c3, c4, c5, c6, cz⟩, cf, ⟨r0, r1, r2, r3, r4, r5, r6, rz⟩, rf⟩ := D.out.cells
      go_wp2_with fail
      replace D := Lib.hid (D.out.set (i := 5) (v := vq) (o' := ⟨2, 1 + vr, vl, 0, 1 + vs, vq, 0⟩) (by rfl))
      exact bodyPost_ret (v := ov ⟨2, 1 + vr, vl, 0, 1 + vs, vq, 0⟩) (by simp [results, Tryd.results24, go_sem, r0, r1, r2, r3, r4, r5, r6]) rfl ⟨⟨2, 1 + vr, vl, 0, 1 + vs, vq, 0⟩, _, rfl, drawn_12 (by omega) ⟨by omega, by omega⟩ ⟨by omega, by omega⟩ ⟨by omega, by omega⟩ ⟨by omega, by omega⟩, by omega, D.out.drawn.set7 hlt _ _ _ _ _ _ _⟩
  · go_wp2_with fail
    clear c0 c1 c2 c3 c4 c5 c6 cz cf r0 r1 r2 r3 r4 r5 r6 rz rf
    refine (chance_d _ s zs _ 2 D.out.drawn.src (by omega) (by omega) (by omega)).mono ?_
    rintro e x1 ⟨b, rfl, hd⟩
    replace D := Lib.hid (D.out.call hd)
    clear hd
    obtain ⟨⟨c0, c1, c2, c3, c4, c5, c6, cz⟩, cf, ⟨r0, r1, r2, r3, r4, r5, r6, rz⟩, rf⟩ := D.out.cells
    cases b
    · go_wp2_with fail
      clear c0 c1 c2 c3 c4 c5 c6 cz cf r0 r1 r2 r3 r4 r5 r6 rz rf
      refine (next_d _ s zs _ 3 D.out.drawn.src (by omega) (by omega) (by omega)).mono ?_
      rintro e x2 ⟨vl, rfl, vl0, vl1, hd⟩
      replace D := Lib.hid (D.out.call hd)
      clear hd
      obtain ⟨⟨c0, c1, c2, c3, c4, c5, c6, cz⟩, cf, ⟨r0, r1, r2, r3, r4, r5, r6, rz⟩, rf⟩ := D.out.cells
      go_wp2_with fail
      replace D := Lib.hid (D.out.set (i := 2) (v := vl) (o' := ⟨3, 0, vl, 0, 0, 0, 0⟩) (by rfl))
      clear c0 c1 c2 c3 c4 c5 c6 cz cf r0 r1 r2 r3 r4 r5 r6 rz rf
      have hz2 := set_size x2 ⟨g, 2, none⟩ (.int .i64 (vl))
      generalize x2.setCell ⟨g, 2, none⟩ (.int .i64 (vl)) = y2 at *
      refine (next_d _ s zs _ 3 D.out.drawn.src (by omega) (by omega) (by omega)).mono ?_
      rintro e x3 ⟨vs, rfl, vs0, vs1, hd⟩
      replace D := Lib.hid (D.out.call hd)
      clear hd
      obtain ⟨⟨c0, c1, c2, c3, c4, c5, c6, cz⟩, cf, ⟨r0, r1, r2, r3, r4, r5, r6, rz⟩, rf⟩ := D.out.cells
      go_wp2_with fail
      replace D := Lib.hid (D.out.set (i := 4) (v := 1 + vs) (o' := ⟨3, 0, vl, 0, 1 + vs, 0, 0⟩) (by rfl))
      clear c0 c1 c2 c3 c4 c5 c6 cz cf r0 r1 r2 r3 r4 r5 r6 rz rf
      have hz3 := set_size x3 ⟨g, 4, none⟩ (.int .i64 (1 + vs))
      generalize x3.setCell ⟨g, 4, none⟩ (.int .i64 (1 + vs)) = y3 at *
      refine (pick_e _ s zs _ _ [1, 2, 5, 20] D.out.drawn.src (by omega) (by omega) (by simp) (by simp)).mono ?_
      rintro e x4 ⟨vq, rfl, hvq, hd⟩
      have vq0 : vq = 1 ∨ vq = 2 ∨ vq = 5 ∨ vq = 20 := by simpa using hvq
      clear hvq
      replace D := Lib.hid (D.out.call hd)
      clear hd
      obtain ⟨⟨c0, c1, c2, c3, c4, c5, c6, cz⟩, cf, ⟨r0, r1, r2, r3, r4, r5, r6, rz⟩, rf⟩ := D.out.cells
      go_wp2_with fail
      replace D := Lib.hid (D.out.set (i := 5) (v := vq) (o' := ⟨3, 0, vl, 0, 1 + vs, vq, 0⟩) (by rfl))
      clear c0 c1 c2 c3 c4 c5 c6 cz cf r0 r1 r2 r3 r4 r5 r6 rz rf
      have hz4 := set_size x4 ⟨g, 5, none⟩ (.int .i64 (vq))
      generalize x4.setCell ⟨g, 5, none⟩ (.int .i64 (vq)) = y4 at *
      refine (next_d _ s zs _ 4 D.out.drawn.src (by omega) (by omega) (by omega)).mono ?_
      rintro e x5 ⟨vh, rfl, vh0, vh1, hd⟩
      replace D := Lib.hid (D.out.call hd)
      clear hd
      obtain ⟨⟨c0, c1, c2, c3, c4, c5, c6, cz⟩, cf, ⟨r0, r1, r2, r3, r4, r5, r6, rz⟩, rf⟩ := D.out.cells
      go_wp2_with fail
      replace D := Lib.hid (D.out.set (i := 6) (v := 1 + vh) (o' := ⟨3, 0, vl, 0, 1 + vs, vq, 1 + vh⟩) (by rfl))
      clear c0 c1 c2 c3 c4 c5 c6 cz cf r0 r1 r2 r3 r4 r5 r6 rz rf
      have hz5 := set_size x5 ⟨g, 6, none⟩ (.int .i64 (1 + vh))
      generalize x5.setCell ⟨g, 6, none⟩ (.int .i64 (1 + vh)) = y5 at *
      refine (pick_e _ s zs _ _ [3, 10, 999] D.out.drawn.src (by omega) (by omega) (by simp) (by simp)).mono ?_
      rintro e x6 ⟨vt, rfl, hvt, hd⟩
      have vt0 : vt = 3 ∨ vt = 10 ∨ vt = 999 := by simpa using hvt
      clear hvt
      replace D := Lib.hid (D.out.call hd)
      clear hd
      obtain ⟨⟨c0, c1, c2, c3, c4, c5, c6, cz⟩, cf, ⟨r0, r1, r2, r3, r4, r5, r6, rz⟩, rf⟩ := D.out.cells
      go_wp2_with fail
      replace D := Lib.hid (D.out.set (i := 3) (v := vt) (o' := ⟨3, 0, vl, vt, 1 + vs, vq, 1 + vh⟩) (by rfl))
      exact bodyPost_ret (v := ov ⟨3, 0, vl, vt, 1 + vs, vq, 1 + vh⟩) (by simp [results, Tryd.results24, go_sem, r0, r1, r2, r3, r4, r5, r6]) rfl ⟨⟨3, 0, vl, vt, 1 + vs, vq, 1 + vh⟩, _, rfl, drawn_3 ⟨by omega, by omega⟩ ⟨by omega, by omega⟩ ⟨by omega, by omega⟩ ⟨by omega, by omega⟩ ⟨by omega, by omega⟩ ⟨by omega, by omega⟩, by omega, D.out.drawn.set7 hlt _ _ _ _ _ _ _⟩
    · go_wp2_with fail
      clear c0 c1 c2 c3 c4 c5 c6 cz cf r0 r1 r2 r3 r4 r5 r6 rz rf
      refine (next_d _ s zs _ 9 D.out.drawn.src (by omega) (by omega) (by omega)).mono ?_
      rintro e x2 ⟨vr, rfl, vr0, vr1, hd⟩
      replace D := Lib.hid (D.out.call hd)
      clear hd
      obtain ⟨⟨c0, c1, c2, c3, c4, c5, c6, cz⟩, cf, ⟨r0, r1, r2, r3, r4, r5, r6, rz⟩, rf⟩ := D.out.cells
      go_wp2_with fail
      replace D := Lib.hid (D.out.set (i := 1) (v := 1 + vr) (o' := ⟨3, 1 + vr, 0, 0, 0, 0, 0⟩) (by rfl))
      clear c0 c1 c2 c3 c4 c5 c6 cz cf r0 r1 r2 r3 r4 r5 r6 rz rf
      have hz2 := set_size x2 ⟨g, 1, none⟩ (.int .i64 (1 + vr))
      generalize x2.setCell ⟨g, 1, none⟩ (.int .i64 (1 + vr)) = y2 at *
      refine (next_d _ s zs _ 3 D.out.drawn.src (by omega) (by omega) (by omega)).mono ?_
      rintro e x3 ⟨vl, rfl, vl0, vl1, hd⟩
      replace D := Lib.hid (D.out.call hd)
      clear hd
      obtain ⟨⟨c0, c1, c2, c3, c4, c5, c6, cz⟩, cf, ⟨r0, r1, r2, r3, r4, r5, r6, rz⟩, rf⟩ := D.out.cells
      go_wp2_with fail
      replace D := Lib.hid (D.out.set (i := 2) (v := vl) (o' := ⟨3, 1 + vr, vl, 0, 0, 0, 0⟩) (by rfl))
      clear c0 c1 c2 c3 c4 c5 c6 cz cf r0 r1 r2 r3 r4 r5 r6 rz rf
      have hz3 := set_size x3 ⟨g, 2, none⟩ (.int .i64 (vl))
      generalize x3.setCell ⟨g, 2, none⟩ (.int .i64 (vl)) = y3 at *
      refine (next_d _ s zs _ 3 D.out.drawn.src (by omega) (by omega) (by omega)).mono ?_
      rintro e x4 ⟨vs, rfl, vs0, vs1, hd⟩
      replace D := Lib.hid (D.out.call hd)
      clear hd
      obtain ⟨⟨c0, c1, c2, c3, c4, c5, c6, cz⟩, cf, ⟨r0, r1, r2, r3, r4, r5, r6, rz⟩, rf⟩ := D.out.cells
      go_wp2_with fail
      replace D := Lib.hid (D.out.set (i := 4) (v := 1 + vs) (o' := ⟨3, 1 + vr, vl, 0, 1 + vs, 0, 0⟩) (by rfl))
      clear c0 c1 c2 c3 c4 c5 c6 cz cf r0 r1 r2 r3 r4 r5 r6 rz rf
      have hz4 := set_size x4 ⟨g, 4, none⟩ (.int .i64 (1 + vs))
      generalize x4.setCell ⟨g, 4, none⟩ (.int .i64 (1 + vs)) = y4 at *
      refine (pick_e _ s zs _ _ [1, 2, 5, 20] D.out.drawn.src (by omega) (by omega) (by simp) (by simp)).mono ?_
      rintro e x5 ⟨vq, rfl, hvq, hd⟩
      have vq0 : vq = 1 ∨ vq = 2 ∨ vq = 5 ∨ vq = 20 := by simpa using hvq
      clear hvq
      replace D := Lib.hid (D.out.call hd)
      clear hd
      obtain ⟨⟨c0, c1, c2, c3, c4, c5, c6, cz⟩, cf, ⟨r0, r1, r2, r3, r4, r5, r6, rz⟩, rf⟩ := D.out.cells
      go_wp2_with fail
      replace D := Lib.hid (D.out.set (i := 5) (v := vq) (o' := ⟨3, 1 + vr, vl, 0, 1 + vs, vq, 0⟩) (by rfl))
      clear c0 c1 c2 c3 c4 c5 c6 cz cf r0 r1 r2 r3 r4 r5 r6 rz rf
      have hz5 := set_size x5 ⟨g, 5, none⟩ (.int .i64 (vq))
      generalize x5.setCell ⟨g, 5, none⟩ (.int .i64 (vq)) = y5 at *
      refine (next_d _ s zs _ 4 D.out.drawn.src (by omega) (by omega) (by omega)).mono ?_
      rintro e x6 ⟨vh, rfl, vh0, vh1, hd⟩
      replace D := Lib.hid (D.out.call hd)
      clear hd
      obtain ⟨⟨c0, c1, c2, c3, c4, c5, c6, cz⟩, cf, ⟨r0, r1, r2, r3, r4, r5, r6, rz⟩, rf⟩ := D.out.cells
      go_wp2_with fail
      replace D := Lib.hid (D.out.set (i := 6) (v := 1 + vh) (o' := ⟨3, 1 + vr, vl, 0, 1 + vs, vq, 1 + vh⟩) (by rfl))
      clear c0 c1 c2 c3 c4 c5 c6 cz cf r0 r1 r2 r3 r4 r5 r6 rz rf
      have hz6 := set_size x6 ⟨g, 6, none⟩ (.int .i64 (1 + vh))
      generalize x6.setCell ⟨g, 6, none⟩ (.int .i64 (1 + vh)) = y6 at *
      refine (pick_e _ s zs _ _ [3, 10, 999] D.out.drawn.src (by omega) (by omega) (by simp) (by simp)).mono ?_
      rintro e x7 ⟨vt, rfl, hvt, hd⟩
      have vt0 : vt = 3 ∨ vt = 10 ∨ vt = 999 := by simpa using hvt
      clear hvt
      replace D := Lib.hid (D.out.call hd)
      clear hd
      obtain ⟨⟨c0, c1, c2, c3, c4, c5, c6, cz⟩, cf, ⟨r0, r1, r2, r3, r4, r5, r6, rz⟩, rf⟩ := D.out.cells
      go_wp2_with fail
      replace D := Lib.hid (D.out.set (i := 3) (v := vt) (o' := ⟨3, 1 + vr, vl, vt, 1 + vs, vq, 1 + vh⟩) (by rfl))
      exact bodyPost_ret (v := ov ⟨3, 1 + vr, vl, vt, 1 + vs, vq, 1 + vh⟩) (by simp [results, Tryd.results24, go_sem, r0, r1, r2, r3, r4, r5, r6]) rfl ⟨⟨3, 1 + vr, vl, vt, 1 + vs, vq, 1 + vh⟩, _, rfl, drawn_3 ⟨by omega, by omega⟩ ⟨by omega, by omega⟩ ⟨by omega, by omega⟩ ⟨by omega, by omega⟩ ⟨by omega, by omega⟩ ⟨by omega, by omega⟩, by omega, D.out.drawn.set7 hlt _ _ _ _ _ _ _⟩
  · go_wp2_with fail
    clear c0 c1 c2 c3 c4 c5 c6 cz cf r0 r1 r2 r3 r4 r5 r6 rz rf
    refine (chance_d _ s zs _ 2 D.out.drawn.src (by omega) (by omega) (by omega)).mono ?_
    rintro e x1 ⟨b, rfl, hd⟩
    replace D := Lib.hid (D.out.call hd)
    clear hd
    obtain ⟨⟨c0, c1, c2, c3, c4, c5, c6, cz⟩, cf, ⟨r0, r1, r2, r3, r4, r5, r6, rz⟩, rf⟩ := D.out.cells
    cases b
    · go_wp2_with fail
      clear c0 c1 c2 c3 c4 c5 c6 cz cf r0 r1 r2 r3 r4 r5 r6 rz rf
      refine (next_d _ s zs _ 4 D.out.drawn.src (by omega) (by omega) (by omega)).mono ?_
      rintro e x2 ⟨vh, rfl, vh0, vh1, hd⟩
      replace D := Lib.hid (D.out.call hd)
      clear hd
      obtain ⟨⟨c0, c1, c2, c3, c4, c5, c6, cz⟩, cf, ⟨r0, r1, r2, r3, r4, r5, r6, rz⟩, rf⟩ := D.out.cells
      go_wp2_with fail
      replace D := Lib.hid (D.out.set (i := 6) (v := 1 + vh) (o' := ⟨4, 0, 0, 0, 0, 0, 1 + vh⟩) (by rfl))
      exact bodyPost_ret (v := ov ⟨4, 0, 0, 0, 0, 0, 1 + vh⟩) (by simp [results, Tryd.results24, go_sem, r0, r1, r2, r3, r4, r5, r6]) rfl ⟨⟨4, 0, 0, 0, 0, 0, 1 + vh⟩, _, rfl, drawn_45 (by omega) ⟨by omega, by omega⟩ ⟨by omega, by omega⟩, by omega, D.out.drawn.set7 hlt _ _ _ _ _ _ _⟩
    · go_wp2_with fail
      clear c0 c1 c2 c3 c4 c5 c6 cz cf r0 r1 r2 r3 r4 r5 r6 rz rf
      refine (next_d _ s zs _ 9 D.out.drawn.src (by omega) (by omega) (by omega)).mono ?_
      rintro e x2 ⟨vr, rfl, vr0, vr1, hd⟩
      replace D := Lib.hid (D.out.call hd)
      clear hd
      obtain ⟨⟨c0, c1, c2, c3, c4, c5, c6, cz⟩, cf, ⟨r0, r1, r2, r3, r4, r5, r6, rz⟩, rf⟩ := D.out.cells
      go_wp2_with fail
      replace D := Lib.hid (D.out.set (i := 1) (v := 1 + vr) (o' := ⟨4, 1 + vr, 0, 0, 0, 0, 0⟩) (by rfl))
      clear c0 c1 c2 c3 c4 c5 c6 cz cf r0 r1 r2 r3 r4 r5 r6 rz rf
      have hz2 := set_size x2 ⟨g, 1, none⟩ (.int .i64 (1 + vr))
      generalize x2.setCell ⟨g, 1, none⟩ (.int .i64 (1 + vr)) = y2 at *
      refine (next_d _ s zs _ 4 D.out.drawn.src (by omega) (by omega) (by omega)).mono ?_
      rintro e x3 ⟨vh, rfl, vh0, vh1, hd⟩
      replace D := Lib.hid (D.out.call hd)
      clear hd
      obtain ⟨⟨c0, c1, c2, c3, c4, c5, c6, cz⟩, cf, ⟨r0, r1, r2, r3, r4, r5, r6, rz⟩, rf⟩ := D.out.cells
      go_wp2_with fail
      replace D := Lib.hid (D.out.set (i := 6) (v := 1 + vh) (o' := ⟨4, 1 + vr, 0, 0, 0, 0, 1 + vh⟩) (by rfl))
      exact bodyPost_ret (v := ov ⟨4, 1 + vr, 0, 0, 0, 0, 1 + vh⟩) (by simp [results, Tryd.results24, go_sem, r0, r1, r2, r3, r4, r5, r6]) rfl ⟨⟨4, 1 + vr, 0, 0, 0, 0, 1 + vh⟩, _, rfl, drawn_45 (by omega) ⟨by omega, by omega⟩ ⟨by omega, by omega⟩, by omega, D.out.drawn.set7 hlt _ _ _ _ _ _ _⟩
  · go_wp2_with fail
    clear c0 c1 c2 c3 c4 c5 c6 cz cf r0 r1 r2 r3 r4 r5 r6 rz rf
    refine (chance_d _ s zs _ 2 D.out.drawn.src (by omega) (by omega) (by omega)).mono ?_
    rintro e x1 ⟨b, rfl, hd⟩
    replace D := Lib.hid (D.out.call hd)
    clear hd
    obtain ⟨⟨c0, c1, c2, c3, c4, c5, c6, cz⟩, cf, ⟨r0, r1, r2, r3, r4, r5, r6, rz⟩, rf⟩ := D.out.cells
    cases b
    · go_wp2_with fail
      clear c0 c1 c2 c3 c4 c5 c6 cz cf r0 r1 r2 r3 r4 r5 r6 rz rf
      refine (next_d _ s zs _ 4 D.out.drawn.src (by omega) (by omega) (by omega)).mono ?_
      rintro e x2 ⟨vh, rfl, vh0, vh1, hd⟩
      replace D := Lib.hid (D.out.call hd)
      clear hd
      obtain ⟨⟨c0, c1, c2, c3, c4, c5, c6, cz⟩, cf, ⟨r0, r1, r2, r3, r4, r5, r6, rz⟩, rf⟩ := D.out.cells
      go_wp2_with fail
      replace D := Lib.hid (D.out.set (i := 6) (v := 1 + vh) (o' := ⟨5, 0, 0, 0, 0, 0, 1 + vh⟩) (by rfl))
      exact bodyPost_ret (v := ov ⟨5, 0, 0, 0, 0, 0, 1 + vh⟩) (by simp [results, Tryd.results24, go_sem, r0, r1, r2, r3, r4, r5, r6]) rfl ⟨⟨5, 0, 0, 0, 0, 0, 1 + vh⟩, _, rfl, drawn_45 (by omega) ⟨by omega, by omega⟩ ⟨by omega, by omega⟩, by omega, D.out.drawn.set7 hlt _ _ _ _ _ _ _⟩
    · go_wp2_with fail
      clear c0 c1 c2 c3 c4 c5 c6 cz cf r0 r1 r2 r3 r4 r5 r6 rz rf
      refine (next_d _ s zs _ 9 D.out.drawn.src (by omega) (by omega) (by omega)).mono ?_
      rintro e x2 ⟨vr, rfl, vr0, vr1, hd⟩
      replace D := Lib.hid (D.out.call hd)
      clear hd
      obtain ⟨⟨c0, c1, c2, c3, c4, c5, c6, cz⟩, cf, ⟨r0, r1, r2, r3, r4, r5, r6, rz⟩, rf⟩ := D.out.cells
      go_wp2_with fail
      replace D := Lib.hid (D.out.set (i := 1) (v := 1 + vr) (o' := ⟨5, 1 + vr, 0, 0, 0, 0, 0⟩) (by rfl))
      clear c0 c1 c2 c3 c4 c5 c6 cz cf r0 r1 r2 r3 r4 r5 r6 rz rf
      have hz2 := set_size x2 ⟨g, 1, none⟩ (.int .i64 (1 + vr))
      generalize x2.setCell ⟨g, 1, none⟩ (.int .i64 (1 + vr)) = y2 at *
      refine (next_d _ s zs _ 4 D.out.drawn.src (by omega) (by omega) (by omega)).mono ?_
      rintro e x3 ⟨vh, rfl, vh0, vh1, hd⟩
      replace D := Lib.hid (D.out.call hd)
      clear hd
      obtain ⟨⟨c0, c1, c2, c3, c4, c5, c6, cz⟩, cf, ⟨r0, r1, r2, r3, r4, r5, r6, rz⟩, rf⟩ := D.out.cells
      go_wp2_with fail
      replace D := Lib.hid (D.out.set (i := 6) (v := 1 + vh) (o' := ⟨5, 1 + vr, 0, 0, 0, 0, 1 + vh⟩) (by rfl))
      exact bodyPost_ret (v := ov ⟨5, 1 + vr, 0, 0, 0, 0, 1 + vh⟩) (by simp [results, Tryd.results24, go_sem, r0, r1, r2, r3, r4, r5, r6]) rfl ⟨⟨5, 1 + vr, 0, 0, 0, 0, 1 + vh⟩, _, rfl, drawn_45 (by omega) ⟨by omega, by omega⟩ ⟨by omega, by omega⟩, by omega, D.out.drawn.set7 hlt _ _ _ _ _ _ _⟩
  · go_wp2_with fail
    clear c0 c1 c2 c3 c4 c5 c6 cz cf r0 r1 r2 r3 r4 r5 r6 rz rf
    refine (chance_d _ s zs _ 2 D.out.drawn.src (by omega) (by omega) (by omega)).mono ?_
    rintro e x1 ⟨b, rfl, hd⟩
    replace D := Lib.hid (D.out.call hd)
    clear hd
    obtain ⟨⟨c0, c1, c2, c3, c4, c5, c6, cz⟩, cf, ⟨r0, r1, r2, r3, r4, r5, r6, rz⟩, rf⟩ := D.out.cells
    cases b
    · go_wp2_with fail
      clear c0 c1 c2 c3 c4 c5 c6 cz cf r0 r1 r2 r3 r4 r5 r6 rz rf
      refine (next_d _ s zs _ 3 D.out.drawn.src (by omega) (by omega) (by omega)).mono ?_
      rintro e x2 ⟨vl, rfl, vl0, vl1, hd⟩
      replace D := Lib.hid (D.out.call hd)
      clear hd
      obtain ⟨⟨c0, c1, c2, c3, c4, c5, c6, cz⟩, cf, ⟨r0, r1, r2, r3, r4, r5, r6, rz⟩, rf⟩ := D.out.cells
      go_wp2_with fail
      replace D := Lib.hid (D.out.set (i := 2) (v := vl) (o' := ⟨6, 0, vl, 0, 0, 0, 0⟩) (by rfl))
      clear c0 c1 c2 c3 c4 c5 c6 cz cf r0 r1 r2 r3 r4 r5 r6 rz rf
      have hz2 := set_size x2 ⟨g, 2, none⟩ (.int .i64 (vl))
      generalize x2.setCell ⟨g, 2, none⟩ (.int .i64 (vl)) = y2 at *
      refine (next_d _ s zs _ 3 D.out.drawn.src (by omega) (by omega) (by omega)).mono ?_
      rintro e x3 ⟨vs, rfl, vs0, vs1, hd⟩
      replace D := Lib.hid (D.out.call hd)
      clear hd
      obtain ⟨⟨c0, c1, c2, c3, c4, c5, c6, cz⟩, cf, ⟨r0, r1, r2, r3, r4, r5, r6, rz⟩, rf⟩ := D.out.cells
      go_wp2_with fail
      replace D := Lib.hid (D.out.set (i := 4) (v := 1 + vs) (o' := ⟨6, 0, vl, 0, 1 + vs, 0, 0⟩) (by rfl))
      clear c0 c1 c2 c3 c4 c5 c6 cz cf r0 r1 r2 r3 r4 r5 r6 rz rf
      have hz3 := set_size x3 ⟨g, 4, none⟩ (.int .i64 (1 + vs))
      generalize x3.setCell ⟨g, 4, none⟩ (.int .i64 (1 + vs)) = y3 at *
      refine (pick_e _ s zs _ _ [1, 2, 5, 20] D.out.drawn.src (by omega) (by omega) (by simp) (by simp)).mono ?_
      rintro e x4 ⟨vq, rfl, hvq, hd⟩
      have vq0 : vq = 1 ∨ vq = 2 ∨ vq = 5 ∨ vq = 20 := by simpa using hvq
      clear hvq
      replace D := Lib.hid (D.out.call hd)
      clear hd
      obtain ⟨⟨c0, c1, c2, c3, c4, c5, c6, cz⟩, cf, ⟨r0, r1, r2, r3, r4, r5, r6, rz⟩, rf⟩ := D.out.cells
      go_wp2_with fail
      replace D := Lib.hid (D.out.set (i := 5) (v := vq) (o' := ⟨6, 0, vl, 0, 1 + vs, vq, 0⟩) (by rfl))
      clear c0 c1 c2 c3 c4 c5 c6 cz cf r0 r1 r2 r3 r4 r5 r6 rz rf
      have hz4 := set_size x4 ⟨g, 5, none⟩ (.int .i64 (vq))
      generalize x4.setCell ⟨g, 5, none⟩ (.int .i64 (vq)) = y4 at *
      have hld : ∀ w', SD w s zs a g vl w' → w'.cell? ⟨g, 2, none⟩ = some (.int .i64 vl) ∧ g < w'.heap.size := fun w' h => h.loc
      have HLD := Lib.hid hld; clear hld
      refine wp_region_sched (fun w' => SD w s zs a g vl w') [(0, true), (1, true), (2, true), (3, true), (4, false), (5, true), (6, true), (7, true), (8, false)] (by kernel_rfl) (by kernel_rfl) (by kernel_rfl) (by kernel_rfl) (fun _ _ d _ _ h => by cases d <;> exact h) ⟨_, _, D.out.drew, rfl⟩ ?_
      simp only [opsOf, List.filterMap_cons, List.filterMap_nil, Option.map_some, List.getElem?_toArray, List.getElem?_cons_zero, List.getElem?_cons_succ]
      generalize hW0 : ({ heap := y4.heap, tape := y4.tape, drawn := y4.drawn + 1, os := y4.os, output := y4.output } : World) = v0
      have hv0 : SD w s zs a g vl v0 := by rw [← hW0]; exact ⟨_, _, D.out.drew, rfl⟩
      have D0 := D.out.drew
      rw [show World.drew y4 = v0 from hW0] at D0
      clear hW0
      refine sched_run (v := ?_) (by rfl) ?_ ?_
      rotate_left
      · (intro w' hS'; go_simp; try with_reducible rfl)
      try simp only [Act.put, List.setIfInBounds_toArray, List.set_cons_zero, List.set_cons_succ]
      refine sched_run (v := ?_) (by rfl) ?_ ?_
      rotate_left
      · (intro w' hS'; obtain ⟨a0, az⟩ := HLD.out w' hS'; go_simp; try with_reducible rfl)
      try simp only [Act.put, List.setIfInBounds_toArray, List.set_cons_zero, List.set_cons_succ]
      refine sched_run (v := ?_) (by rfl) ?_ ?_
      rotate_left
      · (intro w' hS'; go_simp; try with_reducible rfl)
      try simp only [Act.put, List.setIfInBounds_toArray, List.set_cons_zero, List.set_cons_succ]
      refine sched_run (v := ?_) (by rfl) ?_ ?_
      rotate_left
      · (intro w' hS'; go_simp; try with_reducible rfl)
      try simp only [Act.put, List.setIfInBounds_toArray, List.set_cons_zero, List.set_cons_succ]
      refine sched_call (by rfl) (fun K hK => ?_)
      go_simp
      refine (next_d _ s zs _ 3 D0.drawn.src (by omega) (by omega) (by omega)).mono ?_
      rintro e v1 ⟨vt, rfl, vt0, vt1, hbv0⟩
      have hv1 : SD w s zs a g vl v1 := ⟨_, _, D0.call hbv0, rfl⟩
      have D1 := D0.call hbv0
      obtain ⟨⟨c0, c1, c2, c3, c4, c5, c6, cz⟩, cf, ⟨r0, r1, r2, r3, r4, r5, r6, rz⟩, rf⟩ := D1.cells
      clear hbv0
      refine hK _ _ hv1 ?_
      try simp only [Act.put, List.setIfInBounds_toArray, List.set_cons_zero, List.set_cons_succ]
      refine sched_run (v := ?_) (by rfl) ?_ ?_
      rotate_left
      · (intro w' hS'; go_simp; try with_reducible rfl)
      try simp only [Act.put, List.setIfInBounds_toArray, List.set_cons_zero, List.set_cons_succ]
      refine sched_run (v := ?_) (by rfl) ?_ ?_
      rotate_left
      · (intro w' hS'; go_simp; try with_reducible rfl)
      try simp only [Act.put, List.setIfInBounds_toArray, List.set_cons_zero, List.set_cons_succ]
      refine sched_run (v := ?_) (by rfl) ?_ ?_
      rotate_left
      · (intro w' hS'; go_simp; try with_reducible rfl)
      try simp only [Act.put, List.setIfInBounds_toArray, List.set_cons_zero, List.set_cons_succ]
      refine sched_call (by rfl) (fun K hK => ?_)
      go_simp
      refine hK _ _ ?_ ?_
      · exact (⟨_, ⟨6, 0, vl, (IntKind.i64.wrap (IntKind.i64.wrap (vl + 1) + vt)).tmod 4, 1 + vs, vq, 0⟩, D1.set (i := 3) (v := (IntKind.i64.wrap (IntKind.i64.wrap (vl + 1) + vt)).tmod 4) (o' := ⟨6, 0, vl, (IntKind.i64.wrap (IntKind.i64.wrap (vl + 1) + vt)).tmod 4, 1 + vs, vq, 0⟩) (by rfl), rfl⟩)
      try simp only [Act.put, List.setIfInBounds_toArray, List.set_cons_zero, List.set_cons_succ]
      refine sched_done ?_
      have hX : (IntKind.i64.wrap (IntKind.i64.wrap (vl + 1) + vt)).tmod 4 = (vl + 1 + vt) % 4 := by rw [wrap_id (n := vl + 1) (by omega) (by omega), wrap_id (by omega) (by omega), Int.tmod_eq_emod_of_nonneg (by omega)]
      rw [hX]
      clear hX
      go_wp2_with fail
      have D := Lib.hid (D1.set (i := 3) (v := (vl + 1 + vt) % 4) (o' := ⟨6, 0, vl, (vl + 1 + vt) % 4, 1 + vs, vq, 0⟩) (by rfl))
      exact bodyPost_ret (v := ov ⟨6, 0, vl, (vl + 1 + vt) % 4, 1 + vs, vq, 0⟩) (by simp [results, Tryd.results24, go_sem, r0, r1, r2, r3, r4, r5, r6]) rfl ⟨⟨6, 0, vl, (vl + 1 + vt) % 4, 1 + vs, vq, 0⟩, _, rfl, drawn_6 ⟨by omega, by omega⟩ ⟨by omega, by omega⟩ ⟨by omega, by omega⟩ ⟨by omega, by omega⟩ ⟨by omega, by omega⟩ (by omega), by omega, D.out.drawn.set7 hlt _ _ _ _ _ _ _⟩
    · go_wp2_with fail
      clear c0 c1 c2 c3 c4 c5 c6 cz cf r0 r1 r2 r3 r4 r5 r6 rz rf
      refine (next_d _ s zs _ 9 D.out.drawn.src (by omega) (by omega) (by omega)).mono ?_
      rintro e x2 ⟨vr, rfl, vr0, vr1, hd⟩
      replace D := Lib.hid (D.out.call hd)
      clear hd
      obtain ⟨⟨c0, c1, c2, c3, c4, c5, c6, cz⟩, cf, ⟨r0, r1, r2, r3, r4, r5, r6, rz⟩, rf⟩ := D.out.cells
      go_wp2_with fail
      replace D := Lib.hid (D.out.set (i := 1) (v := 1 + vr) (o' := ⟨6, 1 + vr, 0, 0, 0, 0, 0⟩) (by rfl))
      clear c0 c1 c2 c3 c4 c5 c6 cz cf r0 r1 r2 r3 r4 r5 r6 rz rf
      have hz2 := set_size x2 ⟨g, 1, none⟩ (.int .i64 (1 + vr))
      generalize x2.setCell ⟨g, 1, none⟩ (.int .i64 (1 + vr)) = y2 at *
      refine (next_d _ s zs _ 3 D.out.drawn.src (by omega) (by omega) (by omega)).mono ?_
      rintro e x3 ⟨vl, rfl, vl0, vl1, hd⟩
      replace D := Lib.hid (D.out.call hd)
      clear hd
      obtain ⟨⟨c0, c1, c2, c3, c4, c5, c6, cz⟩, cf, ⟨r0, r1, r2, r3, r4, r5, r6, rz⟩, rf⟩ := D.out.cells
      go_wp2_with fail
      replace D := Lib.hid (D.out.set (i := 2) (v := vl) (o' := ⟨6, 1 + vr, vl, 0, 0, 0, 0⟩) (by rfl))
      clear c0 c1 c2 c3 c4 c5 c6 cz cf r0 r1 r2 r3 r4 r5 r6 rz rf
      have hz3 := set_size x3 ⟨g, 2, none⟩ (.int .i64 (vl))
      generalize x3.setCell ⟨g, 2, none⟩ (.int .i64 (vl)) = y3 at *
      refine (next_d _ s zs _ 3 D.out.drawn.src (by omega) (by omega) (by omega)).mono ?_
      rintro e x4 ⟨vs, rfl, vs0, vs1, hd⟩
      replace D := Lib.hid (D.out.call hd)
      clear hd
      obtain ⟨⟨c0, c1, c2, c3, c4, c5, c6, cz⟩, cf, ⟨r0, r1, r2, r3, r4, r5, r6, rz⟩, rf⟩ := D.out.cells
      go_wp2_with fail
      replace D := Lib.hid (D.out.set (i := 4) (v := 1 + vs) (o' := ⟨6, 1 + vr, vl, 0, 1 + vs, 0, 0⟩) (by rfl))
      clear c0 c1 c2 c3 c4 c5 c6 cz cf r0 r1 r2 r3 r4 r5 r6 rz rf
      have hz4 := set_size x4 ⟨g, 4, none⟩ (.int .i64 (1 + vs))
      generalize x4.setCell ⟨g, 4, none⟩ (.int .i64 (1 + vs)) = y4 at *
      refine (pick_e _ s zs _ _ [1, 2, 5, 20] D.out.drawn.src (by omega) (by omega) (by simp) (by simp)).mono ?_
      rintro e x5 ⟨vq, rfl, hvq, hd⟩
      have vq0 : vq = 1 ∨ vq = 2 ∨ vq = 5 ∨ vq = 20 := by simpa using hvq
      clear hvq
      replace D := Lib.hid (D.out.call hd)
      clear hd
      obtain ⟨⟨c0, c1, c2, c3, c4, c5, c6, cz⟩, cf, ⟨r0, r1, r2, r3, r4, r5, r6, rz⟩, rf⟩ := D.out.cells
      go_wp2_with fail
      replace D := Lib.hid (D.out.set (i := 5) (v := vq) (o' := ⟨6, 1 + vr, vl, 0, 1 + vs, vq, 0⟩) (by rfl))
      clear c0 c1 c2 c3 c4 c5 c6 cz cf r0 r1 r2 r3 r4 r5 r6 rz rf
      have hz5 := set_size x5 ⟨g, 5, none⟩ (.int .i64 (vq))
      generalize x5.setCell ⟨g, 5, none⟩ (.int .i64 (vq)) = y5 at *
      have hld : ∀ w', SD w s zs a g vl w' → w'.cell? ⟨g, 2, none⟩ = some (.int .i64 vl) ∧ g < w'.heap.size := fun w' h => h.loc
      have HLD := Lib.hid hld; clear hld
      refine wp_region_sched (fun w' => SD w s zs a g vl w') [(0, true), (1, true), (2, true), (3, true), (4, false), (5, true), (6, true), (7, true), (8, false)] (by kernel_rfl) (by kernel_rfl) (by kernel_rfl) (by kernel_rfl) (fun _ _ d _ _ h => by cases d <;> exact h) ⟨_, _, D.out.drew, rfl⟩ ?_
      simp only [opsOf, List.filterMap_cons, List.filterMap_nil, Option.map_some, List.getElem?_toArray, List.getElem?_cons_zero, List.getElem?_cons_succ]
      generalize hW0 : ({ heap := y5.heap, tape := y5.tape, drawn := y5.drawn + 1, os := y5.os, output := y5.output } : World) = v0
      have hv0 : SD w s zs a g vl v0 := by rw [← hW0]; exact ⟨_, _, D.out.drew, rfl⟩
      have D0 := D.out.drew
      rw [show World.drew y5 = v0 from hW0] at D0
      clear hW0
      refine sched_run (v := ?_) (by rfl) ?_ ?_
      rotate_left
      · (intro w' hS'; go_simp; try with_reducible rfl)
      try simp only [Act.put, List.setIfInBounds_toArray, List.set_cons_zero, List.set_cons_succ]
      refine sched_run (v := ?_) (by rfl) ?_ ?_
      rotate_left
      · (intro w' hS'; obtain ⟨a0, az⟩ := HLD.out w' hS'; go_simp; try with_reducible rfl)
      try simp only [Act.put, List.setIfInBounds_toArray, List.set_cons_zero, List.set_cons_succ]
      refine sched_run (v := ?_) (by rfl) ?_ ?_
      rotate_left
      · (intro w' hS'; go_simp; try with_reducible rfl)
      try simp only [Act.put, List.setIfInBounds_toArray, List.set_cons_zero, List.set_cons_succ]
      refine sched_run (v := ?_) (by rfl) ?_ ?_
      rotate_left
      · (intro w' hS'; go_simp; try with_reducible rfl)
      try simp only [Act.put, List.setIfInBounds_toArray, List.set_cons_zero, List.set_cons_succ]
      refine sched_call (by rfl) (fun K hK => ?_)
      go_simp
      refine (next_d _ s zs _ 3 D0.drawn.src (by omega) (by omega) (by omega)).mono ?_
      rintro e v1 ⟨vt, rfl, vt0, vt1, hbv0⟩
      have hv1 : SD w s zs a g vl v1 := ⟨_, _, D0.call hbv0, rfl⟩
      have D1 := D0.call hbv0
      obtain ⟨⟨c0, c1, c2, c3, c4, c5, c6, cz⟩, cf, ⟨r0, r1, r2, r3, r4, r5, r6, rz⟩, rf⟩ := D1.cells
      clear hbv0
      refine hK _ _ hv1 ?_
      try simp only [Act.put, List.setIfInBounds_toArray, List.set_cons_zero, List.set_cons_succ]
      refine sched_run (v := ?_) (by rfl) ?_ ?_
      rotate_left
      · (intro w' hS'; go_simp; try with_reducible rfl)
      try simp only [Act.put, List.setIfInBounds_toArray, List.set_cons_zero, List.set_cons_succ]
      refine sched_run (v := ?_) (by rfl) ?_ ?_
      rotate_left
      · (intro w' hS'; go_simp; try with_reducible rfl)
      try simp only [Act.put, List.setIfInBounds_toArray, List.set_cons_zero, List.set_cons_succ]
      refine sched_run (v := ?_) (by rfl) ?_ ?_
      rotate_left
      · (intro w' hS'; go_simp; try with_reducible rfl)
      try simp only [Act.put, List.setIfInBounds_toArray, List.set_cons_zero, List.set_cons_succ]
      refine sched_call (by rfl) (fun K hK => ?_)
      go_simp
      refine hK _ _ ?_ ?_
      · exact (⟨_, ⟨6, 1 + vr, vl, (IntKind.i64.wrap (IntKind.i64.wrap (vl + 1) + vt)).tmod 4, 1 + vs, vq, 0⟩, D1.set (i := 3) (v := (IntKind.i64.wrap (IntKind.i64.wrap (vl + 1) + vt)).tmod 4) (o' := ⟨6, 1 + vr, vl, (IntKind.i64.wrap (IntKind.i64.wrap (vl + 1) + vt)).tmod 4, 1 + vs, vq, 0⟩) (by rfl), rfl⟩)
      try simp only [Act.put, List.setIfInBounds_toArray, List.set_cons_zero, List.set_cons_succ]
      refine sched_done ?_
      have hX : (IntKind.i64.wrap (IntKind.i64.wrap (vl + 1) + vt)).tmod 4 = (vl + 1 + vt) % 4 := by rw [wrap_id (n := vl + 1) (by omega) (by omega), wrap_id (by omega) (by omega), Int.tmod_eq_emod_of_nonneg (by omega)]
      rw [hX]
      clear hX
      go_wp2_with fail
      have D := Lib.hid (D1.set (i := 3) (v := (vl + 1 + vt) % 4) (o' := ⟨6, 1 + vr, vl, (vl + 1 + vt) % 4, 1 + vs, vq, 0⟩) (by rfl))
      exact bodyPost_ret (v := ov ⟨6, 1 + vr, vl, (vl + 1 + vt) % 4, 1 + vs, vq, 0⟩) (by simp [results, Tryd.results24, go_sem, r0, r1, r2, r3, r4, r5, r6]) rfl ⟨⟨6, 1 + vr, vl, (vl + 1 + vt) % 4, 1 + vs, vq, 0⟩, _, rfl, drawn_6 ⟨by omega, by omega⟩ ⟨by omega, by omega⟩ ⟨by omega, by omega⟩ ⟨by omega, by omega⟩ ⟨by omega, by omega⟩ (by omega), by omega, D.out.drawn.set7 hlt _ _ _ _ _ _ _⟩
  · go_wp2_with fail
    clear c0 c1 c2 c3 c4 c5 c6 cz cf r0 r1 r2 r3 r4 r5 r6 rz rf
    refine (pick_e _ s zs _ _ [1, 5, 20] D.out.drawn.src (by omega) (by omega) (by simp) (by simp)).mono ?_
    rintro e x1 ⟨vq, rfl, hvq, hd⟩
    have vq0 : vq = 1 ∨ vq = 5 ∨ vq = 20 := by simpa using hvq
    clear hvq
    replace D := Lib.hid (D.out.call hd)
    clear hd
    obtain ⟨⟨c0, c1, c2, c3, c4, c5, c6, cz⟩, cf, ⟨r0, r1, r2, r3, r4, r5, r6, rz⟩, rf⟩ := D.out.cells
    go_wp2_with fail
    replace D := Lib.hid (D.out.set (i := 5) (v := vq) (o' := ⟨7, 0, 0, 0, 0, vq, 0⟩) (by rfl))
    exact bodyPost_ret (v := ov ⟨7, 0, 0, 0, 0, vq, 0⟩) (by simp [results, Tryd.results24, go_sem, r0, r1, r2, r3, r4, r5, r6]) rfl ⟨⟨7, 0, 0, 0, 0, vq, 0⟩, _, rfl, drawn_7 ⟨by omega, by omega⟩, by omega, D.out.drawn.set7 hlt _ _ _ _ _ _ _⟩
end Go.Proofs.YtocllaendofndaaDoor
