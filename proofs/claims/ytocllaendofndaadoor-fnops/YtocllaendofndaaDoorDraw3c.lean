/-
  The model's bent draw of an operation: short numbers.
-/
import Derived.Test.YtocllaendofndaaDoorDraw3b
namespace Go.Proofs.YtocllaendofndaaDoor
open Go.RowKit

/-- Every field is a short number. -/
def MildO (o : O) : Prop := (-20000 ≤ o.k ∧ o.k ≤ 20000) ∧ (-20000 ≤ o.rq ∧ o.rq ≤ 20000) ∧ (-20000 ≤ o.lc ∧ o.lc ≤ 20000) ∧ (-20000 ≤ o.tt ∧ o.tt ≤ 20000) ∧ (-20000 ≤ o.sk ∧ o.sk ≤ 20000) ∧ (-20000 ≤ o.qt ∧ o.qt ≤ 20000) ∧ (-20000 ≤ o.hd ∧ o.hd ≤ 20000)
theorem mildO_mk {k rq lc tt sk qt hd : Int} (h0 : -20000 ≤ k ∧ k ≤ 20000) (h1 : -20000 ≤ rq ∧ rq ≤ 20000) (h2 : -20000 ≤ lc ∧ lc ≤ 20000) (h3 : -20000 ≤ tt ∧ tt ≤ 20000) (h4 : -20000 ≤ sk ∧ sk ≤ 20000) (h5 : -20000 ≤ qt ∧ qt ≤ 20000) (h6 : -20000 ≤ hd ∧ hd ≤ 20000) : MildO ⟨k, rq, lc, tt, sk, qt, hd⟩ := ⟨h0, h1, h2, h3, h4, h5, h6⟩
theorem wf_short {v : Int} (h : -20000 ≤ v ∧ v ≤ 20000) : (Lit.int .i64 v).wf = true := by
  have : IntKind.i64.min = -9223372036854775808 := rfl
  have : IntKind.i64.max = 9223372036854775807 := rfl
  simp [Lit.wf]
  omega
theorem MildO.wf {o : O} (h : MildO o) : WfO o := by
  obtain ⟨h0, h1, h2, h3, h4, h5, h6⟩ := h
  intro z hz
  simp only [opL, List.mem_cons, List.not_mem_nil, or_false] at hz
  rcases hz with rfl | rfl | rfl | rfl | rfl | rfl | rfl
  · exact wf_short h0
  · exact wf_short h1
  · exact wf_short h2
  · exact wf_short h3
  · exact wf_short h4
  · exact wf_short h5
  · exact wf_short h6

set_option maxRecDepth 100000 in
set_option maxHeartbeats 8000000 in
theorem l3Bent_c (w : World) (s : Nat) (zs : List Int) (a : Nat) (h : Src w s zs a) (ha : a < 800000) :
    Calls Tryd.prog 40 #[.pointer (some ⟨s, 0, none⟩)] w (DOpPost w s zs a 20 MildO) := by
  have hlt := h.lt
  have hd0 := (Drawn.start h).alloc (obox o0)
  have hr0 := heap_new w (obox o0) rfl
  have HD0 := Lib.hid hd0; have HR0 := Lib.hid hr0
  clear hd0 hr0 h
  go_enter Tryd.func40, Tryd.ntmps40
  go_wp2_with fail
  refine (l3Draw_c _ s zs _ HD0.out.src (by omega)).mono ?_
  rintro e x0 ⟨o, d, rfl, ho, hd9, hd⟩
  obtain ⟨⟨k0, k1⟩, ⟨q0, q1⟩, ⟨l0, l1⟩, ⟨t0, t1⟩, ⟨s0, s1⟩, ⟨u0, u1⟩, ⟨h0, h1⟩⟩ := opF_zero ho
  obtain ⟨k, rq, lc, tt, sk, qt, hd'⟩ := o
  simp only at k0 k1 q0 q1 l0 l1 t0 t1 s0 s1 u0 u1 h0 h1
  have hge : w.heap.size < x0.heap.size := by have := hd.but.size; simp at this; omega
  have hds : DS w s zs a (0 + d) x0.heap.size ⟨k, rq, lc, tt, sk, qt, hd'⟩ (x0.alloc (obox ⟨k, rq, lc, tt, sk, qt, hd'⟩)) :=
    ⟨(HD0.out.trans hd).alloc _, heap_new _ _ rfl, heap_old (hd.but.heap HR0.out (by simp; omega)), hlt, hge⟩
  have D := Lib.hid hds
  clear hds hd HD0 HR0 ho
  go_upto_region 2 with (fail)
  generalize x0.alloc (obox ⟨k, rq, lc, tt, sk, qt, hd'⟩) = y0 at *
  generalize hg : x0.heap.size = g at *
  clear hg
  have hne : w.heap.size ≠ g := by omega
  go_wp2_with fail
  refine (next_d _ s zs _ 10 D.out.drawn.src (by omega) (by omega) (by omega)).mono ?_
  rintro e x1 ⟨v, rfl, v0, v1, hd⟩
  replace D := Lib.hid (D.out.call hd)
  clear hd
  obtain ⟨⟨c0, c1, c2, c3, c4, c5, c6, cz⟩, cf, ⟨r0, r1, r2, r3, r4, r5, r6, rz⟩, rf⟩ := D.out.cells
  by_cases w0 : v = 0
  · subst w0
    go_wp2_with fail
    clear c0 c1 c2 c3 c4 c5 c6 cz cf r0 r1 r2 r3 r4 r5 r6 rz rf
    refine (pick_e _ s zs _ _ [0, 1, 3, 6, 7, 8] D.out.drawn.src (by omega) (by omega) (by simp) (by simp)).mono ?_
    rintro e x2 ⟨vp, rfl, hvp, hd⟩
    have vp0 : vp = 0 ∨ vp = 1 ∨ vp = 3 ∨ vp = 6 ∨ vp = 7 ∨ vp = 8 := by simpa using hvp
    clear hvp
    replace D := Lib.hid (D.out.call hd)
    clear hd
    obtain ⟨⟨c0, c1, c2, c3, c4, c5, c6, cz⟩, cf, ⟨r0, r1, r2, r3, r4, r5, r6, rz⟩, rf⟩ := D.out.cells
    go_wp2_with fail
    replace D := Lib.hid (D.out.set (i := 0) (v := vp) (o' := ⟨vp, rq, lc, tt, sk, qt, hd'⟩) (by rfl))
    exact bodyPost_ret (v := ov ⟨vp, rq, lc, tt, sk, qt, hd'⟩) (by simp [results, Tryd.results40, go_sem, r0, r1, r2, r3, r4, r5, r6]) rfl ⟨⟨vp, rq, lc, tt, sk, qt, hd'⟩, _, rfl, mildO_mk (by omega) (by omega) (by omega) (by omega) (by omega) (by omega) (by omega), by omega, D.out.drawn.set7 hlt _ _ _ _ _ _ _⟩
  · have w0' : (v == 0) = false := by simpa using w0
    by_cases w1 : v = 1
    · subst w1
      go_wp2_with fail
      clear c0 c1 c2 c3 c4 c5 c6 cz cf r0 r1 r2 r3 r4 r5 r6 rz rf
      refine (pick_e _ s zs _ _ [0, 9999, 10000] D.out.drawn.src (by omega) (by omega) (by simp) (by simp)).mono ?_
      rintro e x2 ⟨vp, rfl, hvp, hd⟩
      have vp0 : vp = 0 ∨ vp = 9999 ∨ vp = 10000 := by simpa using hvp
      clear hvp
      replace D := Lib.hid (D.out.call hd)
      clear hd
      obtain ⟨⟨c0, c1, c2, c3, c4, c5, c6, cz⟩, cf, ⟨r0, r1, r2, r3, r4, r5, r6, rz⟩, rf⟩ := D.out.cells
      go_wp2_with fail
      replace D := Lib.hid (D.out.set (i := 5) (v := vp) (o' := ⟨k, rq, lc, tt, sk, vp, hd'⟩) (by rfl))
      exact bodyPost_ret (v := ov ⟨k, rq, lc, tt, sk, vp, hd'⟩) (by simp [results, Tryd.results40, go_sem, r0, r1, r2, r3, r4, r5, r6]) rfl ⟨⟨k, rq, lc, tt, sk, vp, hd'⟩, _, rfl, mildO_mk (by omega) (by omega) (by omega) (by omega) (by omega) (by omega) (by omega), by omega, D.out.drawn.set7 hlt _ _ _ _ _ _ _⟩
    · have w1' : (v == 1) = false := by simpa using w1
      by_cases w2 : v = 2
      · subst w2
        go_wp2_with fail
        clear c0 c1 c2 c3 c4 c5 c6 cz cf r0 r1 r2 r3 r4 r5 r6 rz rf
        refine (pick_e _ s zs _ _ [1, 1000, lc] D.out.drawn.src (by omega) (by omega) (by simp) (by simp)).mono ?_
        rintro e x2 ⟨vp, rfl, hvp, hd⟩
        have vp0 : vp = 1 ∨ vp = 1000 ∨ vp = lc := by simpa using hvp
        clear hvp
        replace D := Lib.hid (D.out.call hd)
        clear hd
        obtain ⟨⟨c0, c1, c2, c3, c4, c5, c6, cz⟩, cf, ⟨r0, r1, r2, r3, r4, r5, r6, rz⟩, rf⟩ := D.out.cells
        go_wp2_with fail
        replace D := Lib.hid (D.out.set (i := 3) (v := vp) (o' := ⟨k, rq, lc, vp, sk, qt, hd'⟩) (by rfl))
        exact bodyPost_ret (v := ov ⟨k, rq, lc, vp, sk, qt, hd'⟩) (by simp [results, Tryd.results40, go_sem, r0, r1, r2, r3, r4, r5, r6]) rfl ⟨⟨k, rq, lc, vp, sk, qt, hd'⟩, _, rfl, mildO_mk (by omega) (by omega) (by omega) (by omega) (by omega) (by omega) (by omega), by omega, D.out.drawn.set7 hlt _ _ _ _ _ _ _⟩
      · have w2' : (v == 2) = false := by simpa using w2
        by_cases w3 : v = 3
        · subst w3
          go_wp2_with fail
          clear c0 c1 c2 c3 c4 c5 c6 cz cf r0 r1 r2 r3 r4 r5 r6 rz rf
          refine (pick_e _ s zs _ _ [999, 1000, -1] D.out.drawn.src (by omega) (by omega) (by simp) (by simp)).mono ?_
          rintro e x2 ⟨vp, rfl, hvp, hd⟩
          have vp0 : vp = 999 ∨ vp = 1000 ∨ vp = -1 := by simpa using hvp
          clear hvp
          replace D := Lib.hid (D.out.call hd)
          clear hd
          obtain ⟨⟨c0, c1, c2, c3, c4, c5, c6, cz⟩, cf, ⟨r0, r1, r2, r3, r4, r5, r6, rz⟩, rf⟩ := D.out.cells
          go_wp2_with fail
          replace D := Lib.hid (D.out.set (i := 1) (v := vp) (o' := ⟨k, vp, lc, tt, sk, qt, hd'⟩) (by rfl))
          exact bodyPost_ret (v := ov ⟨k, vp, lc, tt, sk, qt, hd'⟩) (by simp [results, Tryd.results40, go_sem, r0, r1, r2, r3, r4, r5, r6]) rfl ⟨⟨k, vp, lc, tt, sk, qt, hd'⟩, _, rfl, mildO_mk (by omega) (by omega) (by omega) (by omega) (by omega) (by omega) (by omega), by omega, D.out.drawn.set7 hlt _ _ _ _ _ _ _⟩
        · have w3' : (v == 3) = false := by simpa using w3
          go_wp2_with fail
          exact bodyPost_ret (v := ov ⟨k, rq, lc, tt, sk, qt, hd'⟩) (by simp [results, Tryd.results40, go_sem, r0, r1, r2, r3, r4, r5, r6]) rfl ⟨⟨k, rq, lc, tt, sk, qt, hd'⟩, _, rfl, mildO_mk (by omega) (by omega) (by omega) (by omega) (by omega) (by omega) (by omega), by omega, D.out.drawn.set7 hlt _ _ _ _ _ _ _⟩
end Go.Proofs.YtocllaendofndaaDoor
