/-
  Contracts of the laws' helpers over books: copying, comparing, measuring.
-/
import Derived.Test.YtfohlopbfanaeaaSpec4c
import Derived.Test.YtfohlopbfanaeaaG1
namespace Go.Proofs.Ytfohlopbfanaeaa
open Go.RowKit

/-- Two slices that read as the rows and the holds of a book. -/
structure BkAt (w : World) (b : Bk) (vr vh : Value) (fa fb : List Nat) : Prop where
  r : Rd w 4 vr (rcs b.rs) fa
  h : Rd w 5 vh (ecs hc b.hs) fb
theorem BkAt.below' {w w' : World} {b : Bk} {vr vh : Value} {fa fb : List Nat} (h : BkAt w b vr vh fa fb) (hb : Below w.heap.size w w') : BkAt w' b vr vh fa fb := ⟨h.r.below' hb, h.h.below' hb⟩
theorem BkAt.alloc {w : World} {b : Bk} {vr vh : Value} {fa fb : List Nat} (h : BkAt w b vr vh fa fb) (o : Obj) : BkAt (w.alloc o) b vr vh fa fb := ⟨h.r.alloc o, h.h.alloc o⟩
theorem BkAt.drew {w : World} {b : Bk} {vr vh : Value} {fa fb : List Nat} (h : BkAt w b vr vh fa fb) : BkAt w.drew b vr vh fa fb := ⟨h.r.drew, h.h.drew⟩
/-- The slices' own form. -/
theorem BkAt.form {w : World} {b : Bk} {vr vh : Value} {fa fb : List Nat} (h : BkAt w b vr vh fa fb) : ∃ A c B d, vr = .slice A b.rs.length c ∧ vh = .slice B b.hs.length d := by
  obtain ⟨A, c, h1⟩ := h.r.rows_form
  obtain ⟨B, d, h2⟩ := h.h.elt_form hc_len (by omega)
  exact ⟨A, c, B, d, h1, h2⟩
/-- No block of the first list lies in the second. -/
def Apart (fp fq : List Nat) : Prop := ∀ x ∈ fp, x ∉ fq
/-- What a copy of a book answers. -/
def CopyBook (w : World) (b : Bk) (e : Ending) (w' : World) : Prop :=
  ∃ vr vh fa fb, e = .returned (bv b.now vr vh) ∧ BkAt w' b vr vh fa fb ∧ NF w' fa ∧ NF w' fb ∧ From w.heap.size fa ∧ From w.heap.size fb ∧ Apart fa fb ∧ Below w.heap.size w w'
/-- How long a book's slices are. -/
def bsz (b : Bk) : Int := b.rs.length + b.hs.length

set_option maxRecDepth 100000 in
set_option maxHeartbeats 1000000 in
theorem szBook_c (b : Bk) (vr vh : Value) (fa fb : List Nat) (q : Int) (w : World) (h : BkAt w b vr vh fa fb) (hq : 0 ≤ q) (hq2 : q ≤ 1048576) :
    Calls Try.prog 14 #[bv b.now vr vh, .int .i64 q] w fun e w' => e = .returned (.int .i64 (if q < bsz b then -1 else q - bsz b)) ∧ Below w.heap.size w w' := by
  obtain ⟨A, c, B, d, rfl, rfl⟩ := h.form
  have hn := h.r.len_le
  have hm := h.h.len_le
  clear h
  generalize hZ : bsz b = Z
  have hz : Z = b.rs.length + b.hs.length := by rw [← hZ]; rfl
  have HZ := Lib.hid hz; clear hZ hz
  generalize b.rs.length = n at *
  generalize b.hs.length = m at *
  by_cases h1 : q < n
  · have e : (if q < Z then -1 else q - Z) = -1 := by rw [if_pos (by have := HZ.out; omega)]
    rw [e]; clear e
    go_enter Try.func14, Try.ntmps14
    go_wp2_with fail
    refine (szRowS_c A n c q _ hn hq hq2).mono ?_
    rw [if_pos (by omega)]
    rintro e w1 ⟨rfl, rfl⟩
    go_wp2
    go_ret
    exact ⟨rfl, below_new _⟩
  · by_cases h2 : q - n < m
    · have e : (if q < Z then -1 else q - Z) = -1 := by rw [if_pos (by have := HZ.out; omega)]
      rw [e]; clear e
      have t1 : ¬ (q - (n : Int) < 0) := by omega
      go_enter Try.func14, Try.ntmps14
      go_wp2_with fail
      refine (szRowS_c A n c q _ hn hq hq2).mono ?_
      rw [if_neg (by omega)]
      rintro e w1 ⟨rfl, rfl⟩
      go_wp2_with fail
      refine (szHoldS_c B m d (q - n) _ hm (by omega) (by omega)).mono ?_
      rw [if_pos (by omega)]
      rintro e w1 ⟨rfl, rfl⟩
      go_wp2
      go_ret
      exact ⟨rfl, below_new _⟩
    · have e : (if q < Z then -1 else q - Z) = q - n - m := by have := HZ.out; rw [if_neg (by omega)]; omega
      rw [e]; clear e
      have t1 : ¬ (q - (n : Int) < 0) := by omega
      have t2 : ¬ (q - (n : Int) - (m : Int) < 0) := by omega
      go_enter Try.func14, Try.ntmps14
      go_wp2_with fail
      refine (szRowS_c A n c q _ hn hq hq2).mono ?_
      rw [if_neg (by omega)]
      rintro e w1 ⟨rfl, rfl⟩
      go_wp2_with fail
      refine (szHoldS_c B m d (q - n) _ hm (by omega) (by omega)).mono ?_
      rw [if_neg (by omega)]
      rintro e w1 ⟨rfl, rfl⟩
      go_wp2
      go_ret
      exact ⟨rfl, below_new _⟩

set_option maxRecDepth 100000 in
set_option maxHeartbeats 2000000 in
theorem toBook_c (b : Bk) (vr vh : Value) (fa fb : List Nat) (w : World) (hs : bsz b ≤ 1048576) (h : BkAt w b vr vh fa fb) :
    Calls Try.prog 16 #[bv b.now vr vh] w (CopyBook w b) := by
  obtain ⟨A, c, B, d, rfl, rfl⟩ := h.form
  have hs1 : b.rs.length ≤ 1048576 := by unfold bsz at hs; omega
  have hs2 : b.hs.length ≤ 1048576 := by unfold bsz at hs; omega
  have HR := Lib.hid h.r; have HH := Lib.hid h.h
  clear h hs
  go_enter Try.func16, Try.ntmps16
  go_wp2_with fail
  generalize hW : (((w.alloc (.cells #[.int .i64 b.now, .slice A b.rs.length c, .slice B b.hs.length d] 25)).alloc (.cells #[.int .i64 0, .slice none 0 0, .slice none 0 0] 31)).alloc (.cells #[.int .i64 b.now, .slice none 0 0, .slice none 0 0] 31)) = W
  have hz : W.heap.size = w.heap.size + 3 := by rw [← hW]; simp
  have hbW : Below w.heap.size w W := by rw [← hW]; exact below_more (below_more (below_new _) _) _
  have gl : W.heap[w.heap.size]? = some (.cells #[.int .i64 b.now, .slice A b.rs.length c, .slice B b.hs.length d] 25 (0, 0)) := by rw [← hW]; exact heap_old (heap_old (heap_new w _ rfl))
  have gr : W.heap[w.heap.size + 1]? = some (.cells #[.int .i64 0, .slice none 0 0, .slice none 0 0] 31 (0, 0)) := by rw [← hW]; exact heap_old (heap_new _ _ (by simp))
  have go : W.heap[w.heap.size + 2]? = some (.cells #[.int .i64 b.now, .slice none 0 0, .slice none 0 0] 31 (0, 0)) := by rw [← hW]; exact heap_new _ _ (by simp)
  have HZ := Lib.hid hz; have HBW := Lib.hid hbW; have GL := Lib.hid gl; have GR := Lib.hid gr; have GO := Lib.hid go
  clear hW hz hbW gl gr go
  refine (toRowS_c A c b.rs _ fa hs1 (HR.out.below' HBW.out)).mono ?_
  rintro e w1 ⟨A1, c1, f1, rfl, hr1, hn1, hf1, hb1⟩
  obtain ⟨l0, l1, l2, _, _, _, hzl⟩ := three_at ((hb1.block _ (heap_lt GL.out)).trans GL.out)
  have gr1 := (hb1.block _ (heap_lt GR.out)).trans GR.out
  have go1 := (hb1.block _ (heap_lt GO.out)).trans GO.out
  obtain ⟨o0, o1, o2, x0, x1, x2, hzo⟩ := three_at go1
  have go2 := heap_set1 (i := 1) (v := .slice A1 b.rs.length c1) go1
  have hz1 := hb1.size
  have hbut := (But.refl [w.heap.size + 2] w1).setCell (p := ⟨w.heap.size + 2, 1, none⟩) (by simp) (.slice A1 b.rs.length c1)
  have hzz := HZ.out
  have hr2 := hr1.but hbut (fun x hx he => by have := hf1 x hx; simp at he; omega)
  have hn2 := hn1.but hbut hr1.lt (fun x hx he => by have := hf1 x hx; simp at he; omega)
  have gr2 := hbut.heap gr1 (by simp)
  have gl2 := hbut.heap ((hb1.block _ (heap_lt GL.out)).trans GL.out) (by simp)
  have hb2 : Below w.heap.size w (w1.setCell ⟨w.heap.size + 2, 1, none⟩ (.slice A1 b.rs.length c1)) := (HBW.out.trans (hb1.mono HBW.out.size)).setCell (by simp) _
  have HR2 := Lib.hid hr2; have HN2 := Lib.hid hn2; have GR2 := Lib.hid gr2; have GL2 := Lib.hid gl2; have GO2 := Lib.hid go2; have HB2 := Lib.hid hb2
  have HF1 := Lib.hid hf1
  clear hr1 hn1 hf1 hb1 gr1 go1 go2 hbut hr2 hn2 gr2 gl2 hb2 hzz hz1
  go_wp2_with fail
  generalize (w1.setCell ⟨w.heap.size + 2, 1, none⟩ (.slice A1 b.rs.length c1)) = X at *
  refine (toHoldS_c B d b.hs _ fb hs2 (HH.out.below' HB2.out)).mono ?_
  rintro e w3 ⟨A3, c3, f3, rfl, hr3, hn3, hf3, hb3⟩
  have go3 : w3.heap[w.heap.size + 2]? = some (.cells #[.int .i64 b.now, .slice A1 b.rs.length c1, .slice none 0 0] 31 (0, 0)) := (hb3.block _ (heap_lt GO2.out)).trans GO2.out
  have gr3 := (hb3.block _ (heap_lt GR2.out)).trans GR2.out
  obtain ⟨p0, p1, p2, y0, y1, y2, hzp⟩ := three_at go3
  obtain ⟨q0, q1, q2, z0, z1, z2, hzq⟩ := three_at gr3
  have hr4 := HR2.out.below' hb3
  have hn4 : NF w3 f1 := HN2.out.keep fun x hx => hb3.block x (HR2.out.lt x hx)
  have hlx := HR2.out.lt
  have hw3 := HB2.out.trans (hb3.mono HB2.out.size)
  have hsx := (HB2.out.size)
  have hzz := HZ.out
  have HX : Hid (w.heap.size + 3 ≤ X.heap.size ∧ Rd w3 4 (.slice A1 b.rs.length c1) (rcs b.rs) f1 ∧ NF w3 f1 ∧ Rd w3 5 (.slice A3 b.hs.length c3) (ecs hc b.hs) f3 ∧ NF w3 f3 ∧ From W.heap.size f1 ∧ From X.heap.size f3 ∧ (∀ x ∈ f1, x < X.heap.size) ∧ Below w.heap.size w w3) := by
    refine ⟨?_, hr4, hn4, hr3, hn3, HF1.out, hf3, hlx, hw3⟩
    have := heap_lt GO2.out; omega
  clear hr4 hn4 hr3 hn3 hf3 hlx hw3 hb3 hsx hzz go3 gr3 l0 l1 l2 hzl o0 o1 o2 x0 x1 x2 hzo
  go_wp2_with fail
  refine bodyPost_ret (v := bv b.now (.slice A1 b.rs.length c1) (.slice A3 b.hs.length c3)) (by simp [results, Try.results16, go_sem, p0, p1, p2, q0, q1, q2]) rfl ?_
  obtain ⟨k1, k2, k3, k4, k5, k6, k7, k8, k9⟩ := HX.out
  have hzz := HZ.out
  have hbut : But [w.heap.size + 1, w.heap.size + 2] w3 ((((w3.setCell ⟨w.heap.size + 2, 2, none⟩ (.slice A3 b.hs.length c3)).setCell ⟨w.heap.size + 1, 0, none⟩ (.int .i64 b.now)).setCell ⟨w.heap.size + 1, 1, none⟩ (.slice A1 b.rs.length c1)).setCell ⟨w.heap.size + 1, 2, none⟩ (.slice A3 b.hs.length c3)) :=
    ((((But.refl _ w3).setCell (by simp) _).setCell (by simp) _).setCell (by simp) _).setCell (by simp) _
  have a1 : ∀ x ∈ f1, x ∉ [w.heap.size + 1, w.heap.size + 2] := fun x hx he => by have := k6 x hx; simp at he; omega
  have a3 : ∀ x ∈ f3, x ∉ [w.heap.size + 1, w.heap.size + 2] := fun x hx he => by have := k7 x hx; simp at he; omega
  exact ⟨_, _, f1, f3, rfl, ⟨k2.but hbut a1, k4.but hbut a3⟩, k3.but hbut k2.lt a1, k5.but hbut k4.lt a3, k6.mono (by omega), k7.mono (by omega), fun x hx he => by have := k8 x hx; have := k7 x he; omega,
    k9.trans (hbut.below k9.size (fun x hx => by simp at hx; omega))⟩

set_option maxRecDepth 100000 in
set_option maxHeartbeats 1000000 in
theorem eqBook_c (b : Bk) (vr vh vr' vh' : Value) (fa fb fa' fb' : List Nat) (w : World) (h : BkAt w b vr vh fa fb) (h' : BkAt w b vr' vh' fa' fb') :
    Calls Try.prog 18 #[bv b.now vr vh, bv b.now vr' vh'] w fun e w' => e = .returned (.bool true) ∧ Below w.heap.size w w' := by
  obtain ⟨A, c, B, d, rfl, rfl⟩ := h.form
  obtain ⟨A', c', B', d', rfl, rfl⟩ := h'.form
  have H1 := Lib.hid h; have H2 := Lib.hid h'; clear h h'
  go_enter Try.func18, Try.ntmps18
  go_wp2_with fail
  generalize hW : ((w.alloc (.cells #[.int .i64 b.now, .slice A b.rs.length c, .slice B b.hs.length d] 31)).alloc (.cells #[.int .i64 b.now, .slice A' b.rs.length c', .slice B' b.hs.length d'] 31)) = W
  have hbW : Below w.heap.size w W := by rw [← hW]; exact below_more (below_new _) _
  have g1 : W.heap[w.heap.size]? = some (.cells #[.int .i64 b.now, .slice A b.rs.length c, .slice B b.hs.length d] 31 (0, 0)) := by rw [← hW]; exact heap_old (heap_new w _ rfl)
  have g2 : W.heap[w.heap.size + 1]? = some (.cells #[.int .i64 b.now, .slice A' b.rs.length c', .slice B' b.hs.length d'] 31 (0, 0)) := by rw [← hW]; exact heap_new _ _ (by simp)
  have HBW := Lib.hid hbW; have G1 := Lib.hid g1; have G2 := Lib.hid g2
  clear hW hbW g1 g2
  refine (eqRowS_c A A' c c' b.rs _ fa fa' (H1.out.r.below' HBW.out) (H2.out.r.below' HBW.out)).mono ?_
  rintro e w1 ⟨rfl, hb1⟩
  obtain ⟨l0, l1, l2, _, _, _, hzl⟩ := three_at ((hb1.block _ (heap_lt G1.out)).trans G1.out)
  obtain ⟨m0, m1, m2, _, _, _, hzm⟩ := three_at ((hb1.block _ (heap_lt G2.out)).trans G2.out)
  have HB1 := Lib.hid (HBW.out.trans (hb1.mono HBW.out.size))
  clear hb1
  go_wp2_with fail
  refine (eqHoldS_c B B' d d' b.hs _ fb fb' (H1.out.h.below' HB1.out) (H2.out.h.below' HB1.out)).mono ?_
  rintro e w2 ⟨rfl, hb2⟩
  have HB2 := Lib.hid (HB1.out.trans (hb2.mono HB1.out.size))
  clear hb2
  go_wp2
  go_ret
  exact ⟨rfl, HB2.out⟩
end Go.Proofs.Ytfohlopbfanaeaa
