/-
  Ledgers: a book and the requests that were seen. Contracts of the laws' helpers: copying, comparing, measuring.
-/
import Derived.Test.YtfohlopbfanaeaaBookH
import Derived.Test.YtfohlopbfanaeaaSeenS
import Derived.Test.YtfohlopbfanaeaaSpec5a
namespace Go.Proofs.Ytfohlopbfanaeaa
open Go.RowKit

/-- A ledger. -/
structure Lg where
  bk : Bk
  sn : List Sn
/-- Three slices that read as a ledger. -/
structure LgAt (w : World) (l : Lg) (vr vh vs : Value) (fa fb fc : List Nat) : Prop where
  b : BkAt w l.bk vr vh fa fb
  s : Rd w 2 vs (ecs sc l.sn) fc
theorem LgAt.below' {w w' : World} {l : Lg} {vr vh vs : Value} {fa fb fc : List Nat} (h : LgAt w l vr vh vs fa fb fc) (hb : Below w.heap.size w w') : LgAt w' l vr vh vs fa fb fc := ⟨h.b.below' hb, h.s.below' hb⟩
theorem LgAt.alloc {w : World} {l : Lg} {vr vh vs : Value} {fa fb fc : List Nat} (h : LgAt w l vr vh vs fa fb fc) (o : Obj) : LgAt (w.alloc o) l vr vh vs fa fb fc := ⟨h.b.alloc o, h.s.alloc o⟩
theorem LgAt.form {w : World} {l : Lg} {vr vh vs : Value} {fa fb fc : List Nat} (h : LgAt w l vr vh vs fa fb fc) : ∃ A c B d D e, vr = .slice A l.bk.rs.length c ∧ vh = .slice B l.bk.hs.length d ∧ vs = .slice D l.sn.length e := by
  obtain ⟨A, c, B, d, h1, h2⟩ := h.b.form
  obtain ⟨D, e, h3⟩ := h.s.elt_form sc_len (by omega)
  exact ⟨A, c, B, d, D, e, h1, h2, h3⟩
/-- A ledger as a value. -/
abbrev lv (now : Int) (vr vh vs : Value) : Value := .agg #[.int .i64 now, vr, vh, vs]
def lsz (l : Lg) : Int := bsz l.bk + l.sn.length
theorem bsz_nn (b : Bk) : 0 ≤ bsz b := by unfold bsz; omega
/-- What a copy of a ledger answers. -/
def CopyLedger (w : World) (l : Lg) (e : Ending) (w' : World) : Prop :=
  ∃ vr vh vs fa fb fc, e = .returned (lv l.bk.now vr vh vs) ∧ LgAt w' l vr vh vs fa fb fc ∧ NF w' fa ∧ NF w' fb ∧ NF w' fc ∧ From w.heap.size fa ∧ From w.heap.size fb ∧ From w.heap.size fc ∧ Apart fa fb ∧ Apart fa fc ∧ Apart fb fc ∧ Below w.heap.size w w'
theorem BkAt.lt {w : World} {b : Bk} {vr vh : Value} {fa fb : List Nat} (h : BkAt w b vr vh fa fb) : (∀ x ∈ fa, x < w.heap.size) ∧ (∀ x ∈ fb, x < w.heap.size) := ⟨h.r.lt, h.h.lt⟩
theorem BkAt.but {w w' : World} {b : Bk} {vr vh : Value} {fa fb bs : List Nat} (h : BkAt w b vr vh fa fb) (hb : But bs w w') (h1 : ∀ x ∈ fa, x ∉ bs) (h2 : ∀ x ∈ fb, x ∉ bs) : BkAt w' b vr vh fa fb := ⟨h.r.but hb h1, h.h.but hb h2⟩

set_option maxRecDepth 100000 in
set_option maxHeartbeats 1000000 in
theorem szLedger_c (l : Lg) (vr vh vs : Value) (fa fb fc : List Nat) (q : Int) (w : World) (h : LgAt w l vr vh vs fa fb fc) (hq : 0 ≤ q) (hq2 : q ≤ 1048576) :
    Calls Try.prog 33 #[lv l.bk.now vr vh vs, .int .i64 q] w fun e w' => e = .returned (.int .i64 (if q < lsz l then -1 else q - lsz l)) ∧ Below w.heap.size w w' := by
  obtain ⟨D, e, rfl⟩ := h.s.elt_form sc_len (by omega)
  have hm := h.s.len_le
  have HBK := Lib.hid h.b
  clear h
  have hbn := bsz_nn l.bk
  generalize hZ : lsz l = Z
  have hz : Z = bsz l.bk + l.sn.length := by rw [← hZ]; rfl
  have HZ := Lib.hid hz; clear hZ hz
  generalize l.sn.length = m at *
  have hcall := szBook_c l.bk vr vh fa fb q (w.alloc (.cells #[.int .i64 l.bk.now, vr, vh, .slice D m e] 51)) (HBK.out.alloc _) hq hq2
  generalize bsz l.bk = n at *
  by_cases h1 : q < n
  · have e : (if q < Z then -1 else q - Z) = -1 := by rw [if_pos (by have := HZ.out; omega)]
    rw [e]; clear e
    rw [if_pos h1] at hcall
    go_enter Try.func33, Try.ntmps33
    go_wp2_with fail
    refine hcall.mono ?_
    rintro e w1 ⟨rfl, hb1⟩
    have HB1 := Lib.hid ((below_new _).trans (hb1.mono (by simp)) : Below w.heap.size w w1)
    clear hb1 hcall
    go_wp2
    go_ret
    exact ⟨rfl, HB1.out⟩
  · rw [if_neg h1] at hcall
    by_cases h2 : q - n < m
    · have e : (if q < Z then -1 else q - Z) = -1 := by rw [if_pos (by have := HZ.out; omega)]
      rw [e]; clear e
      have t1 : ¬ (q - n < 0) := by omega
      go_enter Try.func33, Try.ntmps33
      go_wp2_with fail
      refine hcall.mono ?_
      rintro e w1 ⟨rfl, hb1⟩
      obtain ⟨c0, c1, c2, c3, _, _, _, _, hzz⟩ := four_at (newest hb1 (by simp))
      have HB1 := Lib.hid ((below_new _).trans (hb1.mono (by simp)) : Below w.heap.size w w1)
      clear hb1 hcall
      go_wp2_with fail
      refine (szSeenS_c D m _ (q - n) _ hm (by omega) (by omega)).mono ?_
      rw [if_pos (by omega)]
      rintro e w2 ⟨rfl, rfl⟩
      go_wp2
      go_ret
      exact ⟨rfl, HB1.out⟩
    · have e : (if q < Z then -1 else q - Z) = q - n - m := by have := HZ.out; rw [if_neg (by omega)]; omega
      rw [e]; clear e
      have t1 : ¬ (q - n < 0) := by omega
      have t2 : ¬ (q - n - (m : Int) < 0) := by omega
      go_enter Try.func33, Try.ntmps33
      go_wp2_with fail
      refine hcall.mono ?_
      rintro e w1 ⟨rfl, hb1⟩
      obtain ⟨c0, c1, c2, c3, _, _, _, _, hzz⟩ := four_at (newest hb1 (by simp))
      have HB1 := Lib.hid ((below_new _).trans (hb1.mono (by simp)) : Below w.heap.size w w1)
      clear hb1 hcall
      go_wp2_with fail
      refine (szSeenS_c D m _ (q - n) _ hm (by omega) (by omega)).mono ?_
      rw [if_neg (by omega)]
      rintro e w2 ⟨rfl, rfl⟩
      go_wp2
      go_ret
      exact ⟨rfl, HB1.out⟩

set_option maxRecDepth 100000 in
set_option maxHeartbeats 2000000 in
theorem toLedger_c (l : Lg) (vr vh vs : Value) (fa fb fc : List Nat) (w : World) (hs : lsz l ≤ 1048576) (h : LgAt w l vr vh vs fa fb fc) :
    Calls Try.prog 35 #[lv l.bk.now vr vh vs] w (CopyLedger w l) := by
  obtain ⟨D, d, rfl⟩ := h.s.elt_form sc_len (by omega)
  have hs1 : bsz l.bk ≤ 1048576 := by unfold lsz at hs; omega
  have hs2 : l.sn.length ≤ 1048576 := by have := bsz_nn l.bk; unfold lsz at hs; omega
  have HK := Lib.hid h.b; have HS := Lib.hid h.s
  clear h hs
  go_enter Try.func35, Try.ntmps35
  go_wp2_with fail
  generalize hW : (((w.alloc (.cells #[.int .i64 l.bk.now, vr, vh, .slice D l.sn.length d] 51)).alloc (.cells #[.int .i64 0, .slice none 0 0, .slice none 0 0, .slice none 0 0] 55)).alloc (.cells #[.int .i64 0, .slice none 0 0, .slice none 0 0, .slice none 0 0] 55)) = W
  have hz : W.heap.size = w.heap.size + 3 := by rw [← hW]; simp
  have hbW : Below w.heap.size w W := by rw [← hW]; exact below_more (below_more (below_new _) _) _
  have gl : W.heap[w.heap.size]? = some (.cells #[.int .i64 l.bk.now, vr, vh, .slice D l.sn.length d] 51 (0, 0)) := by rw [← hW]; exact heap_old (heap_old (heap_new w _ rfl))
  have gr : W.heap[w.heap.size + 1]? = some (.cells #[.int .i64 0, .slice none 0 0, .slice none 0 0, .slice none 0 0] 55 (0, 0)) := by rw [← hW]; exact heap_old (heap_new _ _ (by simp))
  have go : W.heap[w.heap.size + 2]? = some (.cells #[.int .i64 0, .slice none 0 0, .slice none 0 0, .slice none 0 0] 55 (0, 0)) := by rw [← hW]; exact heap_new _ _ (by simp)
  have HZ := Lib.hid hz; have HBW := Lib.hid hbW; have GL := Lib.hid gl; have GR := Lib.hid gr; have GO := Lib.hid go
  clear hW hz hbW gl gr go
  refine (toBook_c l.bk vr vh fa fb _ hs1 (HK.out.below' HBW.out)).mono ?_
  rintro e w1 ⟨vr1, vh1, fa1, fb1, rfl, hk1, hna1, hnb1, hfa1, hfb1, hap1, hb1⟩
  obtain ⟨A1, c1, B1, d1, rfl, rfl⟩ := hk1.form
  obtain ⟨l0, l1, l2, l3, _, _, _, _, hzl⟩ := four_at ((hb1.block _ (heap_lt GL.out)).trans GL.out)
  have gr1 := (hb1.block _ (heap_lt GR.out)).trans GR.out
  have go1 := (hb1.block _ (heap_lt GO.out)).trans GO.out
  obtain ⟨o0, o1, o2, o3, x0, x1, x2, x3, hzo⟩ := four_at go1
  have go2 := heap_set1 (i := 2) (v := .slice B1 l.bk.hs.length d1) (heap_set1 (i := 1) (v := .slice A1 l.bk.rs.length c1) (heap_set1 (i := 0) (v := .int .i64 l.bk.now) go1))
  have hz1 := hb1.size
  have hbut := (((But.refl [w.heap.size + 2] w1).setCell (p := ⟨w.heap.size + 2, 0, none⟩) (by simp) (.int .i64 l.bk.now)).setCell (p := ⟨w.heap.size + 2, 1, none⟩) (by simp) (.slice A1 l.bk.rs.length c1)).setCell (p := ⟨w.heap.size + 2, 2, none⟩) (by simp) (.slice B1 l.bk.hs.length d1)
  have hzz := HZ.out
  have ha1 : ∀ x ∈ fa1, x ∉ [w.heap.size + 2] := fun x hx he => by have := hfa1 x hx; simp at he; omega
  have ha2 : ∀ x ∈ fb1, x ∉ [w.heap.size + 2] := fun x hx he => by have := hfb1 x hx; simp at he; omega
  have hk2 := hk1.but hbut ha1 ha2
  have hna2 := hna1.but hbut hk1.lt.1 ha1
  have hnb2 := hnb1.but hbut hk1.lt.2 ha2
  have gr2 := hbut.heap gr1 (by simp)
  have hb2 := HBW.out.trans ((hb1.mono HBW.out.size).trans (hbut.below (Nat.le_trans HBW.out.size hb1.size) (fun x hx => by simp at hx; omega)))
  have HK2 := Lib.hid hk2; have HN2 := Lib.hid (And.intro hna2 hnb2); have GR2 := Lib.hid gr2; have GO2 := Lib.hid go2; have HB2 := Lib.hid hb2
  have HF1 := Lib.hid (And.intro hfa1 (And.intro hfb1 hap1))
  clear hk1 hna1 hnb1 hfa1 hfb1 hap1 hb1 gr1 go1 go2 hbut hk2 hna2 hnb2 gr2 hb2 hzz hz1 ha1 ha2
  go_wp2_with fail
  generalize (((w1.setCell ⟨w.heap.size + 2, 0, none⟩ (.int .i64 l.bk.now)).setCell ⟨w.heap.size + 2, 1, none⟩ (.slice A1 l.bk.rs.length c1)).setCell ⟨w.heap.size + 2, 2, none⟩ (.slice B1 l.bk.hs.length d1)) = X at *
  refine (toSeenS_c D d l.sn _ fc hs2 (HS.out.below' HB2.out)).mono ?_
  rintro e w3 ⟨A3, c3, f3, rfl, hr3, hn3, hf3, hb3⟩
  have go3 : w3.heap[w.heap.size + 2]? = some (.cells #[.int .i64 l.bk.now, .slice A1 l.bk.rs.length c1, .slice B1 l.bk.hs.length d1, .slice none 0 0] 55 (0, 0)) := (hb3.block _ (heap_lt GO2.out)).trans GO2.out
  have gr3 := (hb3.block _ (heap_lt GR2.out)).trans GR2.out
  obtain ⟨p0, p1, p2, p3, y0, y1, y2, y3, hzp⟩ := four_at go3
  obtain ⟨q0, q1, q2, q3, z0, z1, z2, z3, hzq⟩ := four_at gr3
  have HX : Hid (w.heap.size + 3 ≤ X.heap.size ∧ BkAt w3 l.bk (.slice A1 l.bk.rs.length c1) (.slice B1 l.bk.hs.length d1) fa1 fb1 ∧ NF w3 fa1 ∧ NF w3 fb1 ∧ Rd w3 2 (.slice A3 l.sn.length c3) (ecs sc l.sn) f3 ∧ NF w3 f3 ∧ From W.heap.size fa1 ∧ From W.heap.size fb1 ∧ Apart fa1 fb1 ∧ From X.heap.size f3 ∧ (∀ x ∈ fa1, x < X.heap.size) ∧ (∀ x ∈ fb1, x < X.heap.size) ∧ Below w.heap.size w w3) := by
    refine ⟨?_, HK2.out.below' hb3, HN2.out.1.keep fun x hx => hb3.block x (HK2.out.lt.1 x hx), HN2.out.2.keep fun x hx => hb3.block x (HK2.out.lt.2 x hx), hr3, hn3, HF1.out.1, HF1.out.2.1, HF1.out.2.2, hf3, HK2.out.lt.1, HK2.out.lt.2, HB2.out.trans (hb3.mono HB2.out.size)⟩
    have := heap_lt GO2.out; omega
  clear hr3 hn3 hf3 hb3 go3 gr3 l0 l1 l2 l3 hzl o0 o1 o2 o3 x0 x1 x2 x3 hzo
  go_wp2_with fail
  refine bodyPost_ret (v := lv l.bk.now (.slice A1 l.bk.rs.length c1) (.slice B1 l.bk.hs.length d1) (.slice A3 l.sn.length c3)) (by simp [results, Try.results35, go_sem, p0, p1, p2, p3, q0, q1, q2, q3]) rfl ?_
  obtain ⟨k1, k2, k3, k4, k5, k6, k7, k8, k9, k10, k11, k12, k13⟩ := HX.out
  have hzz := HZ.out
  have hbut : But [w.heap.size + 1, w.heap.size + 2] w3 (((((w3.setCell ⟨w.heap.size + 2, 3, none⟩ (.slice A3 l.sn.length c3)).setCell ⟨w.heap.size + 1, 0, none⟩ (.int .i64 l.bk.now)).setCell ⟨w.heap.size + 1, 1, none⟩ (.slice A1 l.bk.rs.length c1)).setCell ⟨w.heap.size + 1, 2, none⟩ (.slice B1 l.bk.hs.length d1)).setCell ⟨w.heap.size + 1, 3, none⟩ (.slice A3 l.sn.length c3)) :=
    (((((But.refl _ w3).setCell (by simp) _).setCell (by simp) _).setCell (by simp) _).setCell (by simp) _).setCell (by simp) _
  have a1 : ∀ x ∈ fa1, x ∉ [w.heap.size + 1, w.heap.size + 2] := fun x hx he => by have := k7 x hx; simp at he; omega
  have a2 : ∀ x ∈ fb1, x ∉ [w.heap.size + 1, w.heap.size + 2] := fun x hx he => by have := k8 x hx; simp at he; omega
  have a3 : ∀ x ∈ f3, x ∉ [w.heap.size + 1, w.heap.size + 2] := fun x hx he => by have := k10 x hx; simp at he; omega
  exact ⟨_, _, _, fa1, fb1, f3, rfl, ⟨k2.but hbut a1 a2, k5.but hbut a3⟩, k3.but hbut k2.lt.1 a1, k4.but hbut k2.lt.2 a2, k6.but hbut k5.lt a3, k7.mono (by omega), k8.mono (by omega), k10.mono (by omega), k9,
    fun x hx he => by have := k11 x hx; have := k10 x he; omega, fun x hx he => by have := k12 x hx; have := k10 x he; omega,
    k13.trans (hbut.below k13.size (fun x hx => by simp at hx; omega))⟩

set_option maxRecDepth 100000 in
set_option maxHeartbeats 1000000 in
theorem eqLedger_c (l : Lg) (vr vh vs vr' vh' vs' : Value) (fa fb fc fa' fb' fc' : List Nat) (w : World) (h : LgAt w l vr vh vs fa fb fc) (h' : LgAt w l vr' vh' vs' fa' fb' fc') :
    Calls Try.prog 37 #[lv l.bk.now vr vh vs, lv l.bk.now vr' vh' vs'] w fun e w' => e = .returned (.bool true) ∧ Below w.heap.size w w' := by
  obtain ⟨D, d, rfl⟩ := h.s.elt_form sc_len (by omega)
  obtain ⟨D', d', rfl⟩ := h'.s.elt_form sc_len (by omega)
  have H1 := Lib.hid h; have H2 := Lib.hid h'; clear h h'
  go_enter Try.func37, Try.ntmps37
  go_wp2_with fail
  generalize hW : ((w.alloc (.cells #[.int .i64 l.bk.now, vr, vh, .slice D l.sn.length d] 55)).alloc (.cells #[.int .i64 l.bk.now, vr', vh', .slice D' l.sn.length d'] 55)) = W
  have hbW : Below w.heap.size w W := by rw [← hW]; exact below_more (below_new _) _
  have g1 : W.heap[w.heap.size]? = some (.cells #[.int .i64 l.bk.now, vr, vh, .slice D l.sn.length d] 55 (0, 0)) := by rw [← hW]; exact heap_old (heap_new w _ rfl)
  have g2 : W.heap[w.heap.size + 1]? = some (.cells #[.int .i64 l.bk.now, vr', vh', .slice D' l.sn.length d'] 55 (0, 0)) := by rw [← hW]; exact heap_new _ _ (by simp)
  have HBW := Lib.hid hbW; have G1 := Lib.hid g1; have G2 := Lib.hid g2
  clear hW hbW g1 g2
  refine (eqBook_c l.bk vr vh vr' vh' fa fb fa' fb' _ (H1.out.b.below' HBW.out) (H2.out.b.below' HBW.out)).mono ?_
  rintro e w1 ⟨rfl, hb1⟩
  obtain ⟨l0, l1, l2, l3, _, _, _, _, hzl⟩ := four_at ((hb1.block _ (heap_lt G1.out)).trans G1.out)
  obtain ⟨m0, m1, m2, m3, _, _, _, _, hzm⟩ := four_at ((hb1.block _ (heap_lt G2.out)).trans G2.out)
  have HB1 := Lib.hid (HBW.out.trans (hb1.mono HBW.out.size))
  clear hb1
  go_wp2_with fail
  refine (eqSeenS_c D D' d d' l.sn _ fc fc' (H1.out.s.below' HB1.out) (H2.out.s.below' HB1.out)).mono ?_
  rintro e w2 ⟨rfl, hb2⟩
  have HB2 := Lib.hid (HB1.out.trans (hb2.mono HB1.out.size))
  clear hb2
  go_wp2
  go_ret
  exact ⟨rfl, HB2.out⟩
end Go.Proofs.Ytfohlopbfanaeaa
