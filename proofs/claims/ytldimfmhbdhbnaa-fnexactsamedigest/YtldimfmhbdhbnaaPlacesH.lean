/-
  Contracts of the laws' helpers over places and results that hold places.
-/
import Derived.Test.YtldimfmhbdhbnaaFilesH
namespace Go.Proofs.Ytldimfmhbdhbnaa
open Go.RowKit

/-- A slice that reads as the files of places. -/
structure PlAt (w : World) (p : Pl) (vf : Value) (fp : List Nat) : Prop where
  f : RdF w vf p.fs fp
theorem PlAt.below' {w w' : World} {p : Pl} {vf : Value} {fp : List Nat} (h : PlAt w p vf fp) (hb : Below w.heap.size w w') : PlAt w' p vf fp := ⟨h.f.below' hb⟩
theorem PlAt.alloc {w : World} {p : Pl} {vf : Value} {fp : List Nat} (h : PlAt w p vf fp) (o : Obj) : PlAt (w.alloc o) p vf fp := ⟨h.f.alloc o⟩
theorem PlAt.drew {w : World} {p : Pl} {vf : Value} {fp : List Nat} (h : PlAt w p vf fp) : PlAt w.drew p vf fp := ⟨h.f.drew⟩
theorem PlAt.but {w w' : World} {p : Pl} {vf : Value} {fp bs : List Nat} (h : PlAt w p vf fp) (hb : But bs w w') (hd : ∀ x ∈ fp, x ∉ bs) : PlAt w' p vf fp := ⟨h.f.but hb hd⟩
theorem PlAt.lt {w : World} {p : Pl} {vf : Value} {fp : List Nat} (h : PlAt w p vf fp) : ∀ x ∈ fp, x < w.heap.size := h.f.lt
theorem PlAt.form {w : World} {p : Pl} {vf : Value} {fp : List Nat} (h : PlAt w p vf fp) : ∃ A c, vf = .slice A p.fs.length c := by
  obtain ⟨A, c, e, _⟩ := h.f.form
  exact ⟨A, c, e⟩
/-- Places as a value. -/
abbrev plv (mark : Int) (vf : Value) : Value := .agg #[vf, .int .i64 mark]
/-- A code and places as a value. -/
abbrev plrv (code mark : Int) (vf : Value) : Value := .agg #[.int .i64 code, vf, .int .i64 mark]
def plsz (p : Pl) : Int := fsz p.fs
theorem plsz_nn (p : Pl) : 0 ≤ plsz p := fsz_nn p.fs
/-- Places whose rows are marked. -/
def markPl (p : Pl) (q : Int) : Pl := ⟨markFs p.fs q, p.mark⟩
theorem markPl_len (p : Pl) (q : Int) : (markPl p q).fs.length = p.fs.length := markL_length _ _
def cntPl (p : Pl) : Nat := cntFs p.fs
theorem cntPl_le (p : Pl) (h : plsz p ≤ 1048576) : cntPl p ≤ 4194304 := by
  have := cntFs_eq p.fs; unfold plsz fsz at h; unfold cntPl; omega
/-- What a copy of places answers. -/
def CopyPlaces (w : World) (p : Pl) (e : Ending) (w' : World) : Prop :=
  ∃ vf fp, e = .returned (plv p.mark vf) ∧ PlAt w' p vf fp ∧ NF w' fp ∧ (From w.heap.size fp ∧ fp.Nodup) ∧ Below w.heap.size w w'

set_option maxRecDepth 100000 in
set_option maxHeartbeats 1000000 in
theorem szPlaces_c (p : Pl) (vf : Value) (fp : List Nat) (q : Int) (w : World) (h : PlAt w p vf fp) (hq : 0 ≤ q) (hq2 : q ≤ 1048576) :
    Calls Try.prog 34 #[plv p.mark vf, .int .i64 q] w fun e w' => e = .returned (.int .i64 (if q < plsz p then -1 else q - plsz p)) ∧ Below w.heap.size w w' := by
  obtain ⟨A, c, rfl⟩ := h.form
  have HF := Lib.hid h.f
  clear h
  have hcall := szRowSS_c A c p.fs q (w.alloc (.cells #[.slice A p.fs.length c, .int .i64 p.mark] 62)) fp (HF.out.alloc _) hq hq2
  have hnn := fsz_nn p.fs
  unfold plsz
  generalize fsz p.fs = Z at *
  by_cases h1 : q < Z
  · rw [if_pos h1] at hcall ⊢
    go_enter Try.func34, Try.ntmps34
    go_wp2_with fail
    refine hcall.mono ?_
    rintro e w1 ⟨rfl, hw⟩
    subst hw
    go_wp2
    go_ret
    exact ⟨rfl, below_new _⟩
  · rw [if_neg h1] at hcall ⊢
    have t1 : ¬ (q - Z < 0) := by omega
    go_enter Try.func34, Try.ntmps34
    go_wp2_with fail
    refine hcall.mono ?_
    rintro e w1 ⟨rfl, hw⟩
    subst hw
    go_wp2
    go_ret
    exact ⟨rfl, below_new _⟩

set_option maxRecDepth 100000 in
set_option maxHeartbeats 2000000 in
theorem toPlaces_c (p : Pl) (vf : Value) (fp : List Nat) (w : World) (hs : plsz p ≤ 1048576) (h : PlAt w p vf fp) :
    Calls Try.prog 37 #[plv p.mark vf] w (CopyPlaces w p) := by
  obtain ⟨A, c, rfl⟩ := h.form
  have HF := Lib.hid h.f; have HS := Lib.hid hs
  clear h hs
  go_enter Try.func37, Try.ntmps37
  go_wp2_with fail
  generalize hW : (((w.alloc (.cells #[.slice A p.fs.length c, .int .i64 p.mark] 62)).alloc (.cells #[.slice none 0 0, .int .i64 0] 29)).alloc (.cells #[.slice none 0 0, .int .i64 0] 29)) = W
  have hz : W.heap.size = w.heap.size + 3 := by rw [← hW]; simp
  have hbW : Below w.heap.size w W := by rw [← hW]; exact below_more (below_more (below_new _) _) _
  have gl : W.heap[w.heap.size]? = some (.cells #[.slice A p.fs.length c, .int .i64 p.mark] 62 (0, 0)) := by rw [← hW]; exact heap_old (heap_old (heap_new w _ rfl))
  have gr : W.heap[w.heap.size + 1]? = some (.cells #[.slice none 0 0, .int .i64 0] 29 (0, 0)) := by rw [← hW]; exact heap_old (heap_new _ _ (by simp))
  have go : W.heap[w.heap.size + 2]? = some (.cells #[.slice none 0 0, .int .i64 0] 29 (0, 0)) := by rw [← hW]; exact heap_new _ _ (by simp)
  have HZ := Lib.hid (Nat.le_of_eq hz.symm); have HBW := Lib.hid hbW; have GL := Lib.hid gl; have GR := Lib.hid gr; have GO := Lib.hid go
  clear hW hz hbW gl gr go
  refine (toRowSS_c A c p.fs _ fp HS.out (HF.out.below' HBW.out)).mono ?_
  rintro e w1 ⟨A1, c1, f1, rfl, hr1, hn1, hf1, hd1, hb1⟩
  obtain ⟨l0, l1, _, _, hzl⟩ := two_at ((hb1.block _ (heap_lt GL.out)).trans GL.out)
  obtain ⟨o0, o1, x0, x1, hzo⟩ := two_at ((hb1.block _ (heap_lt GO.out)).trans GO.out)
  obtain ⟨q0, q1, z0, z1, hzq⟩ := two_at ((hb1.block _ (heap_lt GR.out)).trans GR.out)
  have HX : Hid (RdF w1 (.slice A1 p.fs.length c1) p.fs f1 ∧ NF w1 f1 ∧ From (w.heap.size + 3) f1 ∧ f1.Nodup ∧ Below w.heap.size w w1) :=
    ⟨hr1, hn1, hf1.mono HZ.out, hd1, HBW.out.trans (hb1.mono HBW.out.size)⟩
  clear hr1 hn1 hf1 hd1 hb1
  go_wp2_with fail
  refine bodyPost_ret (v := plv p.mark (.slice A1 p.fs.length c1)) (by simp [results, Try.results37, go_sem, q0, q1, o0, o1]) rfl ?_
  obtain ⟨k1, k2, k3, k4, k5⟩ := HX.out
  have hbut : But [w.heap.size + 1, w.heap.size + 2] w1 ((((w1.setCell ⟨w.heap.size + 2, 0, none⟩ (.slice A1 p.fs.length c1)).setCell ⟨w.heap.size + 2, 1, none⟩ (.int .i64 p.mark)).setCell ⟨w.heap.size + 1, 0, none⟩ (.slice A1 p.fs.length c1)).setCell ⟨w.heap.size + 1, 1, none⟩ (.int .i64 p.mark)) :=
    ((((But.refl _ w1).setCell (by simp) _).setCell (by simp) _).setCell (by simp) _).setCell (by simp) _
  have a1 : ∀ x ∈ f1, x ∉ [w.heap.size + 1, w.heap.size + 2] := fun x hx he => by have := k3 x hx; simp at he; omega
  exact ⟨_, f1, rfl, ⟨k1.but hbut a1⟩, k2.but hbut k1.lt a1, ⟨k3.mono (by omega), k4⟩, k5.trans (hbut.below k5.size (fun x hx => by simp at hx; omega))⟩

set_option maxRecDepth 100000 in
set_option maxHeartbeats 1000000 in
theorem eqPlaces_c (p : Pl) (vf vf' : Value) (fp fp' : List Nat) (w : World) (h : PlAt w p vf fp) (h' : PlAt w p vf' fp') :
    Calls Try.prog 40 #[plv p.mark vf, plv p.mark vf'] w fun e w' => e = .returned (.bool true) ∧ Below w.heap.size w w' := by
  obtain ⟨A, c, rfl⟩ := h.form
  obtain ⟨A', c', rfl⟩ := h'.form
  have H1 := Lib.hid h; have H2 := Lib.hid h'; clear h h'
  go_enter Try.func40, Try.ntmps40
  go_wp2_with fail
  generalize hW : ((w.alloc (.cells #[.slice A p.fs.length c, .int .i64 p.mark] 29)).alloc (.cells #[.slice A' p.fs.length c', .int .i64 p.mark] 29)) = W
  have hbW : Below w.heap.size w W := by rw [← hW]; exact below_more (below_new _) _
  have g1 : W.heap[w.heap.size]? = some (.cells #[.slice A p.fs.length c, .int .i64 p.mark] 29 (0, 0)) := by rw [← hW]; exact heap_old (heap_new w _ rfl)
  have g2 : W.heap[w.heap.size + 1]? = some (.cells #[.slice A' p.fs.length c', .int .i64 p.mark] 29 (0, 0)) := by rw [← hW]; exact heap_new _ _ (by simp)
  have HBW := Lib.hid hbW; have G1 := Lib.hid g1; have G2 := Lib.hid g2
  clear hW hbW g1 g2
  refine (eqRowSS_c A A' c c' p.fs _ fp fp' (H1.out.f.below' HBW.out) (H2.out.f.below' HBW.out)).mono ?_
  rintro e w1 ⟨rfl, hb1⟩
  obtain ⟨l0, l1, _, _, hzl⟩ := two_at ((hb1.block _ (heap_lt G1.out)).trans G1.out)
  obtain ⟨m0, m1, _, _, hzm⟩ := two_at ((hb1.block _ (heap_lt G2.out)).trans G2.out)
  have HB1 := Lib.hid (HBW.out.trans (hb1.mono HBW.out.size))
  clear hb1
  go_wp2
  go_ret
  exact ⟨rfl, HB1.out⟩





end Go.Proofs.Ytldimfmhbdhbnaa
