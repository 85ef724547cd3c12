/-
  Contracts of the laws' helpers over places and results that hold places.
-/
import Derived.Test.YtoabohllphoioaaFilesH
namespace Go.Proofs.Ytoabohllphoioaa
open Go.RowKit

/-- A slice that reads as the files of places. -/
structure PlAt (w : World) (p : Pl) (vf : Value) (fp : List Nat) : Prop where
  f : RdF w vf p.fs fp
theorem PlAt.below' {w w' : World} {p : Pl} {vf : Value} {fp : List Nat} (h : PlAt w p vf fp) (hb : Below w.heap.size w w') : PlAt w' p vf fp := ⟨h.f.below' hb⟩
theorem PlAt.alloc {w : World} {p : Pl} {vf : Value} {fp : List Nat} (h : PlAt w p vf fp) (o : Obj) : PlAt (w.alloc o) p vf fp := ⟨h.f.alloc o⟩
theorem PlAt.drew {w : World} {p : Pl} {vf : Value} {fp : List Nat} (h : PlAt w p vf fp) : PlAt w.drew p vf fp := ⟨h.f.drew⟩
theorem PlAt.but {w w' : World} {p : Pl} {vf : Value} {fp bs : List Nat} (h : PlAt w p vf fp) (hb : But bs w w') (hd : ∀ x ∈ fp, x ∉ bs) : PlAt w' p vf fp := ⟨h.f.but hb hd⟩
theorem PlAt.lt {w : World} {p : Pl} {vf : Value} {fp : List Nat} (h : PlAt w p vf fp) : ∀ x ∈ fp, x < w.heap.size := h.f.lt
theorem PlAt.form {w : World} {p : Pl} {vf : Value} {fp : List Nat} (h : PlAt w p vf fp) : ∃ A c, vf = .slice A p.fs.length c := by
  obtain ⟨A, c, e, _⟩ := h.f.form
  exact ⟨A, c, e⟩
/-- Places as a value. -/
abbrev plv (mark : Int) (vf : Value) : Value := .agg #[vf, .int .i64 mark]
/-- A code and places as a value. -/
abbrev plrv (code mark : Int) (vf : Value) : Value := .agg #[.int .i64 code, vf, .int .i64 mark]
def plsz (p : Pl) : Int := fsz p.fs
theorem plsz_nn (p : Pl) : 0 ≤ plsz p := fsz_nn p.fs
/-- Places whose rows are marked. -/
def markPl (p : Pl) (q : Int) : Pl := ⟨markFs p.fs q, p.mark⟩
theorem markPl_len (p : Pl) (q : Int) : (markPl p q).fs.length = p.fs.length := markL_length _ _
def cntPl (p : Pl) : Nat := cntFs p.fs
theorem cntPl_le (p : Pl) (h : plsz p ≤ 1048576) : cntPl p ≤ 4194304 := by
  have := cntFs_eq p.fs; unfold plsz fsz at h; unfold cntPl; omega
/-- What a copy of places answers. -/
def CopyPlaces (w : World) (p : Pl) (e : Ending) (w' : World) : Prop :=
  ∃ vf fp, e = .returned (plv p.mark vf) ∧ PlAt w' p vf fp ∧ NF w' fp ∧ (From w.heap.size fp ∧ fp.Nodup) ∧ Below w.heap.size w w'

set_option maxRecDepth 100000 in
set_option maxHeartbeats 1000000 in
theorem szPlaces_c (p : Pl) (vf : Value) (fp : List Nat) (q : Int) (w : World) (h : PlAt w p vf fp) (hq : 0 ≤ q) (hq2 : q ≤ 1048576) :
    Calls Try.prog 22 #[plv p.mark vf, .int .i64 q] w fun e w' => e = .returned (.int .i64 (if q < plsz p then -1 else q - plsz p)) ∧ Below w.heap.size w w' := by
  obtain ⟨A, c, rfl⟩ := h.form
  have HF := Lib.hid h.f
  clear h
  have hcall := szRowSS_c A c p.fs q (w.alloc (.cells #[.slice A p.fs.length c, .int .i64 p.mark] 42)) fp (HF.out.alloc _) hq hq2
  have hnn := fsz_nn p.fs
  unfold plsz
  generalize fsz p.fs = Z at *
  by_cases h1 : q < Z
  · rw [if_pos h1] at hcall ⊢
    go_enter Try.func22, Try.ntmps22
    go_wp2_with fail
    refine hcall.mono ?_
    rintro e w1 ⟨rfl, hw⟩
    subst hw
    go_wp2
    go_ret
    exact ⟨rfl, below_new _⟩
  · rw [if_neg h1] at hcall ⊢
    have t1 : ¬ (q - Z < 0) := by omega
    go_enter Try.func22, Try.ntmps22
    go_wp2_with fail
    refine hcall.mono ?_
    rintro e w1 ⟨rfl, hw⟩
    subst hw
    go_wp2
    go_ret
    exact ⟨rfl, below_new _⟩

set_option maxRecDepth 100000 in
set_option maxHeartbeats 2000000 in
theorem toPlaces_c (p : Pl) (vf : Value) (fp : List Nat) (w : World) (hs : plsz p ≤ 1048576) (h : PlAt w p vf fp) :
    Calls Try.prog 24 #[plv p.mark vf] w (CopyPlaces w p) := by
  obtain ⟨A, c, rfl⟩ := h.form
  have HF := Lib.hid h.f; have HS := Lib.hid hs
  clear h hs
  go_enter Try.func24, Try.ntmps24
  go_wp2_with fail
  generalize hW : (((w.alloc (.cells #[.slice A p.fs.length c, .int .i64 p.mark] 42)).alloc (.cells #[.slice none 0 0, .int .i64 0] 26)).alloc (.cells #[.slice none 0 0, .int .i64 0] 26)) = W
  have hz : W.heap.size = w.heap.size + 3 := by rw [← hW]; simp
  have hbW : Below w.heap.size w W := by rw [← hW]; exact below_more (below_more (below_new _) _) _
  have gl : W.heap[w.heap.size]? = some (.cells #[.slice A p.fs.length c, .int .i64 p.mark] 42 (0, 0)) := by rw [← hW]; exact heap_old (heap_old (heap_new w _ rfl))
  have gr : W.heap[w.heap.size + 1]? = some (.cells #[.slice none 0 0, .int .i64 0] 26 (0, 0)) := by rw [← hW]; exact heap_old (heap_new _ _ (by simp))
  have go : W.heap[w.heap.size + 2]? = some (.cells #[.slice none 0 0, .int .i64 0] 26 (0, 0)) := by rw [← hW]; exact heap_new _ _ (by simp)
  have HZ := Lib.hid (Nat.le_of_eq hz.symm); have HBW := Lib.hid hbW; have GL := Lib.hid gl; have GR := Lib.hid gr; have GO := Lib.hid go
  clear hW hz hbW gl gr go
  refine (toRowSS_c A c p.fs _ fp HS.out (HF.out.below' HBW.out)).mono ?_
  rintro e w1 ⟨A1, c1, f1, rfl, hr1, hn1, hf1, hd1, hb1⟩
  obtain ⟨l0, l1, _, _, hzl⟩ := two_at ((hb1.block _ (heap_lt GL.out)).trans GL.out)
  obtain ⟨o0, o1, x0, x1, hzo⟩ := two_at ((hb1.block _ (heap_lt GO.out)).trans GO.out)
  obtain ⟨q0, q1, z0, z1, hzq⟩ := two_at ((hb1.block _ (heap_lt GR.out)).trans GR.out)
  have HX : Hid (RdF w1 (.slice A1 p.fs.length c1) p.fs f1 ∧ NF w1 f1 ∧ From (w.heap.size + 3) f1 ∧ f1.Nodup ∧ Below w.heap.size w w1) :=
    ⟨hr1, hn1, hf1.mono HZ.out, hd1, HBW.out.trans (hb1.mono HBW.out.size)⟩
  clear hr1 hn1 hf1 hd1 hb1
  go_wp2_with fail
  refine bodyPost_ret (v := plv p.mark (.slice A1 p.fs.length c1)) (by simp [results, Try.results24, go_sem, q0, q1, o0, o1]) rfl ?_
  obtain ⟨k1, k2, k3, k4, k5⟩ := HX.out
  have hbut : But [w.heap.size + 1, w.heap.size + 2] w1 ((((w1.setCell ⟨w.heap.size + 2, 0, none⟩ (.slice A1 p.fs.length c1)).setCell ⟨w.heap.size + 2, 1, none⟩ (.int .i64 p.mark)).setCell ⟨w.heap.size + 1, 0, none⟩ (.slice A1 p.fs.length c1)).setCell ⟨w.heap.size + 1, 1, none⟩ (.int .i64 p.mark)) :=
    ((((But.refl _ w1).setCell (by simp) _).setCell (by simp) _).setCell (by simp) _).setCell (by simp) _
  have a1 : ∀ x ∈ f1, x ∉ [w.heap.size + 1, w.heap.size + 2] := fun x hx he => by have := k3 x hx; simp at he; omega
  exact ⟨_, f1, rfl, ⟨k1.but hbut a1⟩, k2.but hbut k1.lt a1, ⟨k3.mono (by omega), k4⟩, k5.trans (hbut.below k5.size (fun x hx => by simp at hx; omega))⟩

set_option maxRecDepth 100000 in
set_option maxHeartbeats 1000000 in
theorem eqPlaces_c (p : Pl) (vf vf' : Value) (fp fp' : List Nat) (w : World) (h : PlAt w p vf fp) (h' : PlAt w p vf' fp') :
    Calls Try.prog 26 #[plv p.mark vf, plv p.mark vf'] w fun e w' => e = .returned (.bool true) ∧ Below w.heap.size w w' := by
  obtain ⟨A, c, rfl⟩ := h.form
  obtain ⟨A', c', rfl⟩ := h'.form
  have H1 := Lib.hid h; have H2 := Lib.hid h'; clear h h'
  go_enter Try.func26, Try.ntmps26
  go_wp2_with fail
  generalize hW : ((w.alloc (.cells #[.slice A p.fs.length c, .int .i64 p.mark] 26)).alloc (.cells #[.slice A' p.fs.length c', .int .i64 p.mark] 26)) = W
  have hbW : Below w.heap.size w W := by rw [← hW]; exact below_more (below_new _) _
  have g1 : W.heap[w.heap.size]? = some (.cells #[.slice A p.fs.length c, .int .i64 p.mark] 26 (0, 0)) := by rw [← hW]; exact heap_old (heap_new w _ rfl)
  have g2 : W.heap[w.heap.size + 1]? = some (.cells #[.slice A' p.fs.length c', .int .i64 p.mark] 26 (0, 0)) := by rw [← hW]; exact heap_new _ _ (by simp)
  have HBW := Lib.hid hbW; have G1 := Lib.hid g1; have G2 := Lib.hid g2
  clear hW hbW g1 g2
  refine (eqRowSS_c A A' c c' p.fs _ fp fp' (H1.out.f.below' HBW.out) (H2.out.f.below' HBW.out)).mono ?_
  rintro e w1 ⟨rfl, hb1⟩
  obtain ⟨l0, l1, _, _, hzl⟩ := two_at ((hb1.block _ (heap_lt G1.out)).trans G1.out)
  obtain ⟨m0, m1, _, _, hzm⟩ := two_at ((hb1.block _ (heap_lt G2.out)).trans G2.out)
  have HB1 := Lib.hid (HBW.out.trans (hb1.mono HBW.out.size))
  clear hb1
  go_wp2
  go_ret
  exact ⟨rfl, HB1.out⟩

set_option maxRecDepth 100000 in
set_option maxHeartbeats 1000000 in
theorem markPlaces_c (p : Pl) (vf : Value) (q : Int) (w : World) (fp : List Nat) (hq : 0 ≤ q) (hn : plsz p ≤ 1048576) (hq2 : q ≤ 1048576) (h : PlAt w p vf fp) (hnf : NF w fp) (hnd : fp.Nodup) :
    Calls Try.prog 29 #[plv p.mark vf, .int .i64 q] w fun e w' => e = .returned (.int .i64 (q + (cntPl p : Nat))) ∧ But fp w w' ∧ PlAt w' (markPl p q) vf fp := by
  obtain ⟨A, c, rfl⟩ := h.form
  have hlt := h.lt
  have hcall := markRowSS_c A c p.fs q (w.alloc (.cells #[.slice A p.fs.length c, .int .i64 p.mark] 26)) fp hq hn hq2 (h.f.alloc _) (hnf.keep fun b hb => Below.heap_alloc _ _ _ (hlt b hb)) hnd
  have HC := Lib.hid (cntPl_le p hn)
  clear h hlt hnf hnd hn
  unfold cntPl at *
  generalize cntFs p.fs = Z at *
  go_enter Try.func29, Try.ntmps29
  go_wp2_with fail
  refine hcall.mono ?_
  rintro e w1 ⟨rfl, hbut, hsz, hrd, hn1⟩
  have HX := Lib.hid (And.intro (((But.refl fp w).alloc _).trans hbut) hrd)
  clear hbut hsz hrd hn1
  go_wp2
  go_ret
  exact ⟨rfl, HX.out.1, ⟨HX.out.2⟩⟩

set_option maxRecDepth 100000 in
set_option maxHeartbeats 1000000 in
theorem heldPlaces_c (p : Pl) (mark' : Int) (vf : Value) (q : Int) (w : World) (fp : List Nat) (hq : 0 ≤ q) (hn : plsz p ≤ 1048576) (hq2 : q ≤ 1048576) (h : PlAt w (markPl p q) vf fp) :
    Calls Try.prog 93 #[plv mark' vf, .int .i64 q] w fun e w' => e = .returned (.int .i64 (q + (cntPl p : Nat))) ∧ Below w.heap.size w w' := by
  obtain ⟨A, c, rfl⟩ := h.form
  rw [markPl_len] at *
  have hcall := heldRowSS_c A c p.fs q (w.alloc (.cells #[.slice A p.fs.length c, .int .i64 mark'] 26)) fp hq hn hq2 (h.f.alloc _)
  clear h hn
  unfold cntPl at *
  generalize cntFs p.fs = Z at *
  have t1 : ¬ (q + (Z : Int) < 0) := by omega
  go_enter Try.func93, Try.ntmps93
  go_wp2_with fail
  refine hcall.mono ?_
  rintro e w1 ⟨rfl, hw⟩
  subst hw
  go_wp2
  go_ret
  exact ⟨rfl, below_new _⟩

set_option maxRecDepth 100000 in
set_option maxHeartbeats 1000000 in
theorem eqPlacesResult_c (code : Int) (p : Pl) (v u : Value) (w : World) (fp fq : List Nat) (ha : PlAt w p v fp) (hb : PlAt w p u fq) :
    Calls Try.prog 35 #[plrv code p.mark v, plrv code p.mark u] w fun e w' => e = .returned (.bool true) ∧ Below w.heap.size w w' := by
  obtain ⟨A, c, rfl⟩ := ha.form
  obtain ⟨B, d, rfl⟩ := hb.form
  go_enter Try.func35, Try.ntmps35
  go_wp2_with fail
  refine (eqPlaces_c p _ _ fp fq _ ((ha.alloc _).alloc _) ((hb.alloc _).alloc _)).mono ?_
  rintro e w1 ⟨rfl, hb1⟩
  have HB := Lib.hid hb1; clear hb1
  go_wp2
  go_ret
  exact ⟨rfl, (((Below.refl _ _).alloc (Nat.le_refl _) _).alloc (by simp) _).trans (HB.out.mono (by simp; omega))⟩

set_option maxRecDepth 100000 in
set_option maxHeartbeats 1000000 in
theorem markPlacesResult_c (code : Int) (v : Value) (p : Pl) (q : Int) (w : World) (fp : List Nat) (hq : 0 ≤ q) (hn : plsz p ≤ 1048576) (hq2 : q ≤ 1048576) (ha : PlAt w p v fp) (hnf : NF w fp) (hnd : fp.Nodup) :
    Calls Try.prog 36 #[plrv code p.mark v, .int .i64 q] w fun e w' => e = .returned (.int .i64 (q + (cntPl p : Nat))) ∧ But fp w w' ∧ PlAt w' (markPl p q) v fp := by
  obtain ⟨A, c, rfl⟩ := ha.form
  have hlt := ha.lt
  have hcall := markPlaces_c p (.slice A p.fs.length c) q (w.alloc (.cells #[.int .i64 code, .slice A p.fs.length c, .int .i64 p.mark] 53)) fp hq hn hq2 (ha.alloc _) (hnf.keep fun b hb => Below.heap_alloc _ _ _ (hlt b hb)) hnd
  clear ha hlt hnf hnd hn
  generalize cntPl p = Z at *
  go_enter Try.func36, Try.ntmps36
  go_wp2_with fail
  refine hcall.mono ?_
  rintro e w1 ⟨rfl, hbut, hrd⟩
  have HX := Lib.hid (And.intro (((But.refl fp w).alloc _).trans hbut) hrd)
  clear hbut hrd
  go_wp2
  go_ret
  exact ⟨rfl, HX.out⟩

set_option maxRecDepth 100000 in
set_option maxHeartbeats 1000000 in
theorem heldPlacesResult_c (code : Int) (v : Value) (p : Pl) (q : Int) (w : World) (fp : List Nat) (hq : 0 ≤ q) (hn : plsz p ≤ 1048576) (hq2 : q ≤ 1048576) (ha : PlAt w (markPl p q) v fp) :
    Calls Try.prog 37 #[plrv code p.mark v, .int .i64 q] w fun e w' => e = .returned (.int .i64 (q + (cntPl p : Nat))) ∧ Below w.heap.size w w' := by
  obtain ⟨A, c, rfl⟩ := ha.form
  have hcall := heldPlaces_c p p.mark (.slice A (markPl p q).fs.length c) q (w.alloc (.cells #[.int .i64 code, .slice A (markPl p q).fs.length c, .int .i64 p.mark] 53)) fp hq hn hq2 (ha.alloc _)
  clear ha hn
  generalize (markPl p q).fs.length = n at *
  generalize cntPl p = Z at *
  have t1 : ¬ (q + (Z : Int) < 0) := by omega
  go_enter Try.func37, Try.ntmps37
  go_wp2_with fail
  refine hcall.mono ?_
  rintro e w1 ⟨rfl, hb1⟩
  have HB := Lib.hid ((below_new _).trans (hb1.mono (by simp))); clear hb1
  go_wp2
  go_ret
  exact ⟨rfl, HB.out⟩
end Go.Proofs.Ytoabohllphoioaa
