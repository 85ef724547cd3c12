/-
  Contracts of the model's draws of chapter 2.
-/
import Derived.Test.YtldimfmhbdhbnaaGreatG38
import Derived.Test.YtldimfmhbdhbnaaGreatG15
import Derived.Test.YtldimfmhbdhbnaaGreatG48
import Derived.Test.YtldimfmhbdhbnaaGreatG24
namespace Go.Proofs.YtldimfmhbdhbnaaGreat
open Go.RowKit

/-- Every field is a short number. -/
def Mild (r : R) : Prop := (-20000 ≤ r.1 ∧ r.1 ≤ 20000) ∧ (-20000 ≤ r.2.1 ∧ r.2.1 ≤ 20000) ∧ (-20000 ≤ r.2.2.1 ∧ r.2.2.1 ≤ 20000) ∧ (-20000 ≤ r.2.2.2 ∧ r.2.2.2 ≤ 20000)
theorem wf_mild {v : Int} (h : -20000 ≤ v ∧ v ≤ 20000) : (Lit.int .i64 v).wf = true := by
  have : IntKind.i64.min = -9223372036854775808 := rfl
  have : IntKind.i64.max = 9223372036854775807 := rfl
  simp [Lit.wf]
  omega
theorem Mild.wf {r : R} (h : Mild r) : WfR r := ⟨wf_mild h.1, wf_mild h.2.1, wf_mild h.2.2.1, wf_mild h.2.2.2⟩

theorem l1Min_c (a b : Int) (w : World) : Calls Tryz.prog 103 #[.int .i64 a, .int .i64 b] w fun e w' => e = .returned (.int .i64 (if a < b then a else b)) ∧ w = w' := by
  by_cases h : a < b
  all_goals
    go_enter Tryz.func103, Tryz.ntmps103
    go_wp2
    go_ret
    simp [h]

theorem l1Chance_c (w : World) (s : Nat) (zs : List Int) (a : Nat) (n : Int) (h : Src w s zs a) (ha : a < 1000000) (hn : 1 ≤ n) (hn2 : n ≤ 1000000) :
    Calls Tryz.prog 30 #[.pointer (some ⟨s, 0, none⟩), .int .i64 n] w fun e w' => ∃ b, e = .returned (.bool b) ∧ Drawn w s zs a 1 w' ∧ w'.heap.size = w.heap.size := by
  go_enter Tryz.func30, Tryz.ntmps30
  go_wp2_with fail
  refine (l1Next_c w s zs a _ h hn hn2).mono ?_
  rintro e w1 ⟨v, m, rfl, hv0, hv1, hw1⟩
  have hd := Drawn.of_next h ha hw1
  have hsz := (h.next ha hw1).2.2
  clear hw1
  have HSZ := Lib.hid hsz; clear hsz
  go_wp2
  go_ret
  exact ⟨_, rfl, hd, HSZ.out⟩

/-- A block that was laid since holds other cells now. -/
theorem Drawn.four {w w1 : World} {s : Nat} {zs : List Int} {a d g : Nat} (h : Drawn w s zs a d w1) (hg : w.heap.size ≤ g ∧ s < w.heap.size) (u v x y : Value) :
    Drawn w s zs a d ((((w1.setCell ⟨g, 0, none⟩ u).setCell ⟨g, 1, none⟩ v).setCell ⟨g, 2, none⟩ x).setCell ⟨g, 3, none⟩ y) := by
  have hb : But [g] w1 ((((w1.setCell ⟨g, 0, none⟩ u).setCell ⟨g, 1, none⟩ v).setCell ⟨g, 2, none⟩ x).setCell ⟨g, 3, none⟩ y) :=
    ((((But.refl [g] w1).setCell (p := ⟨g, 0, none⟩) (by simp) u).setCell (p := ⟨g, 1, none⟩) (by simp) v).setCell (p := ⟨g, 2, none⟩) (by simp) x).setCell (p := ⟨g, 3, none⟩) (by simp) y
  refine ⟨h.src.but hb (fun b hm => by simp at hm; omega), ⟨hb.os.trans h.but.os, hb.tape.trans h.but.tape, hb.output.trans h.but.output, Nat.le_trans h.but.size hb.size, fun k hk hn => ?_⟩⟩
  rw [hb.block k (Nat.lt_of_lt_of_le hk h.but.size) (by simp; omega)]
  exact h.but.block k hk hn

/-- What a drawn row is. -/
def DRowPost (w : World) (s : Nat) (zs : List Int) (a : Nat) (e : Ending) (w' : World) : Prop :=
  ∃ r, e = .returned (rv r) ∧ Fit r ∧ Mild r ∧ (0 ≤ r.2.2.1 ∧ r.2.2.1 ≤ 9999) ∧ Drawn w s zs a 4 w'

set_option maxRecDepth 100000 in
set_option maxHeartbeats 2000000 in
theorem l2DrawRow_c (w : World) (s : Nat) (zs : List Int) (a : Nat) (h : Src w s zs a) (ha : a < 999000) :
    Calls Tryz.prog 76 #[.pointer (some ⟨s, 0, none⟩)] w (DRowPost w s zs a) := by
  have hlt := h.lt
  have hd0 := ((Drawn.start h).alloc (.cells #[.int .i64 0, .int .i64 0, .int .i64 0, .int .i64 0] 40)).alloc (.cells (cellsOf .i64 [0, 1, 5, 40, 9999]).toArray 2)
  have hg0 : ((w.alloc (.cells #[.int .i64 0, .int .i64 0, .int .i64 0, .int .i64 0] 40)).alloc (.cells (cellsOf .i64 [0, 1, 5, 40, 9999]).toArray 2)).heap[w.heap.size]? = some (.cells #[.int .i64 0, .int .i64 0, .int .i64 0, .int .i64 0] 40 (0, 0)) :=
    ((below_new (w := w.alloc (.cells #[.int .i64 0, .int .i64 0, .int .i64 0, .int .i64 0] 40)) _).block w.heap.size (by simp)).trans (heap_new w _ rfl)
  obtain ⟨fq, hr, hn, hf⟩ := Rd.fresh (w := w.alloc (.cells #[.int .i64 0, .int .i64 0, .int .i64 0, .int .i64 0] 40)) (w' := (w.alloc (.cells #[.int .i64 0, .int .i64 0, .int .i64 0, .int .i64 0] 40)).alloc (.cells (cellsOf .i64 [0, 1, 5, 40, 9999]).toArray 2)) (n := 5) (size := 1) (xs := cellsOf .i64 [0, 1, 5, 40, 9999]) (e := 2) (by unfold maxLen; omega) rfl (heap_new _ _ rfl) (Nat.le_refl _)
  have hsz1 : (w.alloc (.cells #[.int .i64 0, .int .i64 0, .int .i64 0, .int .i64 0] 40)).heap.size = w.heap.size + 1 := by simp
  rw [hsz1] at hr
  clear hsz1
  have hfs : s ∉ fq := fun hm => by have := hf _ hm; simp at this; omega
  have HR := Lib.hid hr; have HF := Lib.hid hfs; have HD := Lib.hid hd0; have HG := Lib.hid hg0; clear hr hf hn hd0 hfs hg0
  go_enter Tryz.func76, Tryz.ntmps76
  go_wp2_with fail
  refine (l1Pick_c _ s zs (a + 0) _ 5 [0, 1, 5, 40, 9999] fq HD.out.src (by omega) (by simp) (by simp) HR.out HF.out).mono ?_
  rintro e w1 ⟨q, rfl, hq, hd1, _⟩
  have hq' : 0 ≤ q ∧ q ≤ 9999 := by simp at hq; omega
  clear hq
  replace HG := Lib.hid (hd1.but.heap HG.out (by simp; omega))
  replace HD := Lib.hid (HD.out.trans hd1)
  clear HR HF hd1
  go_wp2_with fail
  refine (l1Next_c _ s zs _ 4 HD.out.src (by omega) (by omega)).mono ?_
  rintro e w2 ⟨v1, m1, rfl, h10, h11, hw⟩
  have hd1 := Drawn.of_next HD.out.src (by omega) hw
  replace HG := Lib.hid (hd1.but.heap HG.out (by simp; omega))
  replace HD := Lib.hid (HD.out.trans hd1)
  clear hw hd1
  go_wp2_with fail
  refine (l1Next_c _ s zs _ 3 HD.out.src (by omega) (by omega)).mono ?_
  rintro e w3 ⟨v2, m2, rfl, h20, h21, hw⟩
  have hd1 := Drawn.of_next HD.out.src (by omega) hw
  replace HG := Lib.hid (hd1.but.heap HG.out (by simp; omega))
  replace HD := Lib.hid (HD.out.trans hd1)
  clear hw hd1
  go_wp2_with fail
  refine (l1Next_c _ s zs _ 4 HD.out.src (by omega) (by omega)).mono ?_
  rintro e w4 ⟨v3, m3, rfl, h30, h31, hw⟩
  have hd1 := Drawn.of_next HD.out.src (by omega) hw
  replace HG := Lib.hid (hd1.but.heap HG.out (by simp; omega))
  replace HD := Lib.hid (HD.out.trans hd1)
  clear hw hd1
  go_wp2_with fail
  refine (l1Min_c _ _ _).mono ?_
  rintro e w5 ⟨rfl, rfl⟩
  have hv4 : 0 ≤ (if q < v3 then q else v3) ∧ (if q < v3 then q else v3) ≤ 3 := by split <;> omega
  generalize (if q < v3 then q else v3) = v4 at *
  obtain ⟨c0, c1, c2, c3, f0, f1, f2, f3, hz⟩ := four_at HG.out
  have hB := Lib.hid (HD.out.but)
  go_wp2_with fail
  refine bodyPost_ret (v := rv (v1, 1 + v2, q, v4)) (by simp [results, Tryz.results76, go_sem, c0, c1, c2, c3, hz]) rfl ⟨_, rfl, ?_, ?_, hq', ?_⟩
  · unfold Fit; simp only; omega
  · unfold Mild; simp only; omega
  · refine Drawn.four ?_ (by omega) _ _ _ _
    exact HD.out
end Go.Proofs.YtldimfmhbdhbnaaGreat

/-
  Contracts of the model's draws of chapter 2: a row that may be wrong; lists of rows.
-/
namespace Go.Proofs.YtldimfmhbdhbnaaGreat
open Go.RowKit

/-- What a drawn row is that may be wrong. -/
def BRowPost (w : World) (s : Nat) (zs : List Int) (a : Nat) (e : Ending) (w' : World) : Prop :=
  ∃ r d, e = .returned (rv r) ∧ Mild r ∧ d ≤ 6 ∧ Drawn w s zs a d w'

theorem Drawn.set {w w1 : World} {s : Nat} {zs : List Int} {a d g : Nat} (h : Drawn w s zs a d w1) (hg : w.heap.size ≤ g ∧ s < w.heap.size) (i : Nat) (u : Value) : Drawn w s zs a d (w1.setCell ⟨g, i, none⟩ u) := by
  have hb : But [g] w1 (w1.setCell ⟨g, i, none⟩ u) := (But.refl [g] w1).setCell (p := ⟨g, i, none⟩) (by simp) u
  refine ⟨h.src.but hb (fun b hm => by simp at hm; omega), ⟨hb.os.trans h.but.os, hb.tape.trans h.but.tape, hb.output.trans h.but.output, Nat.le_trans h.but.size hb.size, fun k hk hn => ?_⟩⟩
  rw [hb.block k (Nat.lt_of_lt_of_le hk h.but.size) (by simp; omega)]
  exact h.but.block k hk hn

set_option maxRecDepth 100000 in
set_option maxHeartbeats 4000000 in
theorem l2BentRow_c (w : World) (s : Nat) (zs : List Int) (a : Nat) (h : Src w s zs a) (ha : a < 998000) :
    Calls Tryz.prog 36 #[.pointer (some ⟨s, 0, none⟩)] w (BRowPost w s zs a) := by
  have hlt := h.lt
  have HD := Lib.hid ((Drawn.start h).alloc (.cells #[.int .i64 0, .int .i64 0, .int .i64 0, .int .i64 0] 40))
  have G0 := Lib.hid (heap_new w (.cells #[.int .i64 0, .int .i64 0, .int .i64 0, .int .i64 0] 40) rfl)
  go_enter Tryz.func36, Tryz.ntmps36
  go_wp2_with fail
  refine (l2DrawRow_c _ s zs (a + 0) HD.out.src (by omega)).mono ?_
  rintro e w1 ⟨r, rfl, _, hm, hh, hd1⟩
  obtain ⟨hh0, hh1⟩ := hh
  have HM := Lib.hid hm; clear hm
  replace G0 := Lib.hid (hd1.but.heap G0.out (by simp; omega))
  replace HD := Lib.hid ((HD.out.trans hd1).alloc (.cells #[.int .i64 r.1, .int .i64 r.2.1, .int .i64 r.2.2.1, .int .i64 r.2.2.2] 40))
  have sz1 := hd1.but.size
  simp only [World.size_alloc] at sz1
  replace G0 := Lib.hid (((below_new (.cells #[.int .i64 r.1, .int .i64 r.2.1, .int .i64 r.2.2.1, .int .i64 r.2.2.2] 40)).block _ (heap_lt G0.out)).trans G0.out)
  have GR := Lib.hid (heap_new w1 (.cells #[.int .i64 r.1, .int .i64 r.2.1, .int .i64 r.2.2.1, .int .i64 r.2.2.2] 40) rfl)
  clear hd1
  go_wp2_with fail
  refine (l1Next_c _ s zs _ 10 HD.out.src (by omega) (by omega)).mono ?_
  rintro e w2 ⟨v, m1, rfl, hv0, hv1, hw⟩
  have hd1 := Drawn.of_next HD.out.src (by omega) hw
  replace GR := Lib.hid (hd1.but.heap GR.out (by simp; omega))
  replace G0 := Lib.hid (hd1.but.heap G0.out (by simp; omega))
  replace HD := Lib.hid (HD.out.trans hd1)
  have sz2 := hd1.but.size
  simp only [World.size_alloc] at sz2
  clear hw hd1
  have hs2 := HD.out.src.lt
  by_cases e0 : v = 0
  · subst e0
    have hsrc := HD.out.alloc (.cells (cellsOf .i64 [4, -1]).toArray 2)
    obtain ⟨fq, hr, hn, hf⟩ := Rd.fresh (w := w2) (w' := w2.alloc (.cells (cellsOf .i64 [4, -1]).toArray 2)) (n := 2) (size := 1) (xs := cellsOf .i64 [4, -1]) (e := 2) (by unfold maxLen; omega) rfl (heap_new w2 _ rfl) (Nat.le_refl _)
    have hfs : s ∉ fq := fun hm => by have := hf _ hm; omega
    replace GR := Lib.hid (((below_new (.cells (cellsOf .i64 [4, -1]).toArray 2)).block _ (heap_lt GR.out)).trans GR.out)
    replace G0 := Lib.hid (((below_new (.cells (cellsOf .i64 [4, -1]).toArray 2)).block _ (heap_lt G0.out)).trans G0.out)
    have HS := Lib.hid hsrc; have HR := Lib.hid hr; have HF := Lib.hid hfs; clear hsrc hr hn hf hfs
    go_wp2_with fail
    refine (l1Pick_c _ s zs _ _ 2 [4, -1] fq HS.out.src (by omega) (by simp) (by simp) HR.out HF.out).mono ?_
    rintro e w3 ⟨q, rfl, hq, hd1, _⟩
    have hq' : -1 ≤ q ∧ q ≤ 10000 := by simp at hq; omega
    clear hq
    have sz3 := hd1.but.size
    simp only [World.size_alloc] at sz3
    replace GR := Lib.hid (hd1.but.heap GR.out (by simp; omega))
    replace G0 := Lib.hid (hd1.but.heap G0.out (by simp; omega))
    replace HD := Lib.hid (HS.out.trans hd1)
    clear hd1 HS HR HF
    obtain ⟨c0, c1, c2, c3, f0, f1, f2, f3, hz⟩ := four_at GR.out
    obtain ⟨y0, y1, y2, y3, z0, z1, z2, z3, zz⟩ := four_at G0.out
    have hne : (w1.heap.size == w.heap.size) = false := by simp; omega
    have hne2 : (w.heap.size == w1.heap.size) = false := by simp; omega
    have hne3 : w1.heap.size ≠ w.heap.size := by omega
    have hne4 : w.heap.size ≠ w1.heap.size := by omega
    go_wp2_with fail
    refine bodyPost_ret (v := rv (q, r.2.1, r.2.2.1, r.2.2.2)) (by simp [results, Tryz.results36, go_sem, c0, c1, c2, c3, y0, y1, y2, y3, hz, zz, hne, hne2, hne3, hne4]) rfl ⟨_, 6, rfl, ?_, ?_, ?rel0⟩
    case rel0 =>
      repeat (refine Drawn.set ?_ (by omega) _ _)
      exact HD.out
    · have := HM.out; unfold Mild at this ⊢; simp only at this ⊢; omega
    · omega
  by_cases e1 : v = 1
  · subst e1
    have hsrc := HD.out.alloc (.cells (cellsOf .i64 [0, 20, 21]).toArray 2)
    obtain ⟨fq, hr, hn, hf⟩ := Rd.fresh (w := w2) (w' := w2.alloc (.cells (cellsOf .i64 [0, 20, 21]).toArray 2)) (n := 3) (size := 1) (xs := cellsOf .i64 [0, 20, 21]) (e := 2) (by unfold maxLen; omega) rfl (heap_new w2 _ rfl) (Nat.le_refl _)
    have hfs : s ∉ fq := fun hm => by have := hf _ hm; omega
    replace GR := Lib.hid (((below_new (.cells (cellsOf .i64 [0, 20, 21]).toArray 2)).block _ (heap_lt GR.out)).trans GR.out)
    replace G0 := Lib.hid (((below_new (.cells (cellsOf .i64 [0, 20, 21]).toArray 2)).block _ (heap_lt G0.out)).trans G0.out)
    have HS := Lib.hid hsrc; have HR := Lib.hid hr; have HF := Lib.hid hfs; clear hsrc hr hn hf hfs
    go_wp2_with fail
    refine (l1Pick_c _ s zs _ _ 3 [0, 20, 21] fq HS.out.src (by omega) (by simp) (by simp) HR.out HF.out).mono ?_
    rintro e w3 ⟨q, rfl, hq, hd1, _⟩
    have hq' : -1 ≤ q ∧ q ≤ 10000 := by simp at hq; omega
    clear hq
    have sz3 := hd1.but.size
    simp only [World.size_alloc] at sz3
    replace GR := Lib.hid (hd1.but.heap GR.out (by simp; omega))
    replace G0 := Lib.hid (hd1.but.heap G0.out (by simp; omega))
    replace HD := Lib.hid (HS.out.trans hd1)
    clear hd1 HS HR HF
    obtain ⟨c0, c1, c2, c3, f0, f1, f2, f3, hz⟩ := four_at GR.out
    obtain ⟨y0, y1, y2, y3, z0, z1, z2, z3, zz⟩ := four_at G0.out
    have hne : (w1.heap.size == w.heap.size) = false := by simp; omega
    have hne2 : (w.heap.size == w1.heap.size) = false := by simp; omega
    have hne3 : w1.heap.size ≠ w.heap.size := by omega
    have hne4 : w.heap.size ≠ w1.heap.size := by omega
    go_wp2_with fail
    refine bodyPost_ret (v := rv (r.1, q, r.2.2.1, r.2.2.2)) (by simp [results, Tryz.results36, go_sem, c0, c1, c2, c3, y0, y1, y2, y3, hz, zz, hne, hne2, hne3, hne4]) rfl ⟨_, 6, rfl, ?_, ?_, ?rel1⟩
    case rel1 =>
      repeat (refine Drawn.set ?_ (by omega) _ _)
      exact HD.out
    · have := HM.out; unfold Mild at this ⊢; simp only at this ⊢; omega
    · omega
  by_cases e2 : v = 2
  · subst e2
    have hsrc := HD.out.alloc (.cells (cellsOf .i64 [r.2.2.1 + 1, -1]).toArray 2)
    obtain ⟨fq, hr, hn, hf⟩ := Rd.fresh (w := w2) (w' := w2.alloc (.cells (cellsOf .i64 [r.2.2.1 + 1, -1]).toArray 2)) (n := 2) (size := 1) (xs := cellsOf .i64 [r.2.2.1 + 1, -1]) (e := 2) (by unfold maxLen; omega) rfl (heap_new w2 _ rfl) (Nat.le_refl _)
    have hfs : s ∉ fq := fun hm => by have := hf _ hm; omega
    have GR0 := GR
    replace GR := Lib.hid (((below_new (.cells (cellsOf .i64 [r.2.2.1 + 1, -1]).toArray 2)).block _ (heap_lt GR.out)).trans GR.out)
    replace G0 := Lib.hid (((below_new (.cells (cellsOf .i64 [r.2.2.1 + 1, -1]).toArray 2)).block _ (heap_lt G0.out)).trans G0.out)
    have HS := Lib.hid hsrc; have HR := Lib.hid hr; have HF := Lib.hid hfs; clear hsrc hr hn hf hfs
    obtain ⟨c0, c1, c2, c3, f0, f1, f2, f3, hz⟩ := four_at (w := w2) GR0.out
    go_wp2_with fail
    clear c0 c1 c2 c3 f0 f1 f2 f3 hz
    refine (l1Pick_c _ s zs _ _ 2 [r.2.2.1 + 1, -1] fq HS.out.src (by omega) (by simp) (by simp) HR.out HF.out).mono ?_
    rintro e w3 ⟨q, rfl, hq, hd1, _⟩
    have hq' : -1 ≤ q ∧ q ≤ 10000 := by simp at hq; omega
    clear hq
    have sz3 := hd1.but.size
    simp only [World.size_alloc] at sz3
    replace GR := Lib.hid (hd1.but.heap GR.out (by simp; omega))
    replace G0 := Lib.hid (hd1.but.heap G0.out (by simp; omega))
    replace HD := Lib.hid (HS.out.trans hd1)
    clear hd1 HS HR HF
    obtain ⟨c0, c1, c2, c3, f0, f1, f2, f3, hz⟩ := four_at GR.out
    obtain ⟨y0, y1, y2, y3, z0, z1, z2, z3, zz⟩ := four_at G0.out
    have hne : (w1.heap.size == w.heap.size) = false := by simp; omega
    have hne2 : (w.heap.size == w1.heap.size) = false := by simp; omega
    have hne3 : w1.heap.size ≠ w.heap.size := by omega
    have hne4 : w.heap.size ≠ w1.heap.size := by omega
    go_wp2_with fail
    refine bodyPost_ret (v := rv (r.1, r.2.1, r.2.2.1, q)) (by simp [results, Tryz.results36, go_sem, c0, c1, c2, c3, y0, y1, y2, y3, hz, zz, hne, hne2, hne3, hne4]) rfl ⟨_, 6, rfl, ?_, ?_, ?rel2⟩
    case rel2 =>
      repeat (refine Drawn.set ?_ (by omega) _ _)
      exact HD.out
    · have := HM.out; unfold Mild at this ⊢; simp only at this ⊢; omega
    · omega
  have b0 : (v == 0) = false := by simp [e0]
  have b1 : (v == 1) = false := by simp [e1]
  have b2 : (v == 2) = false := by simp [e2]
  clear e0 e1 e2
  obtain ⟨c0, c1, c2, c3, f0, f1, f2, f3, hz⟩ := four_at GR.out
  obtain ⟨y0, y1, y2, y3, z0, z1, z2, z3, zz⟩ := four_at G0.out
  go_wp2_with fail
  refine bodyPost_ret (v := rv r) (by simp [results, Tryz.results36, go_sem, c0, c1, c2, c3, y0, y1, y2, y3, hz, zz]) rfl ⟨_, 5, rfl, HM.out, ?_, ?rel3⟩
  case rel3 =>
    repeat (refine Drawn.set ?_ (by omega) _ _)
    exact HD.out
  · omega
end Go.Proofs.YtldimfmhbdhbnaaGreat

/-
  Contracts of the model's draws of chapter 2: lists of rows.
-/
namespace Go.Proofs.YtldimfmhbdhbnaaGreat
open Go.RowKit

theorem setGo_length (r : R) (rs : List R) : (setGo r false rs).length ≤ rs.length + 1 ∧ (setGo r true rs).length ≤ rs.length := by
  induction rs with
  | nil => simp [setGo]
  | cons x t ih =>
    unfold setGo
    by_cases h : keyR r ≤ keyR x <;> by_cases hk : keyR x = keyR r <;> simp [h, hk] <;> omega
theorem setGo_mem {r x : R} {rs : List R} {done : Bool} (h : x ∈ setGo r done rs) : x = r ∨ x ∈ rs := by
  induction rs generalizing done with
  | nil => unfold setGo at h; split at h <;> simp at h; exact .inl h
  | cons y t ih =>
    unfold setGo at h
    simp only [List.mem_append] at h
    rcases h with (h | h) | h
    · split at h <;> simp at h; exact .inl h
    · split at h <;> simp at h; simp [h]
    · rcases ih h with h | h
      · exact .inl h
      · simp [h]
theorem setR_length (rs : List R) (r : R) : (setR rs r).length ≤ rs.length + 1 := by
  unfold setR
  have := setGo_length r rs
  cases emptyB r <;> omega
theorem setR_mem {r x : R} {rs : List R} (h : x ∈ setR rs r) : x = r ∨ x ∈ rs := setGo_mem h

/-- What a drawn list of rows is: rows of its own, the source on by some places. -/
def DListPost (w : World) (s : Nat) (zs : List Int) (a : Nat) (most far : Nat) (e : Ending) (w' : World) : Prop :=
  ∃ v fv rs d n B, e = .returned v ∧ Rd w' 4 v (rcs rs) fv ∧ NF w' fv ∧ From w.heap.size fv ∧ w.heap.size ≤ B ∧ w'.ownsRow B 40 4 v n (rcs rs) ∧ (∀ r ∈ rs, Mild r) ∧ rs.length ≤ most ∧ d ≤ far ∧ Drawn w s zs a d w'

theorem Drawn.keeps4 {w w1 : World} {s : Nat} {zs : List Int} {a d base k : Nat} {e : TypeId} {v : Value} {xs : List Value} (h : Drawn w s zs a d w1) (ho : w.ownsRow base e 4 v k xs) (hs : s < base) : w1.ownsRow base e 4 v k xs := by
  refine ⟨ho.1, ?_⟩
  rcases ho.2 with h0 | ⟨g, cap, cur, h1, h2, h3, h4⟩
  · exact .inl h0
  · exact .inr ⟨g, cap, cur, h1, h2, h.but.heap h3 (by simp; omega), h4⟩

set_option maxRecDepth 100000 in
set_option maxHeartbeats 4000000 in
theorem l2Draw_c (w : World) (s : Nat) (zs : List Int) (a : Nat) (h : Src w s zs a) (ha : a < 990000) :
    Calls Tryz.prog 73 #[.pointer (some ⟨s, 0, none⟩)] w (DListPost w s zs a 7 29) := by
  have hlt := h.lt
  have HD := Lib.hid ((Drawn.start h).alloc (.cells #[] 40))
  have HO := Lib.hid (own_emptyR (w := w) (t := 40) (base := w.heap.size) (Nat.le_refl _))
  go_enter Tryz.func73, Tryz.ntmps73
  go_wp2_with fail
  refine (l1Next_c _ s zs _ 8 HD.out.src (by omega) (by omega)).mono ?_
  rintro e w1 ⟨v, m1, rfl, hv0, hv1, hw⟩
  have hd1 := Drawn.of_next HD.out.src (by omega) hw
  have ho1 := hd1.keeps4 HO.out hlt
  replace HD := Lib.hid (HD.out.trans hd1)
  replace HO := Lib.hid ho1
  clear hw hd1 ho1
  obtain ⟨k0, rfl⟩ : ∃ k0 : Nat, v = k0 := ⟨v.toNat, by omega⟩
  go_wp2_with fail
  go_loopw [3, 4] (fun v i wr => ∃ (k d n B : Nat) (acc : List R), k ≤ 7 ∧ i = .int .i64 k ∧ w.heap.size ≤ B ∧ acc.length ≤ 7 - k ∧ d ≤ 1 + 4 * (7 - k) ∧ Hid (wr.ownsRow B 40 4 v n (rcs acc)) ∧ Hid (∀ r ∈ acc, Fit r ∧ Mild r) ∧ Hid (Drawn w s zs a d wr)) (fun _ i _ => (intOf i).toNat)
  case atStart => exact ⟨k0, 1, 0, w.heap.size, [], by omega, rfl, Nat.le_refl _, by simp, by omega, HO, Lib.hid (by simp), HD⟩
  case round =>
    obtain ⟨k, d, n, B, acc, hk, rfl, hB, hl, hd, HOW, HM, HDR⟩ := hrel
    by_cases hlt : 0 < k
    · have hs1 := HDR.out.but.size
      go_wp2_with fail
      refine (l2DrawRow_c _ s zs _ HDR.out.src (by omega)).mono ?_
      rintro e w2 ⟨r, rfl, hfr, hmr, _, hd2⟩
      have ho2 := hd2.keeps4 HOW.out (by omega)
      obtain ⟨fv, hrv, hnv, hfv⟩ := Rd.of_own ho2
      obtain ⟨Av, cv, hv⟩ := hrv.rows_form
      subst hv
      have HD2 := Lib.hid (HDR.out.trans hd2)
      have HR2 := Lib.hid hrv
      have hs2 := hd2.but.size
      clear hd2 ho2 hrv hnv hfv
      go_wp2_with fail
      refine (l2Set_c Av cv acc r _ fv (by omega) (fits_iff.2 fun x hx => (HM.out x hx).1) hfr HR2.out).mono ?_
      rintro e w3 ⟨v3, f3, rfl, hr3, hn3, hf3, hb3, n3, B3, hB3, ho3⟩
      have HO3 := Lib.hid ho3
      have HD3 := Lib.hid (HD2.out.below hb3)
      have hl3 := setR_length acc r
      have hM3 : ∀ x ∈ setR acc r, Fit x ∧ Mild x := fun x hx => by
        rcases setR_mem hx with rfl | hx
        · exact ⟨hfr, hmr⟩
        · exact HM.out x hx
      have HM3 := Lib.hid hM3
      clear hr3 hn3 hf3 hb3 ho3 hM3
      go_wp2_with fail
      exact ⟨⟨k - 1, d + 4, n3, B3, setR acc r, by omega, by go_num, by omega, by omega, by omega, HO3, HM3, HD3⟩, by simp [intOf]; omega⟩
    · obtain rfl : k = 0 := by omega
      obtain ⟨fv, hrv, hnv, hfv⟩ := Rd.of_own HOW.out
      have HR2 := Lib.hid hrv
      clear hrv
      go_wp2_with fail
      go_ret
      exact ⟨_, fv, acc, d, n, B, rfl, HR2.out, hnv, hfv.mono hB, hB, HOW.out, fun x hx => (HM.out x hx).2, by omega, by omega, HDR.out⟩
end Go.Proofs.YtldimfmhbdhbnaaGreat

/-
  Contracts of the model's draws of chapter 2: lists of rows that may be wrong.
-/
namespace Go.Proofs.YtldimfmhbdhbnaaGreat
open Go.RowKit

theorem own_lift {w : World} {B lo size n : Nat} {e : TypeId} {v : Value} {xs : List Value} (h : w.ownsRow B e size v n xs) (hlo : lo ≤ B) (hs : lo ≤ w.heap.size) : ∃ B', lo ≤ B' ∧ B' ≤ w.heap.size ∧ w.ownsRow B' e size v n xs := by
  rcases h.2 with h0 | ⟨g, cap, cur, h1, h2, h3, h4⟩
  · exact ⟨lo, Nat.le_refl _, hs, h.1, .inl h0⟩
  · exact ⟨B, hlo, by have := heap_lt h3; omega, h⟩
theorem made13 : madeCells (rv (0, 0, 0, 0)).cells 52 = (rcs (List.replicate 13 (0, 0, 0, 0))).toArray := by
  have := partR_zero (List.replicate 13 (0, 0, 0, 0))
  simpa [partR] using this.symm

set_option maxRecDepth 100000 in
set_option maxHeartbeats 8000000 in
theorem l2Bent_c (w : World) (s : Nat) (zs : List Int) (a : Nat) (h : Src w s zs a) (ha : a < 980000) :
    Calls Tryz.prog 33 #[.pointer (some ⟨s, 0, none⟩)] w (DListPost w s zs a 13 36) := by
  have hlt := h.lt
  obtain ⟨i0, hi, hz, hsz, hby⟩ := infoRow
  go_enter Tryz.func33, Tryz.ntmps33
  go_wp2_with fail
  refine (l2Draw_c _ s zs a h (by omega)).mono ?_
  rintro e w1 ⟨v, fv, rs, d, n, B0, rfl, hr, hn, hf, hB0, ho0, hm, hl, hd, hdr⟩
  obtain ⟨B, hB, hBs, ho⟩ := own_lift ho0 hB0 hdr.but.size
  clear ho0 hB0
  obtain rfl : n = rs.length := by have := ho.1; rw [rcs_length] at this; omega
  have sz1 := hdr.but.size
  have HD := Lib.hid hdr; have HM := Lib.hid hm; have HO := Lib.hid ho
  clear hdr hm ho hr hn hf
  go_wp2_with fail
  refine (l1Next_c _ s zs _ 14 HD.out.src (by omega) (by omega)).mono ?_
  rintro e w2 ⟨x, m1, rfl, hx0, hx1, hw⟩
  have hd1 := Drawn.of_next HD.out.src (by omega) hw
  have ho1 := hd1.keeps4 HO.out (by omega)
  have sz2 := hd1.but.size
  replace HD := Lib.hid (HD.out.trans hd1)
  replace HO := Lib.hid ho1
  clear hw hd1 ho1
  by_cases e0 : x = 0
  · subst e0
    go_wp2_with fail
    refine (l2BentRow_c _ s zs _ HD.out.src (by omega)).mono ?_
    rintro e w3 ⟨r, d3, rfl, hmr, hd3, hdr⟩
    have ho3 := hdr.keeps4 HO.out (by omega)
    have sz3 := hdr.but.size
    have HD3 := Lib.hid ((HD.out.trans hdr).alloc (.cells #[.int .i64 r.1, .int .i64 r.2.1, .int .i64 r.2.2.1, .int .i64 r.2.2.2] 40))
    have HOa := Lib.hid (World.ownsRow.alloc ho3 (.cells #[.int .i64 r.1, .int .i64 r.2.1, .int .i64 r.2.2.1, .int .i64 r.2.2.2] 40))
    have hrow : ∀ g, v.ownBlock = some g → w.heap.size ≤ g := fun g hg => Nat.le_trans hB (own_base' ho3 hg)
    have HRW := Lib.hid hrow
    have hB5 : B ≤ (w3.alloc (.cells #[.int .i64 r.1, .int .i64 r.2.1, .int .i64 r.2.2.1, .int .i64 r.2.2.2] 40)).heap.size := by
      simp only [World.size_alloc]
      omega
    clear hdr ho3 hrow
    go_wp2_with (at_builtin; refine wpList_append_own _ rfl _ _ 24 rfl B 40 i0 (rv (0, 0, 0, 0)) 4 32 Tryz.underlying24 hi hz hsz hby rfl (by decide) _ _ _ rfl HOa.out ⟨w3.heap.size, 0, none⟩ 1 1 (rc r) rfl rfl ?c1 ?c2 ?c3 ?c4 ?c5 ?_)
    case c1 => exact rc_new (w := w3) r
    case c2 => exact rc_one r
    case c3 => unfold maxLen; omega
    case c4 => omega
    case c5 => exact hB5
    intro v4 w4 hown4 hgrow4 _
    have hd4 := HD3.out.grown hgrow4 HRW.out hlt
    have ho4 : w4.ownsRow B 40 4 v4 (rs.length + 1) (rcs (rs ++ [r])) := by rw [rcs_append]; exact hown4
    obtain ⟨f4, hr4, hn4, hf4⟩ := Rd.of_own ho4
    have HD4 := Lib.hid hd4; have HO4 := Lib.hid ho4; have HR4 := Lib.hid hr4; have HN4 := Lib.hid hn4; have HF4 := Lib.hid hf4
    clear hown4 hgrow4 hd4 ho4 hr4 hn4 hf4
    go_wp2_with fail
    go_ret
    refine ⟨_, f4, rs ++ [r], d + 1 + d3, rs.length + 1, B, rfl, HR4.out, HN4.out, HF4.out.mono hB, hB, HO4.out, fun x hx => ?_, by simp; omega, by omega, HD4.out⟩
    rcases List.mem_append.1 hx with hx | hx
    · exact HM.out x hx
    · simp at hx; exact hx ▸ hmr
  by_cases e1 : x = 1
  · subst e1
    clear HO
    have hmk : (Instr.makeSlice 24 (.int .i64 13) (.int .i64 13)).run Tryz.prog w2 = .ok (.slice (some ⟨w2.heap.size, 0, none⟩) 13 13) (w2.alloc (.cells (madeCells (rv (0, 0, 0, 0)).cells 52) 40)) := makeRowS 13 (by omega) w2
    have ho4 : (w2.alloc (.cells (madeCells (rv (0, 0, 0, 0)).cells 52) 40)).ownsRow w2.heap.size 40 4 (.slice (some ⟨w2.heap.size, 0, none⟩) 13 13) 13 (rcs (List.replicate 13 (0, 0, 0, 0))) :=
      ⟨rfl, .inr ⟨w2.heap.size, 13, madeCells (rv (0, 0, 0, 0)).cells 52, rfl, Nat.le_refl _, heap_new w2 _ rfl, by omega, by unfold maxLen; omega, by rw [made13]; rfl, by rw [made13]; rfl⟩⟩
    obtain ⟨f4, hr4, hn4, hf4⟩ := Rd.of_own ho4
    have HD4 := Lib.hid (HD.out.alloc (.cells (madeCells (rv (0, 0, 0, 0)).cells 52) 40)); have HO4 := Lib.hid ho4; have HR4 := Lib.hid hr4; have HN4 := Lib.hid hn4; have HF4 := Lib.hid hf4
    clear ho4 hr4 hn4 hf4
    go_wp2_with fail
    go_ret
    refine ⟨_, f4, List.replicate 13 (0, 0, 0, 0), d + 1, 13, w2.heap.size, rfl, HR4.out, HN4.out, HF4.out.mono (by omega), by omega, HO4.out, fun x hx => ?_, by simp, by omega, HD4.out⟩
    obtain rfl := (List.mem_replicate.1 hx).2
    unfold Mild; simp
  by_cases e2 : x = 2
  · subst e2
    clear HO
    have HO := Lib.hid (show w2.ownsRow w2.heap.size 40 4 (.slice none 0 0) 0 (rcs []) from ⟨rfl, .inl ⟨rfl, rfl⟩⟩)
    go_wp2_with fail
    go_loopw [3, 4] (fun v i wr => ∃ (k : Nat) (acc : List R), k ≤ 12 ∧ i = .int .i64 ((k : Int) + 1) ∧ acc.length = k ∧ Hid (wr.ownsRow w2.heap.size 40 4 v k (rcs acc)) ∧ Hid (∀ r ∈ acc, Mild r) ∧ Hid (Drawn w s zs a (d + 1) wr) ∧ Hid (w2.heap.size ≤ wr.heap.size)) (fun _ i _ => 20 - (intOf i).toNat)
    case atStart => exact ⟨0, [], by omega, rfl, rfl, HO, Lib.hid (by simp), HD, Lib.hid (Nat.le_refl _)⟩
    case round =>
      obtain ⟨k, acc, hk, rfl, hlen, HOW, HMA, HDR, HLE⟩ := hrel
      by_cases hk2 : k < 12
      · have HD3 := Lib.hid (HDR.out.alloc (.cells #[.int .i64 1, .int .i64 ((k : Int) + 1), .int .i64 1, .int .i64 0] 40))
        have HOa := Lib.hid (World.ownsRow.alloc HOW.out (.cells #[.int .i64 1, .int .i64 ((k : Int) + 1), .int .i64 1, .int .i64 0] 40))
        have hrow : ∀ g, u3.ownBlock = some g → w.heap.size ≤ g := fun g hg => by have := own_base' HOW.out hg; omega
        have HRW := Lib.hid hrow
        have h2r : w2.heap.size ≤ (wr.alloc (.cells #[.int .i64 1, .int .i64 ((k : Int) + 1), .int .i64 1, .int .i64 0] 40)).heap.size := by simp only [World.size_alloc]; exact Nat.le_succ_of_le HLE.out
        clear hrow
        go_wp2_with (at_builtin; refine wpList_append_own _ rfl _ _ 24 rfl w2.heap.size 40 i0 (rv (0, 0, 0, 0)) 4 32 Tryz.underlying24 hi hz hsz hby rfl (by decide) _ _ _ rfl HOa.out ⟨wr.heap.size, 0, none⟩ 1 1 (rc (1, (k : Int) + 1, 1, 0)) rfl rfl ?k1 ?k2 ?k3 ?k4 ?k5 ?_)
        case k1 => exact rc_new (w := wr) (1, (k : Int) + 1, 1, 0)
        case k2 => exact rc_one _
        case k3 => unfold maxLen; omega
        case k4 => omega
        case k5 => exact h2r
        intro v4 w4 hown4 hgrow4 _
        have hd4 := HD3.out.grown hgrow4 HRW.out hlt
        have ho4 : w4.ownsRow w2.heap.size 40 4 v4 (k + 1) (rcs (acc ++ [(1, (k : Int) + 1, 1, 0)])) := by rw [rcs_append]; exact hown4
        have hle4 : w2.heap.size ≤ w4.heap.size := Nat.le_trans h2r hgrow4.size
        have hm4 : ∀ r ∈ acc ++ [(1, (k : Int) + 1, 1, 0)], Mild r := fun x hx => by
          rcases List.mem_append.1 hx with hx | hx
          · exact HMA.out x hx
          · simp at hx; rw [hx]; unfold Mild; simp only; omega
        have HD4 := Lib.hid hd4; have HO4 := Lib.hid ho4; have HM4 := Lib.hid hm4; have HLE4 := Lib.hid hle4
        clear hown4 hgrow4 hd4 ho4 hm4 hle4 h2r
        go_wp2_with fail
        exact ⟨⟨k + 1, acc ++ [(1, (k : Int) + 1, 1, 0)], by omega, by go_num, by simp; omega, HO4, HM4, HD4, HLE4⟩, by simp [intOf]; omega⟩
      · obtain ⟨f4, hr4, hn4, hf4⟩ := Rd.of_own HOW.out
        have HR4 := Lib.hid hr4; have HN4 := Lib.hid hn4; have HF4 := Lib.hid hf4
        clear hr4 hn4 hf4
        go_wp2_with fail
        go_ret
        exact ⟨_, f4, acc, d + 1, k, w2.heap.size, rfl, HR4.out, HN4.out, HF4.out.mono (by omega), by omega, HOW.out, HMA.out, by omega, by omega, HDR.out⟩
  have b0 : (x == 0) = false := by simp [e0]
  have b1 : (x == 1) = false := by simp [e1]
  have b2 : (x == 2) = false := by simp [e2]
  clear e0 e1 e2
  obtain ⟨f4, hr4, hn4, hf4⟩ := Rd.of_own HO.out
  have HR4 := Lib.hid hr4; have HN4 := Lib.hid hn4; have HF4 := Lib.hid hf4
  clear hr4 hn4 hf4
  go_wp2_with fail
  go_ret
  exact ⟨_, f4, rs, d + 1, rs.length, B, rfl, HR4.out, HN4.out, HF4.out.mono hB, hB, HO.out, HM.out, by omega, by omega, HD.out⟩
end Go.Proofs.YtldimfmhbdhbnaaGreat

/-
  Contracts of the model's draws of chapter 2: arguments for RowFault, KeyOf, PutRow, FindRow.
-/
namespace Go.Proofs.YtldimfmhbdhbnaaGreat
open Go.RowKit

theorem Drawn.fresh2 {w w1 w2 : World} {zs : List Int} {a d lo : Nat} (hb : Below lo w w1) (h : Drawn w1 lo zs a d w2) (hl : lo ≤ w1.heap.size) : Below lo w w2 :=
  hb.trans (h.but.below hl (by intro b hm; simp at hm; omega))

end Go.Proofs.YtldimfmhbdhbnaaGreat
