/-
  Contracts of the model's draws of chapter 2: a row that may be wrong; lists of rows.
-/
import Derived.Test.YtoabohllphoioaaDraw2
namespace Go.Proofs.Ytoabohllphoioaa
open Go.RowKit

/-- What a drawn row is that may be wrong. -/
def BRowPost (w : World) (s : Nat) (zs : List Int) (a : Nat) (e : Ending) (w' : World) : Prop :=
  ∃ r d, e = .returned (rv r) ∧ Mild r ∧ d ≤ 6 ∧ Drawn w s zs a d w'

theorem Drawn.set {w w1 : World} {s : Nat} {zs : List Int} {a d g : Nat} (h : Drawn w s zs a d w1) (hg : w.heap.size ≤ g ∧ s < w.heap.size) (i : Nat) (u : Value) : Drawn w s zs a d (w1.setCell ⟨g, i, none⟩ u) := by
  have hb : But [g] w1 (w1.setCell ⟨g, i, none⟩ u) := (But.refl [g] w1).setCell (p := ⟨g, i, none⟩) (by simp) u
  refine ⟨h.src.but hb (fun b hm => by simp at hm; omega), ⟨hb.os.trans h.but.os, hb.tape.trans h.but.tape, hb.output.trans h.but.output, Nat.le_trans h.but.size hb.size, fun k hk hn => ?_⟩⟩
  rw [hb.block k (Nat.lt_of_lt_of_le hk h.but.size) (by simp; omega)]
  exact h.but.block k hk hn

set_option maxRecDepth 100000 in
set_option maxHeartbeats 4000000 in
theorem l2BentRow_c (w : World) (s : Nat) (zs : List Int) (a : Nat) (h : Src w s zs a) (ha : a < 998000) :
    Calls Try.prog 124 #[.pointer (some ⟨s, 0, none⟩)] w (BRowPost w s zs a) := by
  have hlt := h.lt
  have HD := Lib.hid ((Drawn.start h).alloc (.cells #[.int .i64 0, .int .i64 0, .int .i64 0, .int .i64 0] 34))
  have G0 := Lib.hid (heap_new w (.cells #[.int .i64 0, .int .i64 0, .int .i64 0, .int .i64 0] 34) rfl)
  go_enter Try.func124, Try.ntmps124
  go_wp2_with fail
  refine (l2DrawRow_c _ s zs (a + 0) HD.out.src (by omega)).mono ?_
  rintro e w1 ⟨r, rfl, _, hm, hh, hd1⟩
  obtain ⟨hh0, hh1⟩ := hh
  have HM := Lib.hid hm; clear hm
  replace G0 := Lib.hid (hd1.but.heap G0.out (by simp; omega))
  replace HD := Lib.hid ((HD.out.trans hd1).alloc (.cells #[.int .i64 r.1, .int .i64 r.2.1, .int .i64 r.2.2.1, .int .i64 r.2.2.2] 34))
  have sz1 := hd1.but.size
  simp only [World.size_alloc] at sz1
  replace G0 := Lib.hid (((below_new (.cells #[.int .i64 r.1, .int .i64 r.2.1, .int .i64 r.2.2.1, .int .i64 r.2.2.2] 34)).block _ (heap_lt G0.out)).trans G0.out)
  have GR := Lib.hid (heap_new w1 (.cells #[.int .i64 r.1, .int .i64 r.2.1, .int .i64 r.2.2.1, .int .i64 r.2.2.2] 34) rfl)
  clear hd1
  go_wp2_with fail
  refine (l1Next_c _ s zs _ 10 HD.out.src (by omega) (by omega)).mono ?_
  rintro e w2 ⟨v, m1, rfl, hv0, hv1, hw⟩
  have hd1 := Drawn.of_next HD.out.src (by omega) hw
  replace GR := Lib.hid (hd1.but.heap GR.out (by simp; omega))
  replace G0 := Lib.hid (hd1.but.heap G0.out (by simp; omega))
  replace HD := Lib.hid (HD.out.trans hd1)
  have sz2 := hd1.but.size
  simp only [World.size_alloc] at sz2
  clear hw hd1
  have hs2 := HD.out.src.lt
  by_cases e0 : v = 0
  · subst e0
    have hsrc := HD.out.alloc (.cells (cellsOf .i64 [4, -1]).toArray 2)
    obtain ⟨fq, hr, hn, hf⟩ := Rd.fresh (w := w2) (w' := w2.alloc (.cells (cellsOf .i64 [4, -1]).toArray 2)) (n := 2) (size := 1) (xs := cellsOf .i64 [4, -1]) (e := 2) (by unfold maxLen; omega) rfl (heap_new w2 _ rfl) (Nat.le_refl _)
    have hfs : s ∉ fq := fun hm => by have := hf _ hm; omega
    replace GR := Lib.hid (((below_new (.cells (cellsOf .i64 [4, -1]).toArray 2)).block _ (heap_lt GR.out)).trans GR.out)
    replace G0 := Lib.hid (((below_new (.cells (cellsOf .i64 [4, -1]).toArray 2)).block _ (heap_lt G0.out)).trans G0.out)
    have HS := Lib.hid hsrc; have HR := Lib.hid hr; have HF := Lib.hid hfs; clear hsrc hr hn hf hfs
    go_wp2_with fail
    refine (l1Pick_c _ s zs _ _ 2 [4, -1] fq HS.out.src (by omega) (by simp) (by simp) HR.out HF.out).mono ?_
    rintro e w3 ⟨q, rfl, hq, hd1, _⟩
    have hq' : -1 ≤ q ∧ q ≤ 10000 := by simp at hq; omega
    clear hq
    have sz3 := hd1.but.size
    simp only [World.size_alloc] at sz3
    replace GR := Lib.hid (hd1.but.heap GR.out (by simp; omega))
    replace G0 := Lib.hid (hd1.but.heap G0.out (by simp; omega))
    replace HD := Lib.hid (HS.out.trans hd1)
    clear hd1 HS HR HF
    obtain ⟨c0, c1, c2, c3, f0, f1, f2, f3, hz⟩ := four_at GR.out
    obtain ⟨y0, y1, y2, y3, z0, z1, z2, z3, zz⟩ := four_at G0.out
    have hne : (w1.heap.size == w.heap.size) = false := by simp; omega
    have hne2 : (w.heap.size == w1.heap.size) = false := by simp; omega
    have hne3 : w1.heap.size ≠ w.heap.size := by omega
    have hne4 : w.heap.size ≠ w1.heap.size := by omega
    go_wp2_with fail
    refine bodyPost_ret (v := rv (q, r.2.1, r.2.2.1, r.2.2.2)) (by simp [results, Try.results124, go_sem, c0, c1, c2, c3, y0, y1, y2, y3, hz, zz, hne, hne2, hne3, hne4]) rfl ⟨_, 6, rfl, ?_, ?_, ?rel0⟩
    case rel0 =>
      repeat (refine Drawn.set ?_ (by omega) _ _)
      exact HD.out
    · have := HM.out; unfold Mild at this ⊢; simp only at this ⊢; omega
    · omega
  by_cases e1 : v = 1
  · subst e1
    have hsrc := HD.out.alloc (.cells (cellsOf .i64 [0, 20, 21]).toArray 2)
    obtain ⟨fq, hr, hn, hf⟩ := Rd.fresh (w := w2) (w' := w2.alloc (.cells (cellsOf .i64 [0, 20, 21]).toArray 2)) (n := 3) (size := 1) (xs := cellsOf .i64 [0, 20, 21]) (e := 2) (by unfold maxLen; omega) rfl (heap_new w2 _ rfl) (Nat.le_refl _)
    have hfs : s ∉ fq := fun hm => by have := hf _ hm; omega
    replace GR := Lib.hid (((below_new (.cells (cellsOf .i64 [0, 20, 21]).toArray 2)).block _ (heap_lt GR.out)).trans GR.out)
    replace G0 := Lib.hid (((below_new (.cells (cellsOf .i64 [0, 20, 21]).toArray 2)).block _ (heap_lt G0.out)).trans G0.out)
    have HS := Lib.hid hsrc; have HR := Lib.hid hr; have HF := Lib.hid hfs; clear hsrc hr hn hf hfs
    go_wp2_with fail
    refine (l1Pick_c _ s zs _ _ 3 [0, 20, 21] fq HS.out.src (by omega) (by simp) (by simp) HR.out HF.out).mono ?_
    rintro e w3 ⟨q, rfl, hq, hd1, _⟩
    have hq' : -1 ≤ q ∧ q ≤ 10000 := by simp at hq; omega
    clear hq
    have sz3 := hd1.but.size
    simp only [World.size_alloc] at sz3
    replace GR := Lib.hid (hd1.but.heap GR.out (by simp; omega))
    replace G0 := Lib.hid (hd1.but.heap G0.out (by simp; omega))
    replace HD := Lib.hid (HS.out.trans hd1)
    clear hd1 HS HR HF
    obtain ⟨c0, c1, c2, c3, f0, f1, f2, f3, hz⟩ := four_at GR.out
    obtain ⟨y0, y1, y2, y3, z0, z1, z2, z3, zz⟩ := four_at G0.out
    have hne : (w1.heap.size == w.heap.size) = false := by simp; omega
    have hne2 : (w.heap.size == w1.heap.size) = false := by simp; omega
    have hne3 : w1.heap.size ≠ w.heap.size := by omega
    have hne4 : w.heap.size ≠ w1.heap.size := by omega
    go_wp2_with fail
    refine bodyPost_ret (v := rv (r.1, q, r.2.2.1, r.2.2.2)) (by simp [results, Try.results124, go_sem, c0, c1, c2, c3, y0, y1, y2, y3, hz, zz, hne, hne2, hne3, hne4]) rfl ⟨_, 6, rfl, ?_, ?_, ?rel1⟩
    case rel1 =>
      repeat (refine Drawn.set ?_ (by omega) _ _)
      exact HD.out
    · have := HM.out; unfold Mild at this ⊢; simp only at this ⊢; omega
    · omega
  by_cases e2 : v = 2
  · subst e2
    have hsrc := HD.out.alloc (.cells (cellsOf .i64 [r.2.2.1 + 1, -1]).toArray 2)
    obtain ⟨fq, hr, hn, hf⟩ := Rd.fresh (w := w2) (w' := w2.alloc (.cells (cellsOf .i64 [r.2.2.1 + 1, -1]).toArray 2)) (n := 2) (size := 1) (xs := cellsOf .i64 [r.2.2.1 + 1, -1]) (e := 2) (by unfold maxLen; omega) rfl (heap_new w2 _ rfl) (Nat.le_refl _)
    have hfs : s ∉ fq := fun hm => by have := hf _ hm; omega
    have GR0 := GR
    replace GR := Lib.hid (((below_new (.cells (cellsOf .i64 [r.2.2.1 + 1, -1]).toArray 2)).block _ (heap_lt GR.out)).trans GR.out)
    replace G0 := Lib.hid (((below_new (.cells (cellsOf .i64 [r.2.2.1 + 1, -1]).toArray 2)).block _ (heap_lt G0.out)).trans G0.out)
    have HS := Lib.hid hsrc; have HR := Lib.hid hr; have HF := Lib.hid hfs; clear hsrc hr hn hf hfs
    obtain ⟨c0, c1, c2, c3, f0, f1, f2, f3, hz⟩ := four_at (w := w2) GR0.out
    go_wp2_with fail
    clear c0 c1 c2 c3 f0 f1 f2 f3 hz
    refine (l1Pick_c _ s zs _ _ 2 [r.2.2.1 + 1, -1] fq HS.out.src (by omega) (by simp) (by simp) HR.out HF.out).mono ?_
    rintro e w3 ⟨q, rfl, hq, hd1, _⟩
    have hq' : -1 ≤ q ∧ q ≤ 10000 := by simp at hq; omega
    clear hq
    have sz3 := hd1.but.size
    simp only [World.size_alloc] at sz3
    replace GR := Lib.hid (hd1.but.heap GR.out (by simp; omega))
    replace G0 := Lib.hid (hd1.but.heap G0.out (by simp; omega))
    replace HD := Lib.hid (HS.out.trans hd1)
    clear hd1 HS HR HF
    obtain ⟨c0, c1, c2, c3, f0, f1, f2, f3, hz⟩ := four_at GR.out
    obtain ⟨y0, y1, y2, y3, z0, z1, z2, z3, zz⟩ := four_at G0.out
    have hne : (w1.heap.size == w.heap.size) = false := by simp; omega
    have hne2 : (w.heap.size == w1.heap.size) = false := by simp; omega
    have hne3 : w1.heap.size ≠ w.heap.size := by omega
    have hne4 : w.heap.size ≠ w1.heap.size := by omega
    go_wp2_with fail
    refine bodyPost_ret (v := rv (r.1, r.2.1, r.2.2.1, q)) (by simp [results, Try.results124, go_sem, c0, c1, c2, c3, y0, y1, y2, y3, hz, zz, hne, hne2, hne3, hne4]) rfl ⟨_, 6, rfl, ?_, ?_, ?rel2⟩
    case rel2 =>
      repeat (refine Drawn.set ?_ (by omega) _ _)
      exact HD.out
    · have := HM.out; unfold Mild at this ⊢; simp only at this ⊢; omega
    · omega
  have b0 : (v == 0) = false := by simp [e0]
  have b1 : (v == 1) = false := by simp [e1]
  have b2 : (v == 2) = false := by simp [e2]
  clear e0 e1 e2
  obtain ⟨c0, c1, c2, c3, f0, f1, f2, f3, hz⟩ := four_at GR.out
  obtain ⟨y0, y1, y2, y3, z0, z1, z2, z3, zz⟩ := four_at G0.out
  go_wp2_with fail
  refine bodyPost_ret (v := rv r) (by simp [results, Try.results124, go_sem, c0, c1, c2, c3, y0, y1, y2, y3, hz, zz]) rfl ⟨_, 5, rfl, HM.out, ?_, ?rel3⟩
  case rel3 =>
    repeat (refine Drawn.set ?_ (by omega) _ _)
    exact HD.out
  · omega
end Go.Proofs.Ytoabohllphoioaa
