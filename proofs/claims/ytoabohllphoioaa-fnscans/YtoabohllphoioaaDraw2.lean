/-
  Contracts of the model's draws of chapter 2.
-/
import Derived.Test.YtoabohllphoioaaSrc
import Derived.Test.YtoabohllphoioaaG16
import Derived.Test.YtoabohllphoioaaArgs4
namespace Go.Proofs.Ytoabohllphoioaa
open Go.RowKit

/-- Every field is a short number. -/
def Mild (r : R) : Prop := (-20000 ≤ r.1 ∧ r.1 ≤ 20000) ∧ (-20000 ≤ r.2.1 ∧ r.2.1 ≤ 20000) ∧ (-20000 ≤ r.2.2.1 ∧ r.2.2.1 ≤ 20000) ∧ (-20000 ≤ r.2.2.2 ∧ r.2.2.2 ≤ 20000)
theorem wf_mild {v : Int} (h : -20000 ≤ v ∧ v ≤ 20000) : (Lit.int .i64 v).wf = true := by
  have : IntKind.i64.min = -9223372036854775808 := rfl
  have : IntKind.i64.max = 9223372036854775807 := rfl
  simp [Lit.wf]
  omega
theorem Mild.wf {r : R} (h : Mild r) : WfR r := ⟨wf_mild h.1, wf_mild h.2.1, wf_mild h.2.2.1, wf_mild h.2.2.2⟩

theorem l1Min_c (a b : Int) (w : World) : Calls Try.prog 74 #[.int .i64 a, .int .i64 b] w fun e w' => e = .returned (.int .i64 (if a < b then a else b)) ∧ w = w' := by
  by_cases h : a < b
  all_goals
    go_enter Try.func74, Try.ntmps74
    go_wp2
    go_ret
    simp [h]

/-- A block that was laid since holds other cells now. -/
theorem Drawn.four {w w1 : World} {s : Nat} {zs : List Int} {a d g : Nat} (h : Drawn w s zs a d w1) (hg : w.heap.size ≤ g ∧ s < w.heap.size) (u v x y : Value) :
    Drawn w s zs a d ((((w1.setCell ⟨g, 0, none⟩ u).setCell ⟨g, 1, none⟩ v).setCell ⟨g, 2, none⟩ x).setCell ⟨g, 3, none⟩ y) := by
  have hb : But [g] w1 ((((w1.setCell ⟨g, 0, none⟩ u).setCell ⟨g, 1, none⟩ v).setCell ⟨g, 2, none⟩ x).setCell ⟨g, 3, none⟩ y) :=
    ((((But.refl [g] w1).setCell (p := ⟨g, 0, none⟩) (by simp) u).setCell (p := ⟨g, 1, none⟩) (by simp) v).setCell (p := ⟨g, 2, none⟩) (by simp) x).setCell (p := ⟨g, 3, none⟩) (by simp) y
  refine ⟨h.src.but hb (fun b hm => by simp at hm; omega), ⟨hb.os.trans h.but.os, hb.tape.trans h.but.tape, hb.output.trans h.but.output, Nat.le_trans h.but.size hb.size, fun k hk hn => ?_⟩⟩
  rw [hb.block k (Nat.lt_of_lt_of_le hk h.but.size) (by simp; omega)]
  exact h.but.block k hk hn

/-- What a drawn row is. -/
def DRowPost (w : World) (s : Nat) (zs : List Int) (a : Nat) (e : Ending) (w' : World) : Prop :=
  ∃ r, e = .returned (rv r) ∧ Fit r ∧ Mild r ∧ (0 ≤ r.2.2.1 ∧ r.2.2.1 ≤ 9999) ∧ Drawn w s zs a 4 w'

set_option maxRecDepth 100000 in
set_option maxHeartbeats 2000000 in
theorem l2DrawRow_c (w : World) (s : Nat) (zs : List Int) (a : Nat) (h : Src w s zs a) (ha : a < 999000) :
    Calls Try.prog 154 #[.pointer (some ⟨s, 0, none⟩)] w (DRowPost w s zs a) := by
  have hlt := h.lt
  have hd0 := ((Drawn.start h).alloc (.cells #[.int .i64 0, .int .i64 0, .int .i64 0, .int .i64 0] 34)).alloc (.cells (cellsOf .i64 [0, 1, 5, 40, 9999]).toArray 2)
  have hg0 : ((w.alloc (.cells #[.int .i64 0, .int .i64 0, .int .i64 0, .int .i64 0] 34)).alloc (.cells (cellsOf .i64 [0, 1, 5, 40, 9999]).toArray 2)).heap[w.heap.size]? = some (.cells #[.int .i64 0, .int .i64 0, .int .i64 0, .int .i64 0] 34 (0, 0)) :=
    ((below_new (w := w.alloc (.cells #[.int .i64 0, .int .i64 0, .int .i64 0, .int .i64 0] 34)) _).block w.heap.size (by simp)).trans (heap_new w _ rfl)
  obtain ⟨fq, hr, hn, hf⟩ := Rd.fresh (w := w.alloc (.cells #[.int .i64 0, .int .i64 0, .int .i64 0, .int .i64 0] 34)) (w' := (w.alloc (.cells #[.int .i64 0, .int .i64 0, .int .i64 0, .int .i64 0] 34)).alloc (.cells (cellsOf .i64 [0, 1, 5, 40, 9999]).toArray 2)) (n := 5) (size := 1) (xs := cellsOf .i64 [0, 1, 5, 40, 9999]) (e := 2) (by unfold maxLen; omega) rfl (heap_new _ _ rfl) (Nat.le_refl _)
  have hsz1 : (w.alloc (.cells #[.int .i64 0, .int .i64 0, .int .i64 0, .int .i64 0] 34)).heap.size = w.heap.size + 1 := by simp
  rw [hsz1] at hr
  clear hsz1
  have hfs : s ∉ fq := fun hm => by have := hf _ hm; simp at this; omega
  have HR := Lib.hid hr; have HF := Lib.hid hfs; have HD := Lib.hid hd0; have HG := Lib.hid hg0; clear hr hf hn hd0 hfs hg0
  go_enter Try.func154, Try.ntmps154
  go_wp2_with fail
  refine (l1Pick_c _ s zs (a + 0) _ 5 [0, 1, 5, 40, 9999] fq HD.out.src (by omega) (by simp) (by simp) HR.out HF.out).mono ?_
  rintro e w1 ⟨q, rfl, hq, hd1, _⟩
  have hq' : 0 ≤ q ∧ q ≤ 9999 := by simp at hq; omega
  clear hq
  replace HG := Lib.hid (hd1.but.heap HG.out (by simp; omega))
  replace HD := Lib.hid (HD.out.trans hd1)
  clear HR HF hd1
  go_wp2_with fail
  refine (l1Next_c _ s zs _ 4 HD.out.src (by omega) (by omega)).mono ?_
  rintro e w2 ⟨v1, m1, rfl, h10, h11, hw⟩
  have hd1 := Drawn.of_next HD.out.src (by omega) hw
  replace HG := Lib.hid (hd1.but.heap HG.out (by simp; omega))
  replace HD := Lib.hid (HD.out.trans hd1)
  clear hw hd1
  go_wp2_with fail
  refine (l1Next_c _ s zs _ 3 HD.out.src (by omega) (by omega)).mono ?_
  rintro e w3 ⟨v2, m2, rfl, h20, h21, hw⟩
  have hd1 := Drawn.of_next HD.out.src (by omega) hw
  replace HG := Lib.hid (hd1.but.heap HG.out (by simp; omega))
  replace HD := Lib.hid (HD.out.trans hd1)
  clear hw hd1
  go_wp2_with fail
  refine (l1Next_c _ s zs _ 4 HD.out.src (by omega) (by omega)).mono ?_
  rintro e w4 ⟨v3, m3, rfl, h30, h31, hw⟩
  have hd1 := Drawn.of_next HD.out.src (by omega) hw
  replace HG := Lib.hid (hd1.but.heap HG.out (by simp; omega))
  replace HD := Lib.hid (HD.out.trans hd1)
  clear hw hd1
  go_wp2_with fail
  refine (l1Min_c _ _ _).mono ?_
  rintro e w5 ⟨rfl, rfl⟩
  have hv4 : 0 ≤ (if q < v3 then q else v3) ∧ (if q < v3 then q else v3) ≤ 3 := by split <;> omega
  generalize (if q < v3 then q else v3) = v4 at *
  obtain ⟨c0, c1, c2, c3, f0, f1, f2, f3, hz⟩ := four_at HG.out
  have hB := Lib.hid (HD.out.but)
  go_wp2_with fail
  refine bodyPost_ret (v := rv (v1, 1 + v2, q, v4)) (by simp [results, Try.results154, go_sem, c0, c1, c2, c3, hz]) rfl ⟨_, rfl, ?_, ?_, hq', ?_⟩
  · unfold Fit; simp only; omega
  · unfold Mild; simp only; omega
  · refine Drawn.four ?_ (by omega) _ _ _ _
    exact HD.out
end Go.Proofs.Ytoabohllphoioaa
