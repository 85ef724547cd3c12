/-
  Contracts of the model's draws of chapter 2: arguments for PutRow.
-/
import Derived.Test.YthmmjkpgepffeaaDraw2e
namespace Go.Proofs.Ythmmjkpgepffeaa
open Go.RowKit

/-- Rows and one row were drawn. -/
def RowsRowPost (w : World) (e : Ending) (w' : World) : Prop :=
  ∃ v fv rs r, e = .returned (.tuple #[v, rv r]) ∧ Rd w' 4 v (rcs rs) fv ∧ NF w' fv ∧ From w.heap.size fv ∧ (∀ r ∈ rs, Mild r) ∧ rs.length ≤ 13 ∧ Mild r ∧ Below w.heap.size w w'

set_option maxRecDepth 100000 in
set_option maxHeartbeats 2000000 in
theorem drawPutRow_c (A : Option Addr) (c : Nat) (zs : List Int) (w : World) (fp : List Nat) (ha : Rd w 1 (.slice A zs.length c) (cellsOf .u8 zs) fp) (hby : Byt zs) (hb : zs.length ≤ 1048576) :
    Calls Try.prog 14 #[.slice A zs.length c] w (RowsRowPost w) := by
  go_enter Try.func14, Try.ntmps14
  go_wp2_with fail
  refine (l1Source_c A c zs _ fp (ha.alloc (.cells #[.int .i64 0, .int .i64 0, .int .i64 0, .int .i64 0] 26)) hby hb).mono ?_
  rintro e w1 ⟨rfl, hs1, hb1, hz1⟩
  have hze : (w.alloc (.cells #[.int .i64 0, .int .i64 0, .int .i64 0, .int .i64 0] 26)).heap.size = w.heap.size + 1 := by simp
  rw [hze] at hs1 hb1 hz1
  have hl1 : w.heap.size + 1 ≤ w1.heap.size := by omega
  clear hze hz1
  go_wp2_with fail
  refine (l2Bent_c _ (w.heap.size + 1) zs 0 hs1 (by omega)).mono ?_
  rintro e w2 ⟨v, fv, rs, d, n, B, rfl, hr, hn, hf, _, _, hm, hl, hd, hdr⟩
  have hls := hs1.lt
  have HR := Lib.hid hr; have HN := Lib.hid hn; have HF := Lib.hid hf; have HM := Lib.hid hm; have HD := Lib.hid hdr
  clear hr hn hf hm hdr hs1
  go_wp2_with fail
  refine (l2BentRow_c _ (w.heap.size + 1) zs _ HD.out.src (by omega)).mono ?_
  rintro e w3 ⟨r, d3, rfl, hmr, hd3, hdr⟩
  have hap : ∀ b ∈ fv, b ∉ [w.heap.size + 1] := fun b hb hm => by have := HF.out b hb; simp at hm; omega
  have hn3 := HN.out.but hdr.but HR.out.lt hap
  have hr3 := HR.out.but hdr.but hap
  have hb2 := Drawn.fresh2 hb1 (HD.out.trans hdr) hl1
  have HB := Lib.hid ((below_new (w := w) (.cells #[.int .i64 0, .int .i64 0, .int .i64 0, .int .i64 0] 26)).trans (hb2.mono (by omega)))
  have HMR := Lib.hid hmr
  obtain ⟨c0, c1, c2, c3, f0, f1, f2, f3, hz⟩ := four_at ((hb2.block w.heap.size (by omega)).trans (heap_new w (.cells #[.int .i64 0, .int .i64 0, .int .i64 0, .int .i64 0] 26) rfl))
  have hbut : But [w.heap.size] w3 ((((w3.setCell ⟨w.heap.size, 0, none⟩ (.int .i64 r.1)).setCell ⟨w.heap.size, 1, none⟩ (.int .i64 r.2.1)).setCell ⟨w.heap.size, 2, none⟩ (.int .i64 r.2.2.1)).setCell ⟨w.heap.size, 3, none⟩ (.int .i64 r.2.2.2)) :=
    ((((But.refl [w.heap.size] w3).setCell (p := ⟨w.heap.size, 0, none⟩) (by simp) _).setCell (p := ⟨w.heap.size, 1, none⟩) (by simp) _).setCell (p := ⟨w.heap.size, 2, none⟩) (by simp) _).setCell (p := ⟨w.heap.size, 3, none⟩) (by simp) _
  have hap2 : ∀ b ∈ fv, b ∉ [w.heap.size] := fun b hb hm => by have := HF.out b hb; simp at hm; omega
  have HR3 := Lib.hid (hr3.but hbut hap2); have HN3 := Lib.hid (hn3.but hbut hr3.lt hap2); have HF3 := Lib.hid (HF.out.mono (show w.heap.size ≤ w1.heap.size by omega))
  obtain ⟨Av, cv, hv⟩ := HR.out.rows_form
  subst hv
  clear hdr hb1 hmr hb2 hap hn3 hr3 hbut hap2 HR HN HF HD
  go_wp2_with fail
  exact bodyPost_ret (v := .tuple #[.slice Av rs.length cv, rv r]) (by simp [results, Try.results14, go_sem, c0, c1, c2, c3, hz]) rfl ⟨_, fv, rs, r, rfl, HR3.out, HN3.out, HF3.out, HM.out, hl, HMR.out, below_set (below_set (below_set (below_set HB.out _ _) _ _) _ _) _ _⟩
end Go.Proofs.Ythmmjkpgepffeaa
