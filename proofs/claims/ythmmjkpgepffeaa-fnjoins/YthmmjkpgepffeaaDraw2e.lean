/-
  Contracts of the model's draws of chapter 2: arguments for RowFault, KeyOf, PutRow, FindRow.
-/
import Derived.Test.YthmmjkpgepffeaaDraw2d
namespace Go.Proofs.Ythmmjkpgepffeaa
open Go.RowKit

theorem Drawn.fresh2 {w w1 w2 : World} {zs : List Int} {a d lo : Nat} (hb : Below lo w w1) (h : Drawn w1 lo zs a d w2) (hl : lo ≤ w1.heap.size) : Below lo w w2 :=
  hb.trans (h.but.below hl (by intro b hm; simp at hm; omega))

set_option maxRecDepth 100000 in
set_option maxHeartbeats 2000000 in
theorem drawRowFault_c (A : Option Addr) (c : Nat) (zs : List Int) (w : World) (fp : List Nat) (ha : Rd w 1 (.slice A zs.length c) (cellsOf .u8 zs) fp) (hby : Byt zs) (hb : zs.length ≤ 1048576) :
    Calls Try.prog 19 #[.slice A zs.length c] w fun e w' => ∃ r, e = .returned (rv r) ∧ Mild r ∧ Below w.heap.size w w' := by
  go_enter Try.func19, Try.ntmps19
  go_wp2_with fail
  refine (l1Source_c A c zs _ fp (ha.alloc (.cells #[.int .i64 0, .int .i64 0, .int .i64 0, .int .i64 0] 26)) hby hb).mono ?_
  rintro e w1 ⟨rfl, hs1, hb1, hz1⟩
  have hze : (w.alloc (.cells #[.int .i64 0, .int .i64 0, .int .i64 0, .int .i64 0] 26)).heap.size = w.heap.size + 1 := by simp
  rw [hze] at hs1 hb1 hz1
  have hl1 : w.heap.size + 1 ≤ w1.heap.size := by omega
  clear hze hz1
  go_wp2_with fail
  refine (l2BentRow_c _ (w.heap.size + 1) zs 0 hs1 (by omega)).mono ?_
  rintro e w2 ⟨r, d, rfl, hm, hd, hdr⟩
  have hb2 := Drawn.fresh2 hb1 hdr hl1
  have HB := Lib.hid ((below_new (w := w) (.cells #[.int .i64 0, .int .i64 0, .int .i64 0, .int .i64 0] 26)).trans (hb2.mono (by omega)))
  have HM := Lib.hid hm
  obtain ⟨c0, c1, c2, c3, f0, f1, f2, f3, hz⟩ := four_at ((hb2.block w.heap.size (by omega)).trans (heap_new w (.cells #[.int .i64 0, .int .i64 0, .int .i64 0, .int .i64 0] 26) rfl))
  clear hdr hb1 hs1 hm hb2
  go_wp2_with fail
  exact bodyPost_ret (v := rv r) (by simp [results, Try.results19, go_sem, c0, c1, c2, c3, hz]) rfl ⟨_, rfl, HM.out, below_set (below_set (below_set (below_set HB.out _ _) _ _) _ _) _ _⟩

set_option maxRecDepth 100000 in
set_option maxHeartbeats 2000000 in
theorem drawKeyOf_c (A : Option Addr) (c : Nat) (zs : List Int) (w : World) (fp : List Nat) (ha : Rd w 1 (.slice A zs.length c) (cellsOf .u8 zs) fp) (hby : Byt zs) (hb : zs.length ≤ 1048576) :
    Calls Try.prog 18 #[.slice A zs.length c] w fun e w' => ∃ l s, e = .returned (.tuple #[.int .i64 l, .int .i64 s]) ∧ (-20000 ≤ l ∧ l ≤ 20000) ∧ (-20000 ≤ s ∧ s ≤ 20000) ∧ Below w.heap.size w w' := by
  go_enter Try.func18, Try.ntmps18
  go_wp2_with fail
  refine (l1Source_c A c zs _ fp ha hby hb).mono ?_
  rintro e w1 ⟨rfl, hs1, hb1, hz1⟩
  have HZ := Lib.hid hz1; clear hz1
  go_wp2_with fail
  refine (l2BentRow_c _ _ zs 0 hs1 (by omega)).mono ?_
  rintro e w2 ⟨r, d, rfl, hm, hd, hdr⟩
  have HB := Lib.hid (Drawn.fresh2 hb1 hdr (by have := HZ.out; omega))
  have HM := Lib.hid hm
  clear hdr hb1 hs1 hm
  go_wp2_with fail
  go_quiet (fail)
  go_wp2_with fail
  exact bodyPost_ret (v := .tuple #[.int .i64 r.1, .int .i64 r.2.1]) (by simp [results, Try.results18, go_sem]) rfl ⟨_, _, rfl, HM.out.1, HM.out.2.1, below_drewN' (HB.out.alloc HB.out.size _) _⟩
end Go.Proofs.Ythmmjkpgepffeaa
