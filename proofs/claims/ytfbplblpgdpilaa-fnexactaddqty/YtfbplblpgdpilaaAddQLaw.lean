/- The law on AddQty answers true for all integers: the walk. -/

import Derived.Test.YtfbplblpgdpilaaAddQ
import Derived.WalkKit
import Derived.ProofKit

import Derived.Below
import Derived.Lib.Hide
namespace Go.Proofs.Ytfbplblpgdpilaa
open Go.RowKit

theorem lawAddQty_c (a b : Int) (w : World) :
    Calls Try.prog 8 #[.int .i64 a, .int .i64 b] w fun e w' => e = .returned (.bool true) ∧ Below w.heap.size w w' := by
  generalize hq : addQ a b = q
  have Hq := Lib.hid hq; clear hq
  go_enter Try.func8, Try.ntmps8
  go_wp2_with fail
  refine (specAddQty_c _ _ _).mono ?_
  rintro e w1 ⟨rfl, hb1⟩
  rw [Hq.out]
  go_wp2_with fail
  refine (implAddQty_c _ _ _).mono ?_
  rintro e w2 ⟨rfl, hb2⟩
  rw [Hq.out]
  have hz : w1.heap.size < w2.heap.size := by have := hb2.size; simp at this; omega
  have hc0 : w2.cell? ⟨w1.heap.size, 0, none⟩ = some (.int .i64 q.1) := (hb2.cell (p := ⟨w1.heap.size, 0, none⟩) (by simp)).trans (by simp)
  have hc1 : w2.cell? ⟨w1.heap.size, 1, none⟩ = some (.int .i64 q.2) := (hb2.cell (p := ⟨w1.heap.size, 1, none⟩) (by simp)).trans (by simp)
  go_wp2_with fail
  refine (eqIR_c q _).mono ?_
  rintro e w3 ⟨rfl, hb3⟩
  go_wp2
  go_ret
  refine ⟨rfl, ?_⟩
  have k1 := hb1.size
  have k2 := hb2.size
  simp at k2
  exact hb1.trans ((((Below.refl _ _).alloc k1 _).trans (hb2.mono (by simp; omega))).trans (((Below.refl _ _).alloc (by omega) _).trans (hb3.mono (by simp; omega))))
end Go.Proofs.Ytfbplblpgdpilaa
