/-
  Contracts of the program's functions of chapter 3, ninth part: ParseOp, which recovers.
-/
import Derived.Test.YtocllaendofndaaDoorImpl3h
import Derived.Test.YtocllaendofndaaDoorSpec3l
namespace Go.Proofs.YtocllaendofndaaDoor
open Go.RowKit

theorem catchP_panicking (g : Nat) (u : TypeId) (pv : Value) (older : List PanicEntry) (w : World) (hg : w.heap[g]? = some (orbox 0 o0)) :
    CallsD Tryd.prog 33 #[.pointer (some ⟨g, 0, none⟩)] (.panicking ({ v := .iface u pv, recovered := false } :: older)) w fun e u' w' =>
      e = .returned (.tuple #[]) ∧ u' = .panicking ({ v := .iface u pv, recovered := true } :: older) ∧ w' = errW w g := by
  obtain ⟨c0, c1, c2, c3, c4, c5, c6, c7, hz⟩ := or_cells hg
  have zf : ∀ i, w.frozen? ⟨g, i, none⟩ = false := fun i => frozen_of_heap hg
  refine callsD_of_wpS Tryd.func33 rfl fun c₀ cs hu => ?_
  apply wpS_seq
  apply wpS_region
  simp [wpOpsS, go_sem, recoverD, hu, Tryd.ntmps33, Exit.thenS]
  refine wpS_cond (t := true) (by simp [Act.eval, Array.replicate]) ?_
  simp only [if_true]
  apply wpS_region
  simp [wpOpsS, go_sem, c0, c1, c2, c3, c4, c5, c6, c7, zf, bodyPostS, results, Tryd.results33]

theorem catchP_idle (g : Nat) (w : World) :
    CallsD Tryd.prog 33 #[.pointer (some ⟨g, 0, none⟩)] .returning w fun e u' w' => e = .returned (.tuple #[]) ∧ u' = .returning ∧ w' = w := by
  refine callsD_of_wpS Tryd.func33 rfl fun c₀ cs hu => ?_
  apply wpS_seq
  apply wpS_region
  simp [wpOpsS, go_sem, recoverD, hu, Tryd.ntmps33, Exit.thenS]
  refine wpS_cond (t := false) (by simp [Act.eval, Array.replicate]) ?_
  simp only [Bool.false_eq_true, if_false]
  refine wpS_of_wp (wp_skip ?_)
  cases c₀
  simp_all [bodyPostS, results, Tryd.results33]

set_option maxRecDepth 100000 in
set_option maxHeartbeats 4000000 in
theorem implParseOp_a : AskParseOp Ld2 10 := by
  intro s w hs hl
  have hmf : ∀ (fn : Fn) (first cap : Array Value) (w : World), (Instr.makeFunc fn first cap).run Tryd.prog w = .ok (.func fn first cap) w := fun _ _ _ _ => rfl
  have hl' := hl.below (below_new (orbox 0 o0))
  have HL := Lib.hid hl'
  clear hl hl'
  cases hr : parseO s.data.toList with
  | none =>
    rw [(ps_no hr).1, (ps_no hr).2]
    have HR := Lib.hid hr; clear hr
    go_enter_defers Tryd.func10, Tryd.ntmps10
    go_wp2_with fail
    refine (opInText_c s _ hs HL.out).mono ?_
    rw [HR.out]
    rintro e w1 ⟨⟨pv, u, rfl⟩, hb1⟩
    have hg1 : w1.heap[w.heap.size]? = some (orbox 0 o0) := newest hb1 (by simp)
    obtain ⟨c0, c1, c2, c3, c4, c5, c6, c7, hz⟩ := or_cells hg1
    have HB1 := Lib.hid ((below_new _).trans (hb1.mono (by simp)))
    have HG1 := Lib.hid hg1
    clear hb1 hg1
    go_wp2_with fail
    refine leaves_cons (f := 33) (args := #[.pointer (some ⟨w.heap.size, 0, none⟩)]) (by simp) (by simp [go_sem]) ?_
    refine (catchP_panicking w.heap.size u pv [] _ HG1.out).mono ?_
    rintro e u' w'' ⟨rfl, rfl, rfl⟩
    simp [Leaves, settle, results, Tryd.results10, go_sem, c0, c1, c2, c3, c4, c5, c6, c7]
    exact below_set8 HB1.out _ _ _ _ _ _ _ _
  | some o =>
    rw [(ps_ok hr).1, (ps_ok hr).2]
    have HR := Lib.hid hr; clear hr
    go_enter_defers Tryd.func10, Tryd.ntmps10
    go_wp2_with fail
    refine (opInText_c s _ hs HL.out).mono ?_
    rw [HR.out]
    rintro e w1 ⟨rfl, hb1⟩
    have hg1 : w1.heap[w.heap.size]? = some (orbox 0 o0) := newest hb1 (by simp)
    obtain ⟨c0, c1, c2, c3, c4, c5, c6, c7, hz⟩ := or_cells hg1
    have zf : ∀ i, w1.frozen? ⟨w.heap.size, i, none⟩ = false := fun i => frozen_of_heap hg1
    have HB1 := Lib.hid ((below_new _).trans (hb1.mono (by simp)))
    clear hb1 hg1
    go_wp2_with fail
    refine leaves_cons (f := 33) (args := #[.pointer (some ⟨w.heap.size, 0, none⟩)]) (by simp) (by simp [go_sem]) ?_
    refine (catchP_idle w.heap.size _).mono ?_
    rintro e u' w'' ⟨rfl, rfl, rfl⟩
    simp [Leaves, settle, results, Tryd.results10, go_sem, c0, c1, c2, c3, c4, c5, c6, c7]
    exact below_set8 HB1.out _ _ _ _ _ _ _ _
end Go.Proofs.YtocllaendofndaaDoor
