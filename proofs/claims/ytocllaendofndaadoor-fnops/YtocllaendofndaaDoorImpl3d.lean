/-
  Contracts of the program's functions of chapter 3, fourth part: ReadOp.
-/
import Derived.Test.YtocllaendofndaaDoorImpl3b
import Derived.Test.YtocllaendofndaaDoorSpec3e
import Derived.Defers
import Derived.Recover
import Derived.Laws.Pointers
namespace Go.Proofs.YtocllaendofndaaDoor
open Go.RowKit

/-- The panic of what is unreadable. -/
abbrev unread : Value := .iface 9 (.string ⟨#[117, 110, 114, 101, 97, 100, 97, 98, 108, 101, 32, 111, 112, 101, 114, 97, 116, 105, 111, 110]⟩)
theorem mustBe_t (w : World) : Calls Tryd.prog 46 #[.bool true] w fun e w' => e = .returned (.tuple #[]) ∧ w' = w := by
  go_enter Tryd.func46, Tryd.ntmps46
  go_wp2
  go_end0
  exact ⟨rfl, rfl⟩
theorem mustBe_f (w : World) : Calls Tryd.prog 46 #[.bool false] w fun e w' => e = .panicked [{ v := unread, recovered := false }] ∧ w' = w := by
  go_enter Tryd.func46, Tryd.ntmps46
  go_wp2
  exact ⟨rfl, rfl, rfl⟩

theorem opOf_c (o : O) (w : World) : Calls Tryd.prog 47 #[ov o] w fun e w' => e = .returned (ov o) ∧ Below w.heap.size w w' := by
  go_enter Tryd.func47, Tryd.ntmps47
  go_wp2
  exact bodyPost_ret (v := ov o) (by simp [results, Tryd.results47, go_sem]) rfl ⟨rfl, by repeat (first | exact Below.refl _ _ | (refine below_more ?_ _))⟩

theorem readL_wf {zs : List Int} (hby : Byt zs) (i : Nat) (hi : i < (readL zs).length) : (Lit.int .i64 (readL zs)[i]).wf = true := by
  by_cases hok : readOk zs
  · obtain ⟨n, h0, h20, hln⟩ := readOk_of hok hby
    have e := readL_ok hok h0
    have hi' : i < n := by rw [e, nums_length] at hi; exact hi
    have hx : (readL zs)[i] = get2 zs[1 + 2 * i] zs[1 + 2 * i + 1] := by
      have := nums_get zs n i hi' (by omega)
      simp only [e]
      exact this
    rw [hx]
    have := hby.at_ (k := 1 + 2 * i) (by omega)
    have := hby.at_ (k := 1 + 2 * i + 1) (by omega)
    unfold get2
    split <;> simp [Lit.wf, IntKind.min, IntKind.max, IntKind.bits, IntKind.signed] <;> omega
  · rw [readL_no hok] at hi
    exact absurd hi (Nat.not_lt_zero _)
theorem arrayAt7 (b off c : Nat) (w : World) : (Instr.arrayAt 61 (.slice (some ⟨b, off, none⟩) 7 c)).run Tryd.prog w = .ok (.pointer (some ⟨b, off, none⟩)) w := by kernel_rfl
/-- What a call answers that reads an operation or panics. -/
def InPost (r : Option O) (w : World) (e : Ending) (w' : World) : Prop :=
  (match r with
   | some o => e = .returned (ov o)
   | none => ∃ pv u, e = .panicked [{ v := .iface u pv, recovered := false }]) ∧ Below w.heap.size w w'

set_option maxRecDepth 100000 in
set_option maxHeartbeats 4000000 in
theorem opInBytes_c (A : Option Addr) (c : Nat) (zs : List Int) (w : World) (fp : List Nat) (hby : Byt zs) (ha : Rd w 1 (.slice A zs.length c) (cellsOf .u8 zs) fp) :
    Calls Tryd.prog 30 #[.slice A zs.length c] w (InPost (readO zs) w) := by
  have ha' := ha.alloc (obox o0)
  have HA := Lib.hid ha'; have HBY := Lib.hid hby
  clear ha ha' hby
  by_cases hok : readOk zs
  · have e0 := readC_ok hok
    by_cases h7 : (readL zs).length = 7
    · obtain ⟨o, ho⟩ := op_of h7
      have hr := readO_ok hok ho
      rw [hr]
      generalize hRR : (if opF o = 0 then some o else none) = R
      have HRR := Lib.hid hRR
      have E0 := Lib.hid e0; have HO := Lib.hid ho
      have hwf : WfO o := by
        intro z hz
        rw [← ho] at hz
        obtain ⟨i, hi, rfl⟩ := List.getElem_of_mem hz
        exact readL_wf HBY.out i hi
      have HW := Lib.hid hwf
      clear hok h7 e0 ho hr hwf hRR
      go_enter Tryd.func30, Tryd.ntmps30
      go_wp2_with fail
      refine (implReadNumbers_c A c zs _ fp HBY.out HA.out).mono ?_
      rintro e w1 ⟨r, rfl, hsr, hb1⟩
      obtain ⟨v, fq, rfl, hr, hn, hf⟩ := hsr
      rw [E0.out]
      rw [HO.out] at hr
      obtain ⟨Av, cv, rfl⟩ := hr.form
      have hg1 := newest hb1 (by simp)
      have HB1 := Lib.hid ((below_new _).trans (hb1.mono (by simp)))
      have HG1 := Lib.hid hg1
      obtain ⟨A', n', c', hv, hl, hmx, hnc, hx⟩ := hr
      cases hv
      rcases hx with ⟨h, _⟩ | ⟨b, off, rfl, _, hb, hc⟩
      · cases h
      have c0 := hc 0 _ rfl
      have c1 := hc 1 _ rfl
      have c2 := hc 2 _ rfl
      have c3 := hc 3 _ rfl
      have c4 := hc 4 _ rfl
      have c5 := hc 5 _ rfl
      have c6 := hc 6 _ rfl
      rw [Nat.add_zero] at c0
      clear hc hl hmx hn hf hb1 hg1
      rw [show (opL o).length = 7 from rfl]
      have hat := arrayAt7 b off cv
      go_wp2_with fail
      refine (mustBe_t _).mono ?_
      rintro e w2 ⟨rfl, rfl⟩
      go_wp2_with fail
      refine (opOf_c o _).mono ?_
      rintro e w2 ⟨rfl, hb2⟩
      have hg2 : w2.heap[w.heap.size]? = some (obox o0) := (hb2.block _ (by have := heap_lt HG1.out; simp; omega)).trans (heap_old HG1.out)
      have HB2 := Lib.hid ((below_more HB1.out _).trans (hb2.mono (by have := HB1.out.size; simp; omega)))
      have HG2 := Lib.hid hg2
      clear hb2 hg2 c0 c1 c2 c3 c4 c5 c6 hb hnc
      go_wp2_with fail
      refine (implOpFault_a o _ HW.out).mono ?_
      rintro e w3 ⟨rfl, hb3⟩
      have hg3 : w3.heap[w.heap.size]? = some (obox o0) := (hb3.block _ (by have := heap_lt HG2.out; simp; omega)).trans (heap_old HG2.out)
      have hg4 : w3.heap[w2.heap.size]? = some (obox o) := newest hb3 (by simp)
      have hb3' := (below_more HB2.out _).trans (hb3.mono (by have := HB2.out.size; simp; omega))
      have hlt : w.heap.size < w2.heap.size := heap_lt HG2.out
      have HB3 := Lib.hid hb3'
      clear hb3 hb3'
      by_cases h0 : opF o = 0
      · have hRR := HRR.out
        rw [if_pos h0] at hRR
        subst hRR
        rw [h0]
        obtain ⟨d0, d1, d2, d3, d4, d5, d6, dz⟩ := op_cells0 hg4
        obtain ⟨z0, z1, z2, z3, z4, z5, z6, hz⟩ := op_cells0 hg3
        have zf : ∀ i, w3.frozen? ⟨w.heap.size, i, none⟩ = false := fun i => frozen_of_heap hg3
        clear h0 hg3 hg4
        go_wp2_with fail
        refine (mustBe_t _).mono ?_
        rintro e w4 ⟨rfl, rfl⟩
        go_wp2_with fail
        exact bodyPost_ret (v := ov o) (by simp [results, Tryd.results30, go_sem, z0, z1, z2, z3, z4, z5, z6]) rfl ⟨rfl, below_set (below_set (below_set (below_set (below_set (below_set (below_set HB3.out _ _) _ _) _ _) _ _) _ _) _ _) _ _⟩
      · have hRR := HRR.out
        rw [if_neg h0] at hRR
        subst hRR
        clear HRR
        generalize hC : opF o = C at h0
        have hne : (C == 0) = false := by simpa using h0
        clear hC h0 hg3 hg4
        go_wp2_with fail
        refine (mustBe_f _).mono ?_
        rintro e w4 ⟨rfl, rfl⟩
        go_wp2_with fail
        exact ⟨rfl, ⟨_, _, rfl⟩, HB3.out⟩
    · have hr := readO_no (fun h => h7 h.2)
      rw [hr]
      have E0 := Lib.hid e0
      generalize hL : readL zs = L at h7
      have HL := Lib.hid hL
      clear hok hr hL e0
      go_enter Tryd.func30, Tryd.ntmps30
      go_wp2_with fail
      refine (implReadNumbers_c A c zs _ fp HBY.out HA.out).mono ?_
      rintro e w1 ⟨r, rfl, hsr, hb1⟩
      obtain ⟨v, fq, rfl, hr, hn, hf⟩ := hsr
      rw [E0.out]
      rw [HL.out] at hr
      obtain ⟨Av, cv, rfl⟩ := hr.form
      have HB1 := Lib.hid ((below_new _).trans (hb1.mono (by simp)))
      clear hb1 hr hn hf
      have hl7 : ((L.length : Int) == 7) = false := by simp; omega
      go_wp2_with fail
      refine (mustBe_f _).mono ?_
      rintro e w4 ⟨rfl, rfl⟩
      go_wp2_with fail
      exact ⟨rfl, ⟨_, _, rfl⟩, below_more HB1.out _⟩
  · have hr := readO_no (fun h => hok h.1)
    rw [hr]
    have e0 := readC_no hok
    have E0 := Lib.hid e0
    clear hok hr e0
    go_enter Tryd.func30, Tryd.ntmps30
    go_wp2_with fail
    refine (implReadNumbers_c A c zs _ fp HBY.out HA.out).mono ?_
    rintro e w1 ⟨r, rfl, hsr, hb1⟩
    obtain ⟨v, fq, rfl, hr, hn, hf⟩ := hsr
    rw [E0.out]
    obtain ⟨Av, cv, rfl⟩ := hr.form
    have HB1 := Lib.hid ((below_new _).trans (hb1.mono (by simp)))
    clear hb1 hr hn hf
    go_wp2_with fail
    refine (mustBe_f _).mono ?_
    rintro e w4 ⟨rfl, rfl⟩
    go_wp2_with fail
    exact ⟨rfl, ⟨_, _, rfl⟩, below_more HB1.out _⟩
end Go.Proofs.YtocllaendofndaaDoor
