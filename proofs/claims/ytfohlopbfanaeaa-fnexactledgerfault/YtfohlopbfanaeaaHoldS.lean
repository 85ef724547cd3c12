/-
  Contracts of the laws' helpers over Holds (5 integers each), by a maker.
-/
import Derived.Test.YtfohlopbfanaeaaProg
import Derived.Test.YtfohlopbfanaeaaElts
import Derived.Test.YtfohlopbfanaeaaHold5
import Derived.WalkSpells
import Derived.Laws.MakeOwn
import Derived.RegionTactic
import Derived.Deep.QuietTactic
import Derived.BigQuiet
import Derived.IntWalk
import Derived.Deep.RegionHeld3
namespace Go.Proofs.Ytfohlopbfanaeaa
open Go.RowKit

/-- The k-th Hold of a slice lies there. -/
theorem Rd.hold_at {w : World} {l : List Hd} {fp : List Nat} {A : Option Addr} {c k : Nat} (h : Rd w 5 (.slice A l.length c) (ecs hc l) fp) (hk : k < l.length) :
    ∃ b off, A = some ⟨b, off, none⟩ ∧ fp = [b] ∧ b < w.heap.size ∧ w.cell? ⟨b, off + k * 5, none⟩ = some (.int .i64 l[k].id) ∧ w.cell? ⟨b, off + k * 5 + 1, none⟩ = some (.int .i64 l[k].lc) ∧ w.cell? ⟨b, off + k * 5 + 2, none⟩ = some (.int .i64 l[k].sk) ∧ w.cell? ⟨b, off + k * 5 + 3, none⟩ = some (.int .i64 l[k].qt) ∧ w.cell? ⟨b, off + k * 5 + 4, none⟩ = some (.int .i64 l[k].un) := by
  obtain ⟨b, off, h1, h2, h3, h4⟩ := h.elt_at hc_len hk
  exact ⟨b, off, h1, h2, h3, h4 0 _ (by omega) rfl, h4 1 _ (by omega) rfl, h4 2 _ (by omega) rfl, h4 3 _ (by omega) rfl, h4 4 _ (by omega) rfl⟩

set_option maxRecDepth 100000 in
set_option maxHeartbeats 1000000 in
theorem toHold_c (r : Hd) (w : World) :
    Calls Try.prog 93 #[hv r] w fun e w' => e = .returned (hv r) ∧ Below w.heap.size w w' := by
  go_enter Try.func93, Try.ntmps93
  go_wp2
  refine bodyPost_ret (v := hv r) (by simp [results, Try.results93, go_sem]) rfl ⟨rfl, ?_⟩
  exact (((Below.refl _ _).alloc (Nat.le_refl _) _).alloc (by simp) _).alloc (by simp; omega) _

set_option maxRecDepth 100000 in
set_option maxHeartbeats 1000000 in
theorem eqHold_c (r : Hd) (w : World) :
    Calls Try.prog 101 #[hv r, hv r] w fun e w' => e = .returned (.bool true) ∧ Below w.heap.size w w' := by
  go_enter Try.func101, Try.ntmps101
  go_wp2
  go_ret
  exact ⟨rfl, ((Below.refl _ _).alloc (Nat.le_refl _) _).alloc (by simp) _⟩

set_option maxRecDepth 100000 in
set_option maxHeartbeats 2000000 in
theorem eqHoldS_c (A B : Option Addr) (c d : Nat) (rs : List Hd) (w : World) (fp fq : List Nat)
    (ha : Rd w 5 (.slice A rs.length c) (ecs hc rs) fp) (hb : Rd w 5 (.slice B rs.length d) (ecs hc rs) fq) :
    Calls Try.prog 61 #[.slice A rs.length c, .slice B rs.length d] w fun e w' => e = .returned (.bool true) ∧ Below w.heap.size w w' := by
  have hmax := ha.len_le
  go_enter Try.func61, Try.ntmps61
  go_wp2
  go_loopw [5] (fun i wr => ∃ k : Nat, k ≤ rs.length ∧ i = .int .i64 k ∧ Below w.heap.size w wr) (fun i _ => rs.length - (intOf i).toNat)
  case atStart => exact ⟨0, Nat.zero_le _, rfl, Below.refl _ _⟩
  case round =>
    obtain ⟨k, hk, rfl, hbel⟩ := hrel
    by_cases hlt : k < rs.length
    · obtain ⟨b1, o1, rfl, _, hl1, p0, p1, p2, p3, p4⟩ := (ha.below' hbel).hold_at hlt
      obtain ⟨b2, o2, rfl, _, hl2, q0, q1, q2, q3, q4⟩ := (hb.below' hbel).hold_at hlt
      generalize rs[k] = r at *
      clear ha hb
      have hi0 : (0 : Int) ≤ (k : Int) := by omega
      have hi1 : (k : Int) < (rs.length : Int) := by omega
      have HB := Lib.hid hbel; clear hbel
      go_wp2_with fail
      go_region_held3 (fun w' => w'.cell? ⟨b1, o1 + k * 5, none⟩ = some (.int .i64 r.id) ∧ w'.cell? ⟨b1, o1 + k * 5 + 1, none⟩ = some (.int .i64 r.lc) ∧ w'.cell? ⟨b1, o1 + k * 5 + 2, none⟩ = some (.int .i64 r.sk) ∧ w'.cell? ⟨b1, o1 + k * 5 + 3, none⟩ = some (.int .i64 r.qt) ∧ w'.cell? ⟨b1, o1 + k * 5 + 4, none⟩ = some (.int .i64 r.un) ∧
          w'.cell? ⟨b2, o2 + k * 5, none⟩ = some (.int .i64 r.id) ∧ w'.cell? ⟨b2, o2 + k * 5 + 1, none⟩ = some (.int .i64 r.lc) ∧ w'.cell? ⟨b2, o2 + k * 5 + 2, none⟩ = some (.int .i64 r.sk) ∧ w'.cell? ⟨b2, o2 + k * 5 + 3, none⟩ = some (.int .i64 r.qt) ∧ w'.cell? ⟨b2, o2 + k * 5 + 4, none⟩ = some (.int .i64 r.un))
        (first
          | go_keep
          | exact ⟨(hb1.cell (p := ⟨b1, _, none⟩) hl1).trans p0, (hb1.cell (p := ⟨b1, _, none⟩) hl1).trans p1, (hb1.cell (p := ⟨b1, _, none⟩) hl1).trans p2, (hb1.cell (p := ⟨b1, _, none⟩) hl1).trans p3, (hb1.cell (p := ⟨b1, _, none⟩) hl1).trans p4, (hb1.cell (p := ⟨b2, _, none⟩) hl2).trans q0, (hb1.cell (p := ⟨b2, _, none⟩) hl2).trans q1, (hb1.cell (p := ⟨b2, _, none⟩) hl2).trans q2, (hb1.cell (p := ⟨b2, _, none⟩) hl2).trans q3, (hb1.cell (p := ⟨b2, _, none⟩) hl2).trans q4⟩)
        ((go_at_call 101; refine (eqHold_c r _).mono ?_; rintro e w1 ⟨rfl, hb1⟩))
      have hb2 : Below w.heap.size w w1 := HB.out.drew.trans (hb1.mono HB.out.size)
      have HB2 := Lib.hid hb2; clear hb2 hb1
      go_wp2_with fail
      exact ⟨⟨k + 1, by omega, by go_num, HB2.out⟩, by simp [intOf]; omega⟩
    · have HB := Lib.hid hbel; clear hbel
      go_wp2
      go_ret
      exact ⟨rfl, HB.out⟩

set_option maxRecDepth 1000000 in
theorem infoHold : ∃ i, Try.prog.info? 100 = some i ∧ i.zero = some (hv ⟨0, 0, 0, 0, 0⟩) ∧ i.size = 5 ∧ i.bytes = 40 := ⟨_, rfl, rfl, rfl, rfl⟩

theorem makeHoldS (n : Nat) (hn : n ≤ 1099511627776) (W : World) : (Instr.makeSlice 29 (.int .i64 (n : Int)) (.int .i64 (n : Int))).run Try.prog W = .ok (.slice (some ⟨W.heap.size, 0, none⟩) n n) (W.alloc (.cells (madeCells (hv ⟨0, 0, 0, 0, 0⟩).cells (n * 5)) 100)) := by
  obtain ⟨i, hi, hz, hsz, hby⟩ := infoHold
  have hr := run_make (P := Try.prog) W 29 100 i (hv ⟨0, 0, 0, 0, 0⟩) Try.underlying29 hi hz .i64 .i64 n n (by omega) (by omega) (by rw [hby]; omega) (by omega)
  simp only [Int.toNat_natCast, hsz] at hr
  exact hr

set_option maxRecDepth 100000 in
set_option maxHeartbeats 2000000 in
theorem toHoldS_c (A : Option Addr) (c : Nat) (rs : List Hd) (w : World) (fp : List Nat) (hs : rs.length ≤ 1048576)
    (ha : Rd w 5 (.slice A rs.length c) (ecs hc rs) fp) :
    Calls Try.prog 56 #[.slice A rs.length c] w (CopyElts hc 5 w rs) := by
  have hmk : ∀ W : World, (Instr.makeSlice 29 (.int .i64 (rs.length : Int)) (.int .i64 (rs.length : Int))).run Try.prog W = .ok (.slice (some ⟨W.heap.size, 0, none⟩) rs.length rs.length) (W.alloc (.cells (partE hc ⟨0, 0, 0, 0, 0⟩ rs 0) 100)) := by
    intro W
    rw [makeHoldS _ (by omega), partE_zero (K := 5) (ec := hc) (z := ⟨0, 0, 0, 0, 0⟩) (.int .i64 0) (hv ⟨0, 0, 0, 0, 0⟩).cells rfl rfl (by omega)]
  have hlt0 := ha.lt
  have HL := Lib.hid hlt0; clear hlt0
  go_enter Try.func56, Try.ntmps56
  go_wp2
  clear hmk
  go_loopw [4] (fun i wr => ∃ k : Nat, k ≤ rs.length ∧ i = .int .i64 k ∧ Hid (wr.heap[w.heap.size]? = some (.cells (partE hc ⟨0, 0, 0, 0, 0⟩ rs k) 100 (0, 0))) ∧ Below w.heap.size w wr) (fun i _ => rs.length - (intOf i).toNat)
  case atStart => exact ⟨0, Nat.zero_le _, rfl, heap_new w _ rfl, (Below.refl _ _).alloc (Nat.le_refl _) _⟩
  case round =>
    obtain ⟨k, hk, rfl, hg, hbel⟩ := hrel
    have hz := heap_lt hg.out
    by_cases hlt : k < rs.length
    · obtain ⟨b1, o1, rfl, _, hl1, p0, p1, p2, p3, p4⟩ := (ha.below hbel HL.out).hold_at hlt
      generalize hr : rs[k] = r at *
      have HR := Lib.hid hr; clear hr
      have HB := Lib.hid hbel; clear hbel
      go_wp2_with fail
      refine (toHold_c r _).mono ?_
      rintro e w1 ⟨rfl, hb1⟩
      have hg1 := (hb1.block _ hz).trans hg.out
      have hz1 := heap_lt hg1
      have hcc := partE_cells hc_len (z := ⟨0, 0, 0, 0, 0⟩) (u := .int .i64 0) rfl hg1 hlt
      have c0 : w1.cell? ⟨w.heap.size, k * 5, none⟩ = some (.int .i64 0) := hcc 0 (by omega)
      have c1 : w1.cell? ⟨w.heap.size, k * 5 + 1, none⟩ = some (.int .i64 0) := hcc 1 (by omega)
      have c2 : w1.cell? ⟨w.heap.size, k * 5 + 2, none⟩ = some (.int .i64 0) := hcc 2 (by omega)
      have c3 : w1.cell? ⟨w.heap.size, k * 5 + 3, none⟩ = some (.int .i64 0) := hcc 3 (by omega)
      have c4 : w1.cell? ⟨w.heap.size, k * 5 + 4, none⟩ = some (.int .i64 0) := hcc 4 (by omega)
      have f0 : w1.frozen? ⟨w.heap.size, k * 5, none⟩ = false := frozen_of_heap hg1
      have f1 : w1.frozen? ⟨w.heap.size, k * 5 + 1, none⟩ = false := frozen_of_heap hg1
      have f2 : w1.frozen? ⟨w.heap.size, k * 5 + 2, none⟩ = false := frozen_of_heap hg1
      have f3 : w1.frozen? ⟨w.heap.size, k * 5 + 3, none⟩ = false := frozen_of_heap hg1
      have f4 : w1.frozen? ⟨w.heap.size, k * 5 + 4, none⟩ = false := frozen_of_heap hg1
      have HG1 := Lib.hid hg1
      have hb2 : Below w.heap.size w w1 := HB.out.trans (hb1.mono HB.out.size)
      have HB2 := Lib.hid hb2
      clear hcc hg1 hg p0 p1 p2 p3 p4 hb1 hb2
      go_wp2_with fail
      refine ⟨⟨k + 1, by omega, by go_num, ?_, ?_⟩, by simp [intOf]; omega⟩
      · have e := heap_set1 (i := k * 5 + 4) (v := .int .i64 r.un) (heap_set1 (i := k * 5 + 3) (v := .int .i64 r.qt) (heap_set1 (i := k * 5 + 2) (v := .int .i64 r.sk) (heap_set1 (i := k * 5 + 1) (v := .int .i64 r.lc) (heap_set1 (i := k * 5) (v := .int .i64 r.id) (HG1.out)))))
        have st := partE_step hc_len ⟨0, 0, 0, 0, 0⟩ rs k hlt
        rw [HR.out] at st
        rw [← st]
        exact e
      · exact (((((HB2.out.setCell (Nat.le_refl _) _).setCell (Nat.le_refl _) _).setCell (Nat.le_refl _) _).setCell (Nat.le_refl _) _).setCell (Nat.le_refl _) _)
    · obtain rfl : k = rs.length := by omega
      have HB := Lib.hid hbel; clear hbel
      have hg' := hg.out
      rw [partE_full] at hg'
      have HG := Lib.hid hg'; clear hg' hg
      go_wp2
      go_ret
      obtain ⟨fq, h1, h2, h3⟩ := Rd.fresh (w := w) (w' := wr) (n := rs.length) (size := 5) (by unfold maxLen; omega) (ecs_length hc_len rs) HG.out (Nat.le_refl _)
      exact ⟨_, _, fq, rfl, h1, h2, h3, HB.out⟩

theorem szHoldS_c (A : Option Addr) (n c : Nat) (q : Int) (w : World) (hn : n ≤ 9223372036854775807) (hq : 0 ≤ q) (hq2 : q ≤ 1048576) :
    Calls Try.prog 53 #[.slice A n c, .int .i64 q] w fun e w' => e = .returned (.int .i64 (if q < n then -1 else q - n)) ∧ w = w' := by
  by_cases h : q < n
  · rw [if_pos h]
    have h1 : q - (n : Int) < 0 := by omega
    go_enter Try.func53, Try.ntmps53
    go_wp2
    go_ret
    exact ⟨rfl, rfl⟩
  · rw [if_neg h]
    have h1 : ¬ (q - (n : Int) < 0) := by omega
    go_enter Try.func53, Try.ntmps53
    go_wp2
    go_ret
    exact ⟨rfl, rfl⟩
end Go.Proofs.Ytfohlopbfanaeaa
