/-
  Contracts of the laws' helpers over Seens (2 integers each), by a maker.
-/
import Derived.Test.YtfohlopbfanaeaaProg
import Derived.Test.YtfohlopbfanaeaaElts
import Derived.Test.YtfohlopbfanaeaaSeen2
import Derived.WalkSpells
import Derived.Laws.MakeOwn
import Derived.RegionTactic
import Derived.Deep.QuietTactic
import Derived.BigQuiet
import Derived.IntWalk
import Derived.Deep.RegionHeld3
namespace Go.Proofs.Ytfohlopbfanaeaa
open Go.RowKit

/-- The k-th Seen of a slice lies there. -/
theorem Rd.seen_at {w : World} {l : List Sn} {fp : List Nat} {A : Option Addr} {c k : Nat} (h : Rd w 2 (.slice A l.length c) (ecs sc l) fp) (hk : k < l.length) :
    ∃ b off, A = some ⟨b, off, none⟩ ∧ fp = [b] ∧ b < w.heap.size ∧ w.cell? ⟨b, off + k * 2, none⟩ = some (.int .i64 l[k].rq) ∧ w.cell? ⟨b, off + k * 2 + 1, none⟩ = some (.int .i64 l[k].vl) := by
  obtain ⟨b, off, h1, h2, h3, h4⟩ := h.elt_at sc_len hk
  exact ⟨b, off, h1, h2, h3, h4 0 _ (by omega) rfl, h4 1 _ (by omega) rfl⟩

set_option maxRecDepth 100000 in
set_option maxHeartbeats 1000000 in
theorem toSeen_c (r : Sn) (w : World) :
    Calls Try.prog 39 #[sv r] w fun e w' => e = .returned (sv r) ∧ Below w.heap.size w w' := by
  go_enter Try.func39, Try.ntmps39
  go_wp2
  refine bodyPost_ret (v := sv r) (by simp [results, Try.results39, go_sem]) rfl ⟨rfl, ?_⟩
  exact (((Below.refl _ _).alloc (Nat.le_refl _) _).alloc (by simp) _).alloc (by simp; omega) _

set_option maxRecDepth 100000 in
set_option maxHeartbeats 1000000 in
theorem eqSeen_c (r : Sn) (w : World) :
    Calls Try.prog 73 #[sv r, sv r] w fun e w' => e = .returned (.bool true) ∧ Below w.heap.size w w' := by
  go_enter Try.func73, Try.ntmps73
  go_wp2
  go_ret
  exact ⟨rfl, ((Below.refl _ _).alloc (Nat.le_refl _) _).alloc (by simp) _⟩

set_option maxRecDepth 100000 in
set_option maxHeartbeats 2000000 in
theorem eqSeenS_c (A B : Option Addr) (c d : Nat) (rs : List Sn) (w : World) (fp fq : List Nat)
    (ha : Rd w 2 (.slice A rs.length c) (ecs sc rs) fp) (hb : Rd w 2 (.slice B rs.length d) (ecs sc rs) fq) :
    Calls Try.prog 32 #[.slice A rs.length c, .slice B rs.length d] w fun e w' => e = .returned (.bool true) ∧ Below w.heap.size w w' := by
  have hmax := ha.len_le
  go_enter Try.func32, Try.ntmps32
  go_wp2
  go_loopw [5] (fun i wr => ∃ k : Nat, k ≤ rs.length ∧ i = .int .i64 k ∧ Below w.heap.size w wr) (fun i _ => rs.length - (intOf i).toNat)
  case atStart => exact ⟨0, Nat.zero_le _, rfl, Below.refl _ _⟩
  case round =>
    obtain ⟨k, hk, rfl, hbel⟩ := hrel
    by_cases hlt : k < rs.length
    · obtain ⟨b1, o1, rfl, _, hl1, p0, p1⟩ := (ha.below' hbel).seen_at hlt
      obtain ⟨b2, o2, rfl, _, hl2, q0, q1⟩ := (hb.below' hbel).seen_at hlt
      generalize rs[k] = r at *
      clear ha hb
      have hi0 : (0 : Int) ≤ (k : Int) := by omega
      have hi1 : (k : Int) < (rs.length : Int) := by omega
      have HB := Lib.hid hbel; clear hbel
      go_wp2_with fail
      go_region_held3 (fun w' => w'.cell? ⟨b1, o1 + k * 2, none⟩ = some (.int .i64 r.rq) ∧ w'.cell? ⟨b1, o1 + k * 2 + 1, none⟩ = some (.int .i64 r.vl) ∧
          w'.cell? ⟨b2, o2 + k * 2, none⟩ = some (.int .i64 r.rq) ∧ w'.cell? ⟨b2, o2 + k * 2 + 1, none⟩ = some (.int .i64 r.vl))
        (first
          | go_keep
          | exact ⟨(hb1.cell (p := ⟨b1, _, none⟩) hl1).trans p0, (hb1.cell (p := ⟨b1, _, none⟩) hl1).trans p1, (hb1.cell (p := ⟨b2, _, none⟩) hl2).trans q0, (hb1.cell (p := ⟨b2, _, none⟩) hl2).trans q1⟩)
        ((go_at_call 73; refine (eqSeen_c r _).mono ?_; rintro e w1 ⟨rfl, hb1⟩))
      have hb2 : Below w.heap.size w w1 := HB.out.drew.trans (hb1.mono HB.out.size)
      have HB2 := Lib.hid hb2; clear hb2 hb1
      go_wp2_with fail
      exact ⟨⟨k + 1, by omega, by go_num, HB2.out⟩, by simp [intOf]; omega⟩
    · have HB := Lib.hid hbel; clear hbel
      go_wp2
      go_ret
      exact ⟨rfl, HB.out⟩

set_option maxRecDepth 1000000 in
theorem infoSeen : ∃ i, Try.prog.info? 64 = some i ∧ i.zero = some (sv ⟨0, 0⟩) ∧ i.size = 2 ∧ i.bytes = 16 := ⟨_, rfl, rfl, rfl, rfl⟩

theorem makeSeenS (n : Nat) (hn : n ≤ 1099511627776) (W : World) : (Instr.makeSlice 46 (.int .i64 (n : Int)) (.int .i64 (n : Int))).run Try.prog W = .ok (.slice (some ⟨W.heap.size, 0, none⟩) n n) (W.alloc (.cells (madeCells (sv ⟨0, 0⟩).cells (n * 2)) 64)) := by
  obtain ⟨i, hi, hz, hsz, hby⟩ := infoSeen
  have hr := run_make (P := Try.prog) W 46 64 i (sv ⟨0, 0⟩) Try.underlying46 hi hz .i64 .i64 n n (by omega) (by omega) (by rw [hby]; omega) (by omega)
  simp only [Int.toNat_natCast, hsz] at hr
  exact hr

set_option maxRecDepth 100000 in
set_option maxHeartbeats 2000000 in
theorem toSeenS_c (A : Option Addr) (c : Nat) (rs : List Sn) (w : World) (fp : List Nat) (hs : rs.length ≤ 1048576)
    (ha : Rd w 2 (.slice A rs.length c) (ecs sc rs) fp) :
    Calls Try.prog 30 #[.slice A rs.length c] w (CopyElts sc 2 w rs) := by
  have hmk : ∀ W : World, (Instr.makeSlice 46 (.int .i64 (rs.length : Int)) (.int .i64 (rs.length : Int))).run Try.prog W = .ok (.slice (some ⟨W.heap.size, 0, none⟩) rs.length rs.length) (W.alloc (.cells (partE sc ⟨0, 0⟩ rs 0) 64)) := by
    intro W
    rw [makeSeenS _ (by omega), partE_zero (K := 2) (ec := sc) (z := ⟨0, 0⟩) (.int .i64 0) (sv ⟨0, 0⟩).cells rfl rfl (by omega)]
  have hlt0 := ha.lt
  have HL := Lib.hid hlt0; clear hlt0
  go_enter Try.func30, Try.ntmps30
  go_wp2
  clear hmk
  go_loopw [4] (fun i wr => ∃ k : Nat, k ≤ rs.length ∧ i = .int .i64 k ∧ Hid (wr.heap[w.heap.size]? = some (.cells (partE sc ⟨0, 0⟩ rs k) 64 (0, 0))) ∧ Below w.heap.size w wr) (fun i _ => rs.length - (intOf i).toNat)
  case atStart => exact ⟨0, Nat.zero_le _, rfl, heap_new w _ rfl, (Below.refl _ _).alloc (Nat.le_refl _) _⟩
  case round =>
    obtain ⟨k, hk, rfl, hg, hbel⟩ := hrel
    have hz := heap_lt hg.out
    by_cases hlt : k < rs.length
    · obtain ⟨b1, o1, rfl, _, hl1, p0, p1⟩ := (ha.below hbel HL.out).seen_at hlt
      generalize hr : rs[k] = r at *
      have HR := Lib.hid hr; clear hr
      have HB := Lib.hid hbel; clear hbel
      go_wp2_with fail
      refine (toSeen_c r _).mono ?_
      rintro e w1 ⟨rfl, hb1⟩
      have hg1 := (hb1.block _ hz).trans hg.out
      have hz1 := heap_lt hg1
      have hcc := partE_cells sc_len (z := ⟨0, 0⟩) (u := .int .i64 0) rfl hg1 hlt
      have c0 : w1.cell? ⟨w.heap.size, k * 2, none⟩ = some (.int .i64 0) := hcc 0 (by omega)
      have c1 : w1.cell? ⟨w.heap.size, k * 2 + 1, none⟩ = some (.int .i64 0) := hcc 1 (by omega)
      have f0 : w1.frozen? ⟨w.heap.size, k * 2, none⟩ = false := frozen_of_heap hg1
      have f1 : w1.frozen? ⟨w.heap.size, k * 2 + 1, none⟩ = false := frozen_of_heap hg1
      have HG1 := Lib.hid hg1
      have hb2 : Below w.heap.size w w1 := HB.out.trans (hb1.mono HB.out.size)
      have HB2 := Lib.hid hb2
      clear hcc hg1 hg p0 p1 hb1 hb2
      go_wp2_with fail
      refine ⟨⟨k + 1, by omega, by go_num, ?_, ?_⟩, by simp [intOf]; omega⟩
      · have e := heap_set1 (i := k * 2 + 1) (v := .int .i64 r.vl) (heap_set1 (i := k * 2) (v := .int .i64 r.rq) (HG1.out))
        have st := partE_step sc_len ⟨0, 0⟩ rs k hlt
        rw [HR.out] at st
        rw [← st]
        exact e
      · exact ((HB2.out.setCell (Nat.le_refl _) _).setCell (Nat.le_refl _) _)
    · obtain rfl : k = rs.length := by omega
      have HB := Lib.hid hbel; clear hbel
      have hg' := hg.out
      rw [partE_full] at hg'
      have HG := Lib.hid hg'; clear hg' hg
      go_wp2
      go_ret
      obtain ⟨fq, h1, h2, h3⟩ := Rd.fresh (w := w) (w' := wr) (n := rs.length) (size := 2) (by unfold maxLen; omega) (ecs_length sc_len rs) HG.out (Nat.le_refl _)
      exact ⟨_, _, fq, rfl, h1, h2, h3, HB.out⟩

set_option maxRecDepth 100000 in
set_option maxHeartbeats 2000000 in
theorem markSeenS_c (A : Option Addr) (c n : Nat) (xs : List Value) (q : Int) (w : World) (fp : List Nat) (hq : 0 ≤ q) (hn : n ≤ 1099511627776) (hq2 : q ≤ 1099511627776)
    (ha : Rd w 2 (.slice A n c) xs fp) (hnf : NF w fp) :
    Calls Try.prog 42 #[.slice A n c, .int .i64 q] w fun e w' => e = .returned (.int .i64 (q + (n * 2 : Nat))) ∧ But fp w w' ∧ w'.heap.size = w.heap.size ∧ Rd w' 2 (.slice A n c) (cellsOf .i64 (marks (fun x => x) q (n * 2))) fp ∧ NF w' fp := by
  have hmax := ha.len_le
  obtain ⟨A', n', c', e, h1, h2, h2', h3⟩ := ha
  injection e with e1 e2 e3
  subst e1 e2 e3
  rcases h3 with ⟨rfl, rfl⟩ | ⟨b, off, rfl, rfl, hlt, hc⟩
  · go_enter Try.func42, Try.ntmps42
    go_wp2
    refine wp_loop_rounds 1 ?_
    rw [rounds_succ]
    go_wp2
    go_ret
    exact ⟨by simp, But.refl _ _, rfl, ⟨_, _, _, rfl, by simp [marks], by omega, h2', .inl ⟨rfl, rfl⟩⟩, hnf⟩
  · have hx : ∀ i, i < n * 2 → w.cell? ⟨b, off + i, none⟩ = some (xs.getD i default) := by
      intro i hi
      refine hc i _ ?_
      rw [List.getD_eq_getElem?_getD, List.getElem?_eq_getElem (by omega)]
      rfl
    clear hc
    have HX := Lib.hid hx; clear hx
    have HN := Lib.hid hnf; clear hnf
    go_enter Try.func42, Try.ntmps42
    go_wp2
    go_loopw [1, 5] (fun s i wr => ∃ k : Nat, k ≤ n ∧ i = .int .i64 k ∧ s = .int .i64 (q + (k * 2 : Nat)) ∧ But [b] w wr ∧ wr.heap.size = w.heap.size ∧ Hid (∀ x, wr.frozen? x = w.frozen? x) ∧ Hid (∀ j, j < n * 2 → wr.cell? ⟨b, off + j, none⟩ = some (if j < k * 2 then .int .i64 ((fun x => x) (q + j)) else xs.getD j default))) (fun _ i _ => n - (intOf i).toNat)
    case atStart => exact ⟨0, Nat.zero_le _, rfl, by simp, But.refl _ _, rfl, fun _ => rfl, fun j hj => by simpa using HX.out j hj⟩
    case round =>
      obtain ⟨k, hk, rfl, rfl, hbut, hsz, hfz, hcl⟩ := hrel
      have HSZ := Lib.hid hsz; clear hsz
      by_cases hlt2 : k < n
      · have hk4 : k * 2 + 1 < n * 2 := by omega
        have t1 := mark_step (f := fun x => x) (k := k * 2) (by omega) hcl.out
        have t2 := mark_step (f := fun x => x) (k := k * 2 + 1) (by omega) t1
        have ck0 : wr.cell? ⟨b, off + k * 2, none⟩ = some (xs.getD (k * 2) default) := by have := hcl.out (k * 2) (by omega); rwa [if_neg (by omega)] at this
        have ck1 : wr.cell? ⟨b, off + k * 2 + 1, none⟩ = some (xs.getD (k * 2 + 1) default) := by have := hcl.out (k * 2 + 1) (by omega); rwa [if_neg (by omega)] at this
        have fk : ∀ i, wr.frozen? ⟨b, i, none⟩ = false := fun i => (hfz.out _).trans (HN.out b (by simp) _)
        have f0 := fk (off + k * 2); have f1 := fk (off + k * 2 + 1)
        have v0 : q + ((k * 2 : Nat) : Int) = q + (k : Int) * 2 := by omega
        have v1 : q + ((k * 2 + 1 : Nat) : Int) = q + (k : Int) * 2 + 1 := by omega
        have e4 : k * 2 + 1 + 1 = (k + 1) * 2 := by omega
        simp only [v0, v1, e4] at t2
        clear v0 v1 e4
        have T4 := Lib.hid t2
        have hq3 : (k : Int) * 2 ≤ 2199023255552 := by omega
        clear t1 t2 fk
        go_wp2_with fail
        refine ⟨⟨k + 1, by omega, by go_num, by congr 1; omega, ((hbut.setCell (by simp) _).setCell (by simp) _), by simpa [World.setCell] using HSZ.out, fun x => ?_, ?_⟩, by simp [intOf]; omega⟩
        · rw [World.frozen?_setCell, World.frozen?_setCell]; exact hfz.out x
        · exact T4.out
      · obtain rfl : k = n := by omega
        go_wp2
        go_ret
        exact ⟨rfl, hbut, HSZ.out, markE_done h2 h2' (by rw [HSZ.out]; exact hlt) hcl.out, fun x hx i => (hfz.out _).trans (HN.out x hx i)⟩

set_option maxRecDepth 100000 in
set_option maxHeartbeats 2000000 in
theorem heldSeenS_c (A : Option Addr) (c n : Nat) (q : Int) (w : World) (fp : List Nat) (hq : 0 ≤ q) (hn : n ≤ 1099511627776) (hq2 : q ≤ 1099511627776)
    (ha : Rd w 2 (.slice A n c) (cellsOf .i64 (marks (fun x => x) q (n * 2))) fp) :
    Calls Try.prog 81 #[.slice A n c, .int .i64 q] w fun e w' => e = .returned (.int .i64 (q + (n * 2 : Nat))) ∧ w = w' := by
  have hmax := ha.len_le
  go_enter Try.func81, Try.ntmps81
  go_wp2
  go_loop [1, 5] (fun s i => ∃ k : Nat, k ≤ n ∧ i = .int .i64 k ∧ s = .int .i64 (q + (k * 2 : Nat))) (fun _ i => n - (intOf i).toNat)
  case atStart => exact ⟨0, Nat.zero_le _, rfl, by simp⟩
  case round =>
    obtain ⟨k, hk, rfl, rfl⟩ := hrel
    by_cases hlt2 : k < n
    · obtain ⟨b, off, rfl, _, _, hc⟩ := ha.marksE_at hlt2
      have c0 : w.cell? ⟨b, off + k * 2, none⟩ = some (.int .i64 (q + (k : Int) * 2)) := (hc 0 (by omega)).trans (by congr 2)
      have c1 : w.cell? ⟨b, off + k * 2 + 1, none⟩ = some (.int .i64 (q + (k : Int) * 2 + 1)) := (hc 1 (by omega)).trans (by congr 2; omega)
      have hq3 : (k : Int) * 2 ≤ 2199023255552 := by omega
      clear ha hc
      go_wp2_with fail
      exact ⟨⟨k + 1, by omega, by go_num, by congr 1; omega⟩, by simp [intOf]; omega⟩
    · obtain rfl : k = n := by omega
      go_wp2
      go_ret
      exact ⟨by simp, rfl⟩

theorem szSeenS_c (A : Option Addr) (n c : Nat) (q : Int) (w : World) (hn : n ≤ 9223372036854775807) (hq : 0 ≤ q) (hq2 : q ≤ 1048576) :
    Calls Try.prog 28 #[.slice A n c, .int .i64 q] w fun e w' => e = .returned (.int .i64 (if q < n then -1 else q - n)) ∧ w = w' := by
  by_cases h : q < n
  · rw [if_pos h]
    have h1 : q - (n : Int) < 0 := by omega
    go_enter Try.func28, Try.ntmps28
    go_wp2
    go_ret
    exact ⟨rfl, rfl⟩
  · rw [if_neg h]
    have h1 : ¬ (q - (n : Int) < 0) := by omega
    go_enter Try.func28, Try.ntmps28
    go_wp2
    go_ret
    exact ⟨rfl, rfl⟩
end Go.Proofs.Ytfohlopbfanaeaa
