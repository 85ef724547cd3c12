/-
  Contracts of the laws' helpers over rows.
-/
import Derived.Test.YthmmjkpgepffeaaProg
import Derived.Test.YthmmjkpgepffeaaRows4
import Derived.WalkSpells
import Derived.Laws.MakeOwn
import Derived.RegionTactic
import Derived.Deep.QuietTactic
import Derived.BigQuiet
import Derived.IntWalk
import Derived.Deep.RegionHeld3
namespace Go.Proofs.Ythmmjkpgepffeaa
open Go.RowKit

theorem toRow_c (r : R) (w : World) :
    Calls Try.prog 35 #[rv r] w fun e w' => e = .returned (rv r) ∧ Below w.heap.size w w' := by
  go_enter Try.func35, Try.ntmps35
  go_wp2
  refine bodyPost_ret (v := rv r) (by simp [results, Try.results35, go_sem]) rfl ⟨rfl, ?_⟩
  exact (((Below.refl _ _).alloc (Nat.le_refl _) _).alloc (by simp) _).alloc (by simp; omega) _

theorem eqRow_c (r : R) (w : World) :
    Calls Try.prog 70 #[rv r, rv r] w fun e w' => e = .returned (.bool true) ∧ Below w.heap.size w w' := by
  go_enter Try.func70, Try.ntmps70
  go_wp2
  go_ret
  exact ⟨rfl, ((Below.refl _ _).alloc (Nat.le_refl _) _).alloc (by simp) _⟩

set_option maxRecDepth 100000 in
set_option maxHeartbeats 2000000 in
theorem eqRowS_c (A B : Option Addr) (c d : Nat) (rs : List R) (w : World) (fp fq : List Nat)
    (ha : Rd w 4 (.slice A rs.length c) (rcs rs) fp) (hb : Rd w 4 (.slice B rs.length d) (rcs rs) fq) :
    Calls Try.prog 38 #[.slice A rs.length c, .slice B rs.length d] w fun e w' => e = .returned (.bool true) ∧ Below w.heap.size w w' := by
  have hmax := ha.len_le
  go_enter Try.func38, Try.ntmps38
  go_wp2
  go_loopw [5] (fun i wr => ∃ k : Nat, k ≤ rs.length ∧ i = .int .i64 k ∧ Below w.heap.size w wr) (fun i _ => rs.length - (intOf i).toNat)
  case atStart => exact ⟨0, Nat.zero_le _, rfl, Below.refl _ _⟩
  case round =>
    obtain ⟨k, hk, rfl, hbel⟩ := hrel
    by_cases hlt : k < rs.length
    · obtain ⟨b1, o1, rfl, _, hl1, p0, p1, p2, p3⟩ := (ha.below' hbel).row_at hlt
      obtain ⟨b2, o2, rfl, _, hl2, q0, q1, q2, q3⟩ := (hb.below' hbel).row_at hlt
      generalize rs[k] = r at *
      clear ha hb
      have hi0 : (0 : Int) ≤ (k : Int) := by omega
      have hi1 : (k : Int) < (rs.length : Int) := by omega
      have HB := Lib.hid hbel; clear hbel
      go_wp2_with fail
      go_region_held3 (fun w' => w'.cell? ⟨b1, o1 + k * 4, none⟩ = some (.int .i64 r.1) ∧ w'.cell? ⟨b1, o1 + k * 4 + 1, none⟩ = some (.int .i64 r.2.1) ∧ w'.cell? ⟨b1, o1 + k * 4 + 2, none⟩ = some (.int .i64 r.2.2.1) ∧ w'.cell? ⟨b1, o1 + k * 4 + 3, none⟩ = some (.int .i64 r.2.2.2) ∧
          w'.cell? ⟨b2, o2 + k * 4, none⟩ = some (.int .i64 r.1) ∧ w'.cell? ⟨b2, o2 + k * 4 + 1, none⟩ = some (.int .i64 r.2.1) ∧ w'.cell? ⟨b2, o2 + k * 4 + 2, none⟩ = some (.int .i64 r.2.2.1) ∧ w'.cell? ⟨b2, o2 + k * 4 + 3, none⟩ = some (.int .i64 r.2.2.2))
        (first
          | go_keep
          | exact ⟨(hb1.cell (p := ⟨b1, _, none⟩) hl1).trans p0, (hb1.cell (p := ⟨b1, _, none⟩) hl1).trans p1, (hb1.cell (p := ⟨b1, _, none⟩) hl1).trans p2, (hb1.cell (p := ⟨b1, _, none⟩) hl1).trans p3,
              (hb1.cell (p := ⟨b2, _, none⟩) hl2).trans q0, (hb1.cell (p := ⟨b2, _, none⟩) hl2).trans q1, (hb1.cell (p := ⟨b2, _, none⟩) hl2).trans q2, (hb1.cell (p := ⟨b2, _, none⟩) hl2).trans q3⟩)
        ((go_at_call 70; refine (eqRow_c r _).mono ?_; rintro e w1 ⟨rfl, hb1⟩))
      have hb2 : Below w.heap.size w w1 := HB.out.drew.trans (hb1.mono HB.out.size)
      have HB2 := Lib.hid hb2; clear hb2 hb1
      go_wp2_with fail
      exact ⟨⟨k + 1, by omega, by go_num, HB2.out⟩, by simp [intOf]; omega⟩
    · have HB := Lib.hid hbel; clear hbel
      go_wp2
      go_ret
      exact ⟨rfl, HB.out⟩

set_option maxRecDepth 1000000 in
theorem infoRow : ∃ i, Try.prog.info? 26 = some i ∧ i.zero = some (rv (0, 0, 0, 0)) ∧ i.size = 4 ∧ i.bytes = 32 := ⟨_, rfl, rfl, rfl, rfl⟩

theorem makeRowS (n : Nat) (hn : n ≤ 1099511627776) (W : World) : (Instr.makeSlice 24 (.int .i64 (n : Int)) (.int .i64 (n : Int))).run Try.prog W = .ok (.slice (some ⟨W.heap.size, 0, none⟩) n n) (W.alloc (.cells (madeCells (rv (0, 0, 0, 0)).cells (n * 4)) 26)) := by
  obtain ⟨i, hi, hz, hsz, hby⟩ := infoRow
  have hr := run_make (P := Try.prog) W 24 26 i (rv (0, 0, 0, 0)) Try.underlying24 hi hz .i64 .i64 n n (by omega) (by omega) (by rw [hby]; omega) (by omega)
  simp only [Int.toNat_natCast, hsz] at hr
  exact hr

set_option maxRecDepth 100000 in
set_option maxHeartbeats 2000000 in
theorem toRowS_c (A : Option Addr) (c : Nat) (rs : List R) (w : World) (fp : List Nat) (hs : rs.length ≤ 1048576)
    (ha : Rd w 4 (.slice A rs.length c) (rcs rs) fp) :
    Calls Try.prog 37 #[.slice A rs.length c] w (CopyRows w rs) := by
  have hmk : ∀ W : World, (Instr.makeSlice 24 (.int .i64 (rs.length : Int)) (.int .i64 (rs.length : Int))).run Try.prog W = .ok (.slice (some ⟨W.heap.size, 0, none⟩) rs.length rs.length) (W.alloc (.cells (partR rs 0) 26)) := by
    intro W
    rw [makeRowS _ (by omega), partR_zero]
  have hlt0 := ha.lt
  have HL := Lib.hid hlt0; clear hlt0
  go_enter Try.func37, Try.ntmps37
  go_wp2
  clear hmk
  go_loopw [4] (fun i wr => ∃ k : Nat, k ≤ rs.length ∧ i = .int .i64 k ∧ Hid (wr.heap[w.heap.size]? = some (.cells (partR rs k) 26 (0, 0))) ∧ Below w.heap.size w wr) (fun i _ => rs.length - (intOf i).toNat)
  case atStart => exact ⟨0, Nat.zero_le _, rfl, heap_new w _ rfl, (Below.refl _ _).alloc (Nat.le_refl _) _⟩
  case round =>
    obtain ⟨k, hk, rfl, hg, hbel⟩ := hrel
    have hz := heap_lt hg.out
    by_cases hlt : k < rs.length
    · obtain ⟨b1, o1, rfl, _, hl1, p0, p1, p2, p3⟩ := (ha.below hbel HL.out).row_at hlt
      generalize hr : rs[k] = r at *
      have HR := Lib.hid hr; clear hr
      have HB := Lib.hid hbel; clear hbel
      go_wp2_with fail
      refine (toRow_c r _).mono ?_
      rintro e w1 ⟨rfl, hb1⟩
      have hg1 := (hb1.block _ hz).trans hg.out
      have hz1 := heap_lt hg1
      obtain ⟨c0, c1, c2, c3⟩ := partR_cells hg1 hlt
      have f0 : w1.frozen? ⟨w.heap.size, k * 4, none⟩ = false := frozen_of_heap hg1
      have f1 : w1.frozen? ⟨w.heap.size, k * 4 + 1, none⟩ = false := frozen_of_heap hg1
      have f2 : w1.frozen? ⟨w.heap.size, k * 4 + 2, none⟩ = false := frozen_of_heap hg1
      have f3 : w1.frozen? ⟨w.heap.size, k * 4 + 3, none⟩ = false := frozen_of_heap hg1
      have HG1 := Lib.hid hg1
      have hb2 : Below w.heap.size w w1 := HB.out.trans (hb1.mono HB.out.size)
      have HB2 := Lib.hid hb2
      clear hg1 hg p0 p1 p2 p3 hb1 hb2
      go_wp2_with fail
      refine ⟨⟨k + 1, by omega, by go_num, ?_, ?_⟩, by simp [intOf]; omega⟩
      · have e := heap_set4 (i0 := k * 4) (i1 := k * 4 + 1) (i2 := k * 4 + 2) (i3 := k * 4 + 3) (a := .int .i64 r.1) (b := .int .i64 r.2.1) (c := .int .i64 r.2.2.1) (d := .int .i64 r.2.2.2) HG1.out
        rw [← HR.out] at e ⊢
        rw [partR_step rs k hlt] at e
        exact e
      · exact (((HB2.out.setCell (Nat.le_refl _) _).setCell (Nat.le_refl _) _).setCell (Nat.le_refl _) _).setCell (Nat.le_refl _) _
    · obtain rfl : k = rs.length := by omega
      have HB := Lib.hid hbel; clear hbel
      have hg' := hg.out
      rw [partR_full] at hg'
      have HG := Lib.hid hg'; clear hg' hg
      go_wp2
      go_ret
      obtain ⟨fq, h1, h2, h3⟩ := Rd.fresh (w := w) (w' := wr) (n := rs.length) (size := 4) (by unfold maxLen; omega) (rcs_length rs) HG.out (Nat.le_refl _)
      exact ⟨_, _, fq, rfl, h1, h2, h3, HB.out⟩

set_option maxRecDepth 100000 in
set_option maxHeartbeats 2000000 in
theorem markRowS_c (A : Option Addr) (c n : Nat) (xs : List Value) (q : Int) (w : World) (fp : List Nat) (hq : 0 ≤ q) (hn : n ≤ 1099511627776) (hq2 : q ≤ 1099511627776)
    (ha : Rd w 4 (.slice A n c) xs fp) (hnf : NF w fp) :
    Calls Try.prog 41 #[.slice A n c, .int .i64 q] w fun e w' => e = .returned (.int .i64 (q + (n * 4 : Nat))) ∧ But fp w w' ∧ w'.heap.size = w.heap.size ∧ Rd w' 4 (.slice A n c) (cellsOf .i64 (marks (fun x => x) q (n * 4))) fp ∧ NF w' fp := by
  have hmax := ha.len_le
  obtain ⟨A', n', c', e, h1, h2, h2', h3⟩ := ha
  injection e with e1 e2 e3
  subst e1 e2 e3
  rcases h3 with ⟨rfl, rfl⟩ | ⟨b, off, rfl, rfl, hlt, hc⟩
  · go_enter Try.func41, Try.ntmps41
    go_wp2
    refine wp_loop_rounds 1 ?_
    rw [rounds_succ]
    go_wp2
    go_ret
    exact ⟨by simp, But.refl _ _, rfl, ⟨_, _, _, rfl, by simp [marks], by omega, h2', .inl ⟨rfl, rfl⟩⟩, hnf⟩
  · have hx : ∀ i, i < n * 4 → w.cell? ⟨b, off + i, none⟩ = some (xs.getD i default) := by
      intro i hi
      refine hc i _ ?_
      rw [List.getD_eq_getElem?_getD, List.getElem?_eq_getElem (by omega)]
      rfl
    clear hc
    have HX := Lib.hid hx; clear hx
    have HN := Lib.hid hnf; clear hnf
    go_enter Try.func41, Try.ntmps41
    go_wp2
    go_loopw [1, 5] (fun s i wr => ∃ k : Nat, k ≤ n ∧ i = .int .i64 k ∧ s = .int .i64 (q + (k * 4 : Nat)) ∧ But [b] w wr ∧ wr.heap.size = w.heap.size ∧ Hid (∀ x, wr.frozen? x = w.frozen? x) ∧ Hid (∀ j, j < n * 4 → wr.cell? ⟨b, off + j, none⟩ = some (if j < k * 4 then .int .i64 ((fun x => x) (q + j)) else xs.getD j default))) (fun _ i _ => n - (intOf i).toNat)
    case atStart => exact ⟨0, Nat.zero_le _, rfl, by simp, But.refl _ _, rfl, fun _ => rfl, fun j hj => by simpa using HX.out j hj⟩
    case round =>
      obtain ⟨k, hk, rfl, rfl, hbut, hsz, hfz, hcl⟩ := hrel
      have HSZ := Lib.hid hsz; clear hsz
      by_cases hlt2 : k < n
      · have hk4 : k * 4 + 3 < n * 4 := by omega
        have t1 := mark_step (f := fun x => x) (k := k * 4) (by omega) hcl.out
        have t2 := mark_step (f := fun x => x) (k := k * 4 + 1) (by omega) t1
        have t3 := mark_step (f := fun x => x) (k := k * 4 + 2) (by omega) t2
        have t4 := mark_step (f := fun x => x) (k := k * 4 + 3) (by omega) t3
        have ck0 : wr.cell? ⟨b, off + k * 4, none⟩ = some (xs.getD (k * 4) default) := by have := hcl.out (k * 4) (by omega); rwa [if_neg (by omega)] at this
        have ck1 : wr.cell? ⟨b, off + k * 4 + 1, none⟩ = some (xs.getD (k * 4 + 1) default) := by have := hcl.out (k * 4 + 1) (by omega); rwa [if_neg (by omega)] at this
        have ck2 : wr.cell? ⟨b, off + k * 4 + 2, none⟩ = some (xs.getD (k * 4 + 2) default) := by have := hcl.out (k * 4 + 2) (by omega); rwa [if_neg (by omega)] at this
        have ck3 : wr.cell? ⟨b, off + k * 4 + 3, none⟩ = some (xs.getD (k * 4 + 3) default) := by have := hcl.out (k * 4 + 3) (by omega); rwa [if_neg (by omega)] at this
        have fk : ∀ i, wr.frozen? ⟨b, i, none⟩ = false := fun i => (hfz.out _).trans (HN.out b (by simp) _)
        have f0 := fk (off + k * 4); have f1 := fk (off + k * 4 + 1); have f2 := fk (off + k * 4 + 2); have f3 := fk (off + k * 4 + 3)
        have v0 : q + ((k * 4 : Nat) : Int) = q + (k : Int) * 4 := by omega
        have v1 : q + ((k * 4 + 1 : Nat) : Int) = q + (k : Int) * 4 + 1 := by omega
        have v2 : q + ((k * 4 + 2 : Nat) : Int) = q + (k : Int) * 4 + 1 + 1 := by omega
        have v3 : q + ((k * 4 + 3 : Nat) : Int) = q + (k : Int) * 4 + 1 + 1 + 1 := by omega
        have e4 : k * 4 + 3 + 1 = (k + 1) * 4 := by omega
        simp only [v0, v1, v2, v3, e4] at t4
        clear v0 v1 v2 v3 e4
        have T4 := Lib.hid t4
        have hq3 : (k : Int) * 4 ≤ 4398046511104 := by omega
        clear t1 t2 t3 t4 fk
        go_wp2_with fail
        refine ⟨⟨k + 1, by omega, by go_num, by congr 1; omega, (((hbut.setCell (by simp) _).setCell (by simp) _).setCell (by simp) _).setCell (by simp) _, by simpa [World.setCell] using HSZ.out, fun x => ?_, ?_⟩, by simp [intOf]; omega⟩
        · rw [World.frozen?_setCell, World.frozen?_setCell, World.frozen?_setCell, World.frozen?_setCell]; exact hfz.out x
        · exact T4.out
      · obtain rfl : k = n := by omega
        go_wp2
        go_ret
        exact ⟨rfl, hbut, HSZ.out, markR_done h2 h2' (by rw [HSZ.out]; exact hlt) hcl.out, fun x hx i => (hfz.out _).trans (HN.out x hx i)⟩

set_option maxRecDepth 100000 in
set_option maxHeartbeats 2000000 in
theorem heldRowS_c (A : Option Addr) (c n : Nat) (q : Int) (w : World) (fp : List Nat) (hq : 0 ≤ q) (hn : n ≤ 1099511627776) (hq2 : q ≤ 1099511627776)
    (ha : Rd w 4 (.slice A n c) (cellsOf .i64 (marks (fun x => x) q (n * 4))) fp) :
    Calls Try.prog 71 #[.slice A n c, .int .i64 q] w fun e w' => e = .returned (.int .i64 (q + (n * 4 : Nat))) ∧ w = w' := by
  have hmax := ha.len_le
  go_enter Try.func71, Try.ntmps71
  go_wp2
  go_loop [1, 5] (fun s i => ∃ k : Nat, k ≤ n ∧ i = .int .i64 k ∧ s = .int .i64 (q + (k * 4 : Nat))) (fun _ i => n - (intOf i).toNat)
  case atStart => exact ⟨0, Nat.zero_le _, rfl, by simp⟩
  case round =>
    obtain ⟨k, hk, rfl, rfl⟩ := hrel
    by_cases hlt2 : k < n
    · obtain ⟨b, off, rfl, _, _, hc⟩ := ha.marks_at hlt2
      have c0 : w.cell? ⟨b, off + k * 4, none⟩ = some (.int .i64 (q + (k : Int) * 4)) := (hc 0 (by omega)).trans (by congr 2)
      have c1 : w.cell? ⟨b, off + k * 4 + 1, none⟩ = some (.int .i64 (q + (k : Int) * 4 + 1)) := (hc 1 (by omega)).trans (by congr 2; omega)
      have c2 : w.cell? ⟨b, off + k * 4 + 2, none⟩ = some (.int .i64 (q + (k : Int) * 4 + 1 + 1)) := (hc 2 (by omega)).trans (by congr 2; omega)
      have c3 : w.cell? ⟨b, off + k * 4 + 3, none⟩ = some (.int .i64 (q + (k : Int) * 4 + 1 + 1 + 1)) := (hc 3 (by omega)).trans (by congr 2; omega)
      have hq3 : (k : Int) * 4 ≤ 4398046511104 := by omega
      clear ha hc
      go_wp2_with fail
      exact ⟨⟨k + 1, by omega, by go_num, by congr 1; omega⟩, by simp [intOf]; omega⟩
    · obtain rfl : k = n := by omega
      go_wp2
      go_ret
      exact ⟨by simp, rfl⟩

theorem szRowS_c (A : Option Addr) (n c : Nat) (q : Int) (w : World) (hn : n ≤ 9223372036854775807) (hq : 0 ≤ q) (hq2 : q ≤ 1048576) :
    Calls Try.prog 36 #[.slice A n c, .int .i64 q] w fun e w' => e = .returned (.int .i64 (if q < n then -1 else q - n)) ∧ w = w' := by
  by_cases h : q < n
  · rw [if_pos h]
    have h1 : q - (n : Int) < 0 := by omega
    go_enter Try.func36, Try.ntmps36
    go_wp2
    go_ret
    exact ⟨rfl, rfl⟩
  · rw [if_neg h]
    have h1 : ¬ (q - (n : Int) < 0) := by omega
    go_enter Try.func36, Try.ntmps36
    go_wp2
    go_ret
    exact ⟨rfl, rfl⟩

set_option maxRecDepth 100000 in
set_option maxHeartbeats 1000000 in
theorem eqRowsResult_c (code : Int) (v u : Value) (rs : List R) (w : World) (fp fq : List Nat) (ha : Rd w 4 v (rcs rs) fp) (hb : Rd w 4 u (rcs rs) fq) :
    Calls Try.prog 40 #[.agg #[.int .i64 code, v], .agg #[.int .i64 code, u]] w fun e w' => e = .returned (.bool true) ∧ Below w.heap.size w w' := by
  obtain ⟨A, c, rfl⟩ := ha.rows_form
  obtain ⟨B, d, rfl⟩ := hb.rows_form
  go_enter Try.func40, Try.ntmps40
  go_wp2_with fail
  refine (eqRowS_c A B c d rs _ fp fq ((ha.alloc _).alloc _) ((hb.alloc _).alloc _)).mono ?_
  rintro e w1 ⟨rfl, hb1⟩
  have HB := Lib.hid hb1; clear hb1
  go_wp2
  go_ret
  exact ⟨rfl, (((Below.refl _ _).alloc (Nat.le_refl _) _).alloc (by simp) _).trans (HB.out.mono (by simp; omega))⟩

set_option maxRecDepth 100000 in
set_option maxHeartbeats 1000000 in
theorem markRowsResult_c (code : Int) (v : Value) (rs : List R) (q : Int) (w : World) (fp : List Nat) (hq : 0 ≤ q) (hn : rs.length ≤ 1099511627776) (hq2 : q ≤ 1099511627776)
    (ha : Rd w 4 v (rcs rs) fp) (hnf : NF w fp) :
    Calls Try.prog 42 #[.agg #[.int .i64 code, v], .int .i64 q] w fun e w' => e = .returned (.int .i64 (q + (rs.length * 4 : Nat))) ∧ But fp w w' ∧ Rd w' 4 v (cellsOf .i64 (marks (fun x => x) q (rs.length * 4))) fp := by
  obtain ⟨A, c, rfl⟩ := ha.rows_form
  have hlt := ha.lt
  have ha' := ha.alloc (.cells #[.int .i64 code, .slice A rs.length c] 30)
  have hnf' : NF (w.alloc (.cells #[.int .i64 code, .slice A rs.length c] 30)) fp := hnf.keep fun b hb => Below.heap_alloc _ _ _ (hlt b hb)
  have H2 := Lib.hid hlt; clear hlt
  go_enter Try.func42, Try.ntmps42
  go_wp2_with fail
  refine (markRowS_c A c rs.length _ q _ fp hq hn hq2 ha' hnf').mono ?_
  rintro e w1 ⟨rfl, hbut, hsz, hrd, hn1⟩
  have HSZ := Lib.hid hsz; clear hsz
  go_wp2
  go_ret
  exact ⟨by simp, ((But.refl fp w).alloc _).trans hbut, hrd⟩

set_option maxRecDepth 100000 in
set_option maxHeartbeats 1000000 in
theorem heldRowsResult_c (code : Int) (v : Value) (n : Nat) (q : Int) (w : World) (fp : List Nat) (hq : 0 ≤ q) (hn : n ≤ 1099511627776) (hq2 : q ≤ 1099511627776) (A : Option Addr) (c : Nat) (hv : v = .slice A n c)
    (ha : Rd w 4 v (cellsOf .i64 (marks (fun x => x) q (n * 4))) fp) :
    Calls Try.prog 43 #[.agg #[.int .i64 code, v], .int .i64 q] w fun e w' => e = .returned (.int .i64 (q + (n * 4 : Nat))) ∧ Below w.heap.size w w' := by
  subst hv
  have ha' := ha.alloc (.cells #[.int .i64 code, .slice A n c] 30)
  go_enter Try.func43, Try.ntmps43
  go_wp2_with fail
  refine (heldRowS_c A c n q _ fp hq hn hq2 ha').mono ?_
  rintro e w1 ⟨rfl, rfl⟩
  have h0 : decide (q + ((n * 4 : Nat) : Int) < 0) = false := by simp; omega
  have h1 : ¬ (q + (n : Int) * 4 < 0) := by omega
  go_wp2
  go_ret
  exact ⟨by simp, (Below.refl _ _).alloc (Nat.le_refl _) _⟩

set_option maxRecDepth 100000 in
set_option maxHeartbeats 1000000 in
theorem eqRowResult_c (code : Int) (r : R) (w : World) :
    Calls Try.prog 39 #[rrv code r, rrv code r] w fun e w' => e = .returned (.bool true) ∧ Below w.heap.size w w' := by
  go_enter Try.func39, Try.ntmps39
  go_wp2_with fail
  refine (eqRow_c r _).mono ?_
  rintro e w1 ⟨rfl, hb1⟩
  have HB := Lib.hid hb1; clear hb1
  go_wp2
  go_ret
  exact ⟨rfl, (((Below.refl _ _).alloc (Nat.le_refl _) _).alloc (by simp) _).trans (HB.out.mono (by simp; omega))⟩
end Go.Proofs.Ythmmjkpgepffeaa
