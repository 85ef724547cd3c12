/-
  Contracts of the laws' own helpers over []uint8: the copy, the comparison, the marks and their check.
-/
import Derived.Test.YtocllaendofndaaProg
import Derived.Test.YtocllaendofndaaWords
import Derived.WalkSpells
import Derived.Laws.MakeOwn
import Derived.RegionTactic
import Derived.Deep.QuietTactic
import Derived.BigQuiet
import Derived.IntWalk
namespace Go.Proofs.Ytocllaendofndaa
open Go.RowKit

set_option maxRecDepth 100000 in
set_option maxHeartbeats 1000000 in
theorem eqByteS_c (A B : Option Addr) (c d : Nat) (zs : List Int) (w : World) (fp fq : List Nat)
    (ha : Rd w 1 (.slice A zs.length c) (cellsOf .u8 zs) fp) (hb : Rd w 1 (.slice B zs.length d) (cellsOf .u8 zs) fq) :
    Calls Try.prog 18 #[.slice A zs.length c, .slice B zs.length d] w fun e w' => e = .returned (.bool true) ∧ ∃ m, w' = w.drewN m := by
  have hmax := ha.len_le
  go_enter Try.func18, Try.ntmps18
  go_wp2
  go_loopw [5] (fun i wr => ∃ k m : Nat, k ≤ zs.length ∧ i = .int .i64 k ∧ wr = w.drewN m) (fun i _ => zs.length - (intOf i).toNat)
  case atStart => exact ⟨0, 0, Nat.zero_le _, rfl, rfl⟩
  case round =>
    obtain ⟨k, m, hk, rfl, rfl⟩ := hrel
    by_cases hlt : k < zs.length
    · obtain ⟨b1, o1, rfl, _, _, hc1⟩ := ha.ints_at hlt
      obtain ⟨b2, o2, rfl, _, _, hc2⟩ := hb.ints_at hlt
      clear ha hb
      go_wp2_with fail
      go_quiet (fail)
      go_wp2_with fail
      exact ⟨⟨k + 1, _, by omega, by go_num, rfl⟩, by simp [intOf]; omega⟩
    · go_wp2
      go_ret
      exact ⟨rfl, m, rfl⟩

theorem infoByteS : ∃ i, Try.prog.info? 5 = some i ∧ i.zero = some (.int .u8 0) ∧ i.size = 1 ∧ i.bytes = 1 := ⟨_, rfl, rfl, rfl, rfl⟩

/-- 'make' of n elements, for every world. -/
theorem makeByteS (n : Nat) (hn : n ≤ 1099511627776) (W : World) : (Instr.makeSlice 28 (.int .i64 (n : Int)) (.int .i64 (n : Int))).run Try.prog W = .ok (.slice (some ⟨W.heap.size, 0, none⟩) n n) (W.alloc (.cells (madeCells #[.int .u8 0] n) 5)) := by
  obtain ⟨i, hi, hz, hsz, hby⟩ := infoByteS
  have hr := run_make (P := Try.prog) W 28 5 i (.int .u8 0) Try.underlying28 hi hz .i64 .i64 n n (by omega) (by omega) (by rw [hby]; omega) (by omega)
  simp only [Int.toNat_natCast, hsz, Nat.mul_one] at hr
  exact hr

set_option maxRecDepth 100000 in
set_option maxHeartbeats 1000000 in
theorem toByteS_c (A : Option Addr) (c : Nat) (zs : List Int) (w : World) (fp : List Nat) (hs : zs.length ≤ 1048576)
    (ha : Rd w 1 (.slice A zs.length c) (cellsOf .u8 zs) fp) :
    Calls Try.prog 15 #[.slice A zs.length c] w fun e w' => e = .returned (.slice (some ⟨w.heap.size, 0, none⟩) zs.length zs.length) ∧ w' = w.alloc (.cells (cellsOf .u8 zs).toArray 5) := by
  have hmk : ∀ W : World, (Instr.makeSlice 28 (.int .i64 (zs.length : Int)) (.int .i64 (zs.length : Int))).run Try.prog W = .ok (.slice (some ⟨W.heap.size, 0, none⟩) zs.length zs.length) (W.alloc (.cells (part (.int .u8 0) (cellsOf .u8 zs) 0) 5)) := by
    intro W
    rw [makeByteS _ (by omega), part_zero, List.length_map]
  go_enter Try.func15, Try.ntmps15
  go_wp2
  go_loopw [4] (fun i wr => ∃ k : Nat, k ≤ zs.length ∧ i = .int .i64 k ∧ wr = w.alloc (.cells (part (.int .u8 0) (cellsOf .u8 zs) k) 5)) (fun i _ => zs.length - (intOf i).toNat)
  case atStart => exact ⟨0, Nat.zero_le _, rfl, rfl⟩
  case round =>
    obtain ⟨k, hk, rfl, rfl⟩ := hrel
    clear hmk
    by_cases hlt : k < zs.length
    · obtain ⟨b1, o1, rfl, _, hb1, hc1⟩ := ha.ints_at hlt
      clear ha
      have hps := part_set (.int .u8 0) (cellsOf .u8 zs) k (by simpa using hlt)
      have hsz := part_size (.int .u8 0) (cellsOf .u8 zs) k (by simpa using hk)
      simp only [List.getElem_map] at hps
      simp only [List.length_map] at hsz
      have hlt' : k < (part (.int .u8 0) (cellsOf .u8 zs) k).size := by omega
      clear hsz
      have HP := Lib.hid hps; clear hps
      go_wp2_with fail
      exact ⟨⟨k + 1, by omega, by go_num, by rw [HP.out]⟩, by simp [intOf]; omega⟩
    · obtain rfl : k = zs.length := by omega
      have hpf := part_full (.int .u8 0) (cellsOf .u8 zs)
      rw [List.length_map] at hpf
      rw [hpf]
      go_wp2
      go_ret
      exact ⟨rfl, rfl⟩

/-- The copy, by what it is good for. -/
theorem toByteS_k (A : Option Addr) (c : Nat) (zs : List Int) (w : World) (fp : List Nat) (hs : zs.length ≤ 1048576)
    (ha : Rd w 1 (.slice A zs.length c) (cellsOf .u8 zs) fp) :
    Calls Try.prog 15 #[.slice A zs.length c] w (CopyPost .u8 w zs) := by
  refine (toByteS_c A c zs w fp hs ha).mono ?_
  rintro e w' ⟨rfl, rfl⟩
  obtain ⟨fq, h1, h2, h3⟩ := Rd.fresh (w := w) (w' := w.alloc (.cells (cellsOf .u8 zs).toArray 5)) (n := zs.length) (size := 1) (by unfold maxLen; omega) (by simp) (heap_new w _ rfl) (Nat.le_refl _)
  exact ⟨_, _, fq, rfl, h1, h2, h3, (Below.refl _ _).alloc (Nat.le_refl _) _⟩

set_option maxRecDepth 100000 in
set_option maxHeartbeats 1000000 in
theorem markByteS_c (A : Option Addr) (c n : Nat) (xs : List Value) (q : Int) (w : World) (fp : List Nat) (hq : 0 ≤ q) (hq2 : q + n ≤ 4611686018427387904)
    (ha : Rd w 1 (.slice A n c) xs fp) (hnf : NF w fp) :
    Calls Try.prog 25 #[.slice A n c, .int .i64 q] w fun e w' => e = .returned (.int .i64 (q + n)) ∧ But fp w w' ∧ w'.heap.size = w.heap.size ∧ Rd w' 1 (.slice A n c) (cellsOf .u8 (marks (fun x => x % 256) q n)) fp ∧ NF w' fp := by
  have hmax := ha.len_le
  obtain ⟨A', n', c', e, h1, h2, h2', h3⟩ := ha
  injection e with e1 e2 e3
  subst e1 e2 e3
  rcases h3 with ⟨rfl, rfl⟩ | ⟨b, off, rfl, rfl, hlt, hc⟩
  · go_enter Try.func25, Try.ntmps25
    go_wp2
    refine wp_loop_rounds 1 ?_
    rw [rounds_succ]
    go_wp2
    go_ret
    exact ⟨by simp, But.refl _ _, rfl, ⟨_, _, _, rfl, by simp [marks], by omega, h2', .inl ⟨rfl, rfl⟩⟩, hnf⟩
  · have hx : ∀ i, i < n → w.cell? ⟨b, off + i, none⟩ = some (xs.getD i default) := by
      intro i hi
      refine hc i _ ?_
      rw [List.getD_eq_getElem?_getD, List.getElem?_eq_getElem (by omega)]
      rfl
    clear hc
    have HX := Lib.hid hx; clear hx
    have HN := Lib.hid hnf; clear hnf
    go_enter Try.func25, Try.ntmps25
    go_wp2
    go_loopw [1, 5] (fun s i wr => ∃ k : Nat, k ≤ n ∧ i = .int .i64 k ∧ s = .int .i64 (q + k) ∧ But [b] w wr ∧ wr.heap.size = w.heap.size ∧ Hid (∀ x, wr.frozen? x = w.frozen? x) ∧ Hid (∀ j, j < n → wr.cell? ⟨b, off + j, none⟩ = some (if j < k then .int .u8 ((fun x => x % 256) (q + j)) else xs.getD j default))) (fun _ i _ => n - (intOf i).toNat)
    case atStart => exact ⟨0, Nat.zero_le _, rfl, by simp, But.refl _ _, rfl, fun _ => rfl, fun j hj => by simpa using HX.out j hj⟩
    case round =>
      obtain ⟨k, hk, rfl, rfl, hbut, hsz, hfz, hcl⟩ := hrel
      by_cases hlt2 : k < n
      · have hck := hcl.out k hlt2
        rw [if_neg (by omega)] at hck
        have hfk : wr.frozen? ⟨b, off + k, none⟩ = false := (hfz.out _).trans (HN.out b (by simp) _)
        have hq3 : q + k ≤ 4611686018427387904 := by omega
        have HSZ := Lib.hid hsz; clear hsz
        go_wp2_with fail
        exact ⟨⟨k + 1, by omega, by go_num, by go_num, hbut.setCell (by simp) _, by simpa [World.setCell] using HSZ.out, fun x => (World.frozen?_setCell _ _ _ _).trans (hfz.out x), mark_step (f := (fun x => x % 256)) hlt2 hcl.out⟩, by simp [intOf]; omega⟩
      · obtain rfl : k = n := by omega
        have HSZ := Lib.hid hsz; clear hsz
        go_wp2
        go_ret
        exact ⟨rfl, hbut, HSZ.out, mark_done (f := (fun x => x % 256)) h2 h2' (by rw [HSZ.out]; exact hlt) hcl.out, fun x hx i => (hfz.out _).trans (HN.out x hx i)⟩

set_option maxRecDepth 100000 in
set_option maxHeartbeats 1000000 in
theorem heldByteS_c (A : Option Addr) (c n : Nat) (q : Int) (w : World) (fp : List Nat) (hq : 0 ≤ q) (hq2 : q + n ≤ 4611686018427387904)
    (ha : Rd w 1 (.slice A n c) (cellsOf .u8 (marks (fun x => x % 256) q n)) fp) :
    Calls Try.prog 26 #[.slice A n c, .int .i64 q] w fun e w' => e = .returned (.int .i64 (q + n)) ∧ w = w' := by
  have hmax := ha.len_le
  go_enter Try.func26, Try.ntmps26
  go_wp2
  go_loop [1, 5] (fun s i => ∃ k : Nat, k ≤ n ∧ i = .int .i64 k ∧ s = .int .i64 (q + k)) (fun _ i => n - (intOf i).toNat)
  case atStart => exact ⟨0, Nat.zero_le _, rfl, by simp⟩
  case round =>
    obtain ⟨k, hk, rfl, rfl⟩ := hrel
    by_cases hlt2 : k < n
    · obtain ⟨b, off, u, rfl, _, _, hx, hc⟩ := ha.at_ rfl hlt2
      simp [marks, hlt2] at hx
      subst hx
      have hq3 : q + k ≤ 4611686018427387904 := by omega
      clear ha
      go_wp2_with fail
      exact ⟨⟨k + 1, by omega, by go_num, by go_num⟩, by simp [intOf]; omega⟩
    · obtain rfl : k = n := by omega
      go_wp2
      go_ret
      exact ⟨rfl, rfl⟩
end Go.Proofs.Ytocllaendofndaa
