/-
  The laws' test for long codes.
-/
import Derived.Test.YtldimfmhbdhbnaaGreatProg
import Derived.Test.YtldimfmhbdhbnaaGreatG26
import Derived.Test.YtldimfmhbdhbnaaGreatG3
import Derived.WalkSpells
import Derived.RegionTactic
import Derived.Deep.QuietTactic
import Derived.BigQuiet
import Derived.IntWalk
namespace Go.Proofs.YtldimfmhbdhbnaaGreat
open Go.RowKit

theorem bigCode_c (A : Option Addr) (n c : Nat) (w : World) (hn : n ≤ 9223372036854775807) :
    Calls Tryz.prog 4 #[.slice A n c] w fun e w' => e = .returned (.bool (decide (1048576 < n))) ∧ w = w' := by
  by_cases h : 1048576 < n
  all_goals
    go_enter Tryz.func4, Tryz.ntmps4
    go_wp2
    go_ret
    refine ⟨?_, rfl⟩
    first | rfl | (simp [h]; done) | (simp; omega)
end Go.Proofs.YtldimfmhbdhbnaaGreat

/-
  Contracts of the model's source of choices: what is drawn lies in its range, and only the source's own place moves on.
-/
namespace Go.Proofs.YtldimfmhbdhbnaaGreat
open Go.RowKit

/-- A source: the block s holds the code's bytes and the place a. -/
structure Src (w : World) (s : Nat) (zs : List Int) (a : Nat) : Prop where
  blk : ∃ A c fp, w.heap[s]? = some (.cells #[.slice A zs.length c, .int .i64 (a : Int)] 97 (0, 0)) ∧ Rd w 1 (.slice A zs.length c) (cellsOf .u8 zs) fp ∧ ∀ b ∈ fp, b < s
  byt : Byt zs
  big : zs.length ≤ 1048576
  low : a ≤ 1000000

/-- What a draw from n things answers. -/
def NextPost (w : World) (s a : Nat) (n : Int) (e : Ending) (w' : World) : Prop :=
  ∃ (v : Int) (m : Nat), e = .returned (.int .i64 v) ∧ 0 ≤ v ∧ v < n ∧ w' = (w.setCell ⟨s, 1, none⟩ (.int .i64 ((a + 1 : Nat) : Int))).drewN m

theorem l1Source_c (A : Option Addr) (c : Nat) (zs : List Int) (w : World) (fp : List Nat) (ha : Rd w 1 (.slice A zs.length c) (cellsOf .u8 zs) fp) (hby : Byt zs) (hb : zs.length ≤ 1048576) :
    Calls Tryz.prog 26 #[.slice A zs.length c] w fun e w' => e = .returned (.pointer (some ⟨w.heap.size, 0, none⟩)) ∧ Src w' w.heap.size zs 0 ∧ Below w.heap.size w w' ∧ w'.heap.size = w.heap.size + 1 := by
  go_enter Tryz.func26, Tryz.ntmps26
  go_wp2
  go_ret
  refine ⟨rfl, ⟨⟨A, c, fp, heap_new w _ rfl, ha.alloc _, ha.lt⟩, hby, hb, by omega⟩, (Below.refl _ _).alloc (Nat.le_refl _) _, by simp⟩

set_option maxRecDepth 100000 in
set_option maxHeartbeats 2000000 in
theorem l1Next_c (w : World) (s : Nat) (zs : List Int) (a : Nat) (n : Int) (h : Src w s zs a) (hn : 1 ≤ n) (hn2 : n ≤ 1000000) :
    Calls Tryz.prog 34 #[.pointer (some ⟨s, 0, none⟩), .int .i64 n] w (NextPost w s a n) := by
  obtain ⟨⟨A, c, fp, hs, hr, hsf⟩, hby, hbig, hlow⟩ := h
  have hc0 : w.cell? ⟨s, 0, none⟩ = some (.slice A zs.length c) := cell_of_heap hs
  have hc1 : w.cell? ⟨s, 1, none⟩ = some (.int .i64 (a : Int)) := cell_of_heap hs
  have hf1 : w.frozen? ⟨s, 1, none⟩ = false := frozen_of_heap hs
  have hz := heap_lt hs
  have HS := Lib.hid hs; clear hs
  have hn3 : ¬ (n < 1) := by omega
  by_cases h0 : zs.length = 0
  · have h00 : ((zs.length : Int) == 0) = true := by simp [h0]
    clear hr hby hsf
    go_enter Tryz.func34, Tryz.ntmps34
    go_wp2_with fail
    go_ret
    exact ⟨_, 0, rfl, Int.emod_nonneg _ (by omega), Int.emod_lt_of_pos _ (by omega), rfl⟩
  · have h00 : ((zs.length : Int) == 0) = false := beq_eq_false_iff_ne.2 (by omega)
    have l1 : a % zs.length < zs.length := Nat.mod_lt _ (by omega)
    have l2 : (a + 1) % zs.length < zs.length := Nat.mod_lt _ (by omega)
    have key : ∀ q : Nat, Int.tmod (q : Int) (zs.length : Int) = ((q % zs.length : Nat) : Int) := fun q => by rw [Int.tmod_eq_emod_of_nonneg (by omega)]; omega
    have e1 := key a
    have e2 : Int.tmod ((a : Int) + 1) (zs.length : Int) = (((a + 1) % zs.length : Nat) : Int) := key (a + 1)
    clear key
    have hm0 : (0 : Int) ≤ ((a : Int) + 1) % (zs.length : Int) := Int.emod_nonneg _ (by omega)
    have hm1 : ((a : Int) + 1) % (zs.length : Int) < (zs.length : Int) := Int.emod_lt_of_pos _ (by omega)
    have hm2 : (((a : Int) + 1) % (zs.length : Int)).toNat = (a + 1) % zs.length := by
      rw [Int.tmod_eq_emod_of_nonneg (by omega)] at e2
      rw [e2, Int.toNat_natCast]
    obtain ⟨b, off, hA, hfp, hbw, hcx⟩ := hr.ints_at (k := a % zs.length) (Nat.mod_lt _ (by omega))
    subst hA hfp
    obtain ⟨b', off', hA, _, _, hcy⟩ := hr.ints_at (k := (a + 1) % zs.length) (Nat.mod_lt _ (by omega))
    injection hA with hA; injection hA with e1 e2 _; subst e1 e2
    have hx := hby.at_ (k := a % zs.length) (Nat.mod_lt _ (by omega))
    have hy := hby.at_ (k := (a + 1) % zs.length) (Nat.mod_lt _ (by omega))
    clear hr
    generalize zs[a % zs.length] = x at *
    generalize zs[(a + 1) % zs.length] = y at *
    have hne : s ≠ b := fun e => by have := hsf b (by simp); omega
    clear hsf
    have hcx2 : (w.setCell ⟨s, 1, none⟩ (.int .i64 ((a : Int) + 1))).cell? ⟨b, off + a % zs.length, none⟩ = some (.int .u8 x) := by rw [World.cell?_setCell_other _ _ _ _ (by intro h; injection h with h _ _; exact hne h)]; exact hcx
    have hcy2 : (w.setCell ⟨s, 1, none⟩ (.int .i64 ((a : Int) + 1))).cell? ⟨b, off + (a + 1) % zs.length, none⟩ = some (.int .u8 y) := by rw [World.cell?_setCell_other _ _ _ _ (by intro h; injection h with h _ _; exact hne h)]; exact hcy
    have hd0 : 0 ≤ (a : Int) / (zs.length : Int) := Int.ediv_nonneg (by omega) (by omega)
    have hd1 : (a : Int) / (zs.length : Int) ≤ 1000000 := Int.le_trans (Int.ediv_le_self _ (by omega)) (by omega)
    obtain ⟨x0, x1⟩ := hx
    obtain ⟨y0, y1⟩ := hy
    have hV0 : 0 ≤ x + (a : Int) / (zs.length : Int) * 37 := by omega
    have hV1 : x + (a : Int) / (zs.length : Int) * 37 ≤ 37000255 := by omega
    by_cases h200 : 200 < n
    · go_enter Tryz.func34, Tryz.ntmps34
      go_wp2_with fail
      go_quiet (fail)
      generalize x + (a : Int) / (zs.length : Int) * 37 = V at *
      go_wp2_with fail
      go_quiet (fail)
      go_wp2_with fail
      go_ret
      exact ⟨_, _, rfl, Int.emod_nonneg _ (by omega), Int.emod_lt_of_pos _ (by omega), rfl⟩
    · go_enter Tryz.func34, Tryz.ntmps34
      go_wp2_with fail
      go_quiet (fail)
      generalize x + (a : Int) / (zs.length : Int) * 37 = V at *
      go_wp2_with fail
      go_ret
      exact ⟨_, _, rfl, Int.emod_nonneg _ (by omega), Int.emod_lt_of_pos _ (by omega), rfl⟩

/-- Behind a draw the source is one place on, and nothing else has turned. -/
theorem Src.next {w w' : World} {s : Nat} {zs : List Int} {a m : Nat} (h : Src w s zs a) (ha : a < 1000000) (hw : w' = (w.setCell ⟨s, 1, none⟩ (.int .i64 ((a + 1 : Nat) : Int))).drewN m) :
    Src w' s zs (a + 1) ∧ But [s] w w' ∧ w'.heap.size = w.heap.size := by
  obtain ⟨⟨A, c, fp, hs, hr, hsf⟩, hby, hbig, hlow⟩ := h
  have hb : But [s] w w' := by rw [hw]; exact ((But.refl [s] w).setCell (p := ⟨s, 1, none⟩) (by simp) _).drewN m
  refine ⟨⟨⟨A, c, fp, ?_, hr.but hb (fun b hb' hm => by simp at hm; have := hsf b hb'; omega), hsf⟩, hby, hbig, by omega⟩, hb, by rw [hw]; simp [World.setCell, World.drewN]⟩
  rw [hw]
  show (w.setCell ⟨s, 1, none⟩ (.int .i64 ((a + 1 : Nat) : Int))).heap[s]? = _
  simp [World.setCell, Array.getElem?_modify, hs]
theorem Src.but {w w' : World} {s : Nat} {zs : List Int} {a : Nat} {bs : List Nat} (h : Src w s zs a) (hb : But bs w w') (hd : ∀ b ∈ bs, s < b) : Src w' s zs a := by
  obtain ⟨⟨A, c, fp, hs', hr, hsf⟩, hby, hbig, hlow⟩ := h
  exact ⟨⟨A, c, fp, hb.heap hs' (fun hm => by have := hd s hm; omega), hr.but hb (fun b hb' hm => by have := hsf b hb'; have := hd b hm; omega), hsf⟩, hby, hbig, hlow⟩
theorem Src.below {w w' : World} {s : Nat} {zs : List Int} {a : Nat} (h : Src w s zs a) (hb : Below w.heap.size w w') : Src w' s zs a := h.but (But.of_below hb []) (fun _ hm => by cases hm)
theorem Src.alloc {w : World} {s : Nat} {zs : List Int} {a : Nat} (h : Src w s zs a) (o : Obj) : Src (w.alloc o) s zs a := h.below ((Below.refl _ _).alloc (Nat.le_refl _) _)
theorem Src.lt {w : World} {s : Nat} {zs : List Int} {a : Nat} (h : Src w s zs a) : s < w.heap.size := by
  obtain ⟨⟨A, c, fp, hs', hr, hsf⟩, hby, hbig, hlow⟩ := h
  exact heap_lt hs'

/-- What a chain of draws answers: the source is on by some places, only its own block and new blocks have turned. -/
structure Drawn (w : World) (s : Nat) (zs : List Int) (a d : Nat) (w' : World) : Prop where
  src : Src w' s zs (a + d)
  but : But [s] w w'
theorem Drawn.of_next {w w' : World} {s : Nat} {zs : List Int} {a m : Nat} (h : Src w s zs a) (ha : a < 1000000) (hw : w' = (w.setCell ⟨s, 1, none⟩ (.int .i64 ((a + 1 : Nat) : Int))).drewN m) : Drawn w s zs a 1 w' :=
  ⟨(h.next ha hw).1, (h.next ha hw).2.1⟩
theorem Drawn.trans {w w1 w2 : World} {s : Nat} {zs : List Int} {a d e : Nat} (h : Drawn w s zs a d w1) (k : Drawn w1 s zs (a + d) e w2) : Drawn w s zs a (d + e) w2 :=
  ⟨by have := k.src; rwa [Nat.add_assoc] at this, h.but.trans k.but⟩

/-- A pick out of a list: one of its elements. -/
def PickPost (w : World) (s : Nat) (zs : List Int) (a : Nat) (xs : List Int) (e : Ending) (w' : World) : Prop :=
  ∃ v, e = .returned (.int .i64 v) ∧ v ∈ xs ∧ Drawn w s zs a 1 w' ∧ w'.heap.size = w.heap.size

set_option maxRecDepth 100000 in
set_option maxHeartbeats 2000000 in
theorem l1Pick_c (w : World) (s : Nat) (zs : List Int) (a : Nat) (A : Option Addr) (c : Nat) (xs : List Int) (fp : List Nat) (h : Src w s zs a) (ha : a < 1000000) (hx : 1 ≤ xs.length) (hx2 : xs.length ≤ 1000)
    (hr : Rd w 1 (.slice A xs.length c) (cellsOf .i64 xs) fp) (hsf : s ∉ fp) :
    Calls Tryz.prog 37 #[.pointer (some ⟨s, 0, none⟩), .slice A xs.length c] w (PickPost w s zs a xs) := by
  go_enter Tryz.func37, Tryz.ntmps37
  go_wp2_with fail
  refine (l1Next_c w s zs a _ h (by omega) (by omega)).mono ?_
  rintro e w1 ⟨v, m, rfl, hv0, hv1, hw1⟩
  have hd := Drawn.of_next h ha hw1
  have hsz := (h.next ha hw1).2.2
  clear hw1
  obtain ⟨k, rfl⟩ : ∃ k : Nat, v = k := ⟨v.toNat, by omega⟩
  have hk : k < xs.length := by omega
  obtain ⟨b, off, hA, _, _, hc⟩ := (hr.but hd.but (fun b hb hm => by simp at hm; subst hm; exact hsf hb)).ints_at hk
  subst hA
  have HSZ := Lib.hid hsz; clear hsz
  go_wp2_with fail
  go_ret
  exact ⟨_, rfl, List.getElem_mem hk, hd, HSZ.out⟩

theorem Drawn.alloc {w w1 : World} {s : Nat} {zs : List Int} {a d : Nat} (h : Drawn w s zs a d w1) (o : Obj) : Drawn w s zs a d (w1.alloc o) := ⟨h.src.alloc o, h.but.alloc o⟩
theorem Drawn.start {w : World} {s : Nat} {zs : List Int} {a : Nat} (h : Src w s zs a) : Drawn w s zs a 0 w := ⟨h, But.refl _ _⟩
theorem Drawn.below {w w1 w2 : World} {s : Nat} {zs : List Int} {a d : Nat} (h : Drawn w s zs a d w1) (hb : Below w1.heap.size w1 w2) : Drawn w s zs a d w2 := ⟨h.src.below hb, h.but.trans (But.of_below hb _)⟩
/-- New rows were written, and nothing else. -/
theorem Drawn.grown {w w1 w2 : World} {s : Nat} {zs : List Int} {a d : Nat} {row : Option Nat} (h : Drawn w s zs a d w1) (hg : w1.grownBy w2 row) (hr : ∀ g, row = some g → w.heap.size ≤ g) (hs : s < w.heap.size) : Drawn w s zs a d w2 := by
  have hb : But (row.toList) w1 w2 := ⟨hg.os, hg.tape, hg.output, hg.size, fun k hk hn => hg.block k hk (fun e => hn (by rw [← e]; simp))⟩
  refine ⟨h.src.but hb (fun b hm => ?_), ⟨hg.os.trans h.but.os, hg.tape.trans h.but.tape, hg.output.trans h.but.output, Nat.le_trans h.but.size hg.size, fun k hk hn => ?_⟩⟩
  · have := hr b (by simpa using hm); omega
  · rw [hg.block k (Nat.lt_of_lt_of_le hk h.but.size) (fun e => by have := hr k e.symm; omega)]
    exact h.but.block k hk hn

end Go.Proofs.YtldimfmhbdhbnaaGreat
