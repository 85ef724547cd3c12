/-
  Contracts of the program's functions of chapter 2, sixth part: joining.
-/
import Derived.Test.YthmmjkpgepffeaaImpl2e
import Derived.Test.YthmmjkpgepffeaaApp
namespace Go.Proofs.Ythmmjkpgepffeaa
open Go.RowKit

/-! Sorting and searching where there is nothing. -/
theorem insertNone (p : Option Addr) (cap : Nat) (fv : Value) (w : World) :
    Calls Try.prog 88 #[.slice p 0 cap, .int .i64 0, .int .i64 0, fv] w fun e w' => e = .returned (.tuple #[]) ∧ w' = w := by
  go_enter Try.func88, Try.ntmps88
  go_wp2
  refine wp_loop_rounds 1 ?_
  rw [rounds_succ]
  go_wp2
  go_end0
  exact ⟨rfl, rfl⟩
set_option maxRecDepth 100000 in
set_option maxHeartbeats 2000000 in
theorem pdqNone (p : Option Addr) (cap : Nat) (lim : Int) (fv : Value) (w : World) :
    Calls Try.prog 84 #[.slice p 0 cap, .int .i64 0, .int .i64 0, .int .i64 lim, fv] w fun e w' => e = .returned (.tuple #[]) ∧ w' = w := by
  go_enter Try.func84, Try.ntmps84
  go_wp2
  refine wp_loop_rounds 1 ?_
  rw [rounds_succ]
  go_wp2_with (go_at_call 88; refine (insertNone _ _ _ _).mono ?_; rintro e w' ⟨rfl, rfl⟩)
  (try simp only [Exit.inBlock, Exit.then]); refine bodyPost_ret (results_none rfl _ _ _) rfl ?_
  exact ⟨rfl, rfl⟩
theorem sortNone (p : Option Addr) (cap : Nat) (fv : Value) (w : World) :
    Calls Try.prog 75 #[.slice p 0 cap, fv] w fun e w' => e = .returned (.tuple #[]) ∧ w' = w := by
  have hl := bitsLen_c 0 w (by omega)
  go_enter Try.func75, Try.ntmps75
  go_wp2_with (first | (go_at_call 85; refine hl.mono ?_; rintro e w' ⟨⟨l, rfl⟩, rfl⟩) | (go_at_call 84; refine (pdqNone _ _ _ _ _).mono ?_; rintro e w' ⟨rfl, rfl⟩))
  go_end0
  exact ⟨rfl, rfl⟩
theorem sortByNone (p : Option Addr) (cap : Nat) (fv : Value) (w : World) (h1 : fv.oneCell' = true) (hf : ∃ f a b, fv = .func f a b) :
    Calls Try.prog 53 #[.slice p 0 cap, fv] w fun e w' => e = .returned (.tuple #[]) ∧ Below w.heap.size w w' := by
  obtain ⟨f, a, b, rfl⟩ := hf
  go_enter Try.func53, Try.ntmps53
  go_wp2_with fail
  refine (sortNone _ _ _ _).mono ?_
  rintro e w1 ⟨rfl, rfl⟩
  go_wp2_with fail
  go_end0
  exact ⟨rfl, below_new _⟩
theorem indexNone (p : Option Addr) (cap : Nat) (fv : Value) (w : World) :
    Calls Try.prog 87 #[.slice p 0 cap, fv] w fun e w' => e = .returned (.int .i64 (-1)) ∧ w' = w := by
  go_enter Try.func87, Try.ntmps87
  go_wp2
  refine wp_loop_rounds 1 ?_
  rw [rounds_succ]
  go_wp2
  go_ret
  exact ⟨rfl, rfl⟩
theorem containsNone (p : Option Addr) (cap : Nat) (fv : Value) (w : World) :
    Calls Try.prog 80 #[.slice p 0 cap, fv] w fun e w' => e = .returned (.bool false) ∧ w' = w := by
  go_enter Try.func80, Try.ntmps80
  go_wp2_with (go_at_call 87; refine (indexNone _ _ _ _).mono ?_; rintro e w' ⟨rfl, rfl⟩)
  go_ret
  exact ⟨rfl, rfl⟩

set_option maxRecDepth 100000 in
set_option maxHeartbeats 1000000 in
theorem keyPred (k : Int) (B : Nat) (w : World) (hB : w.heap[B]? = some (.cells #[.int .i64 k] 2 (0, 0))) :
    PredRow 81 #[.pointer (some ⟨B, 0, none⟩)] (fun x => keyR x == k) w := by
  intro W x hx hb
  have hgB : W.heap[B]? = some (.cells #[.int .i64 k] 2 (0, 0)) := (hb.block _ (heap_lt hB)).trans hB
  have HX := Lib.hid hx; have GB := Lib.hid hgB
  clear hb hB hx hgB
  show Calls Try.prog 81 #[rv x, .pointer (some ⟨B, 0, none⟩)] W fun e w' => e = .returned (.bool (keyR x == k)) ∧ Below W.heap.size W w'
  go_enter Try.func81, Try.ntmps81
  go_wp2_with fail
  obtain ⟨c0, c1, c2, c3, _, _, _, _, lx⟩ := four_at (heap_new W (rbox x) rfl)
  have hgB0 : (W.alloc (rbox x)).heap[B]? = some (.cells #[.int .i64 k] 2 (0, 0)) := heap_old GB.out
  have d0 : (W.alloc (rbox x)).cell? ⟨B, 0, none⟩ = some (.int .i64 k) := cell_of_heap hgB0
  have lB := heap_lt hgB0
  have hB0 : Below W.heap.size W (W.alloc (rbox x)) := below_new _
  have hS0 : W.heap.size ≤ (W.alloc (rbox x)).heap.size := by simp
  clear hgB0
  generalize W.alloc (rbox x) = W0 at *
  have hld : ∀ w', Below W0.heap.size W0 w' → w'.cell? ⟨W.heap.size, 0, none⟩ = some (.int .i64 x.1) ∧ w'.cell? ⟨W.heap.size, 1, none⟩ = some (.int .i64 x.2.1) ∧ w'.cell? ⟨W.heap.size, 2, none⟩ = some (.int .i64 x.2.2.1) ∧ w'.cell? ⟨W.heap.size, 3, none⟩ = some (.int .i64 x.2.2.2) ∧ w'.cell? ⟨B, 0, none⟩ = some (.int .i64 k) := fun w' h => ⟨(h.cell (p := ⟨W.heap.size, 0, none⟩) lx).trans c0, (h.cell (p := ⟨W.heap.size, 1, none⟩) lx).trans c1, (h.cell (p := ⟨W.heap.size, 2, none⟩) lx).trans c2, (h.cell (p := ⟨W.heap.size, 3, none⟩) lx).trans c3, (h.cell (p := ⟨B, 0, none⟩) lB).trans d0⟩
  have HLD := Lib.hid hld; clear hld
  refine wp_region_sched (fun w' => Below W0.heap.size W0 w') [(0, true), (2, true), (1, false), (3, true), (4, true)] (by kernel_rfl) (by kernel_rfl) (by kernel_rfl) (by kernel_rfl) (fun _ _ d _ _ h => by cases d <;> exact h) ⟨rfl, rfl, rfl, Nat.le_refl _, fun _ _ => rfl⟩ ?_
  simp only [opsOf, List.filterMap_cons, List.filterMap_nil, Option.map_some, List.getElem?_toArray, List.getElem?_cons_zero, List.getElem?_cons_succ]
  generalize hW0 : ({ heap := W0.heap, tape := W0.tape, drawn := W0.drawn + 1, os := W0.os, output := W0.output } : World) = v0
  have hv0 : Below W0.heap.size W0 v0 := by rw [← hW0]; exact ⟨rfl, rfl, rfl, Nat.le_refl _, fun _ _ => rfl⟩
  clear hW0
  refine sched_run (v := ?_) (by rfl) ?_ ?_
  rotate_left
  · (intro w' hS'; obtain ⟨a1, a2, a3, a4, b1⟩ := HLD.out w' hS'; go_simp; try with_reducible rfl)
  try simp only [Act.put, List.setIfInBounds_toArray, List.set_cons_zero, List.set_cons_succ]
  refine sched_run (v := ?_) (by rfl) ?_ ?_
  rotate_left
  · (intro w' hS'; obtain ⟨a1, a2, a3, a4, b1⟩ := HLD.out w' hS'; go_simp; try with_reducible rfl)
  try simp only [Act.put, List.setIfInBounds_toArray, List.set_cons_zero, List.set_cons_succ]
  refine sched_call (by rfl) (fun K hK => ?_)
  go_simp
  refine (rowKey_b x _ HX.out).mono ?_
  rintro e v1 ⟨rfl, hb0⟩
  have hv1 : Below W0.heap.size W0 v1 := hv0.trans (hb0.mono hv0.size)
  clear hb0
  refine hK _ _ hv1 ?_
  try simp only [Act.put, List.setIfInBounds_toArray, List.set_cons_zero, List.set_cons_succ]
  refine sched_run (v := ?_) (by rfl) ?_ ?_
  rotate_left
  · (intro w' hS'; go_simp; try with_reducible rfl)
  try simp only [Act.put, List.setIfInBounds_toArray, List.set_cons_zero, List.set_cons_succ]
  refine sched_run (v := ?_) (by rfl) ?_ ?_
  rotate_left
  · (intro w' hS'; go_simp; try with_reducible rfl)
  try simp only [Act.put, List.setIfInBounds_toArray, List.set_cons_zero, List.set_cons_succ]
  refine sched_done ?_
  go_wp2_with fail
  go_ret
  exact ⟨rfl, hB0.trans (hv1.mono hS0)⟩

theorem hasKey_any (B : Option Addr) (d : Nat) (b : List R) (k : Int) (w : World) (fq : List Nat) (hfit : ∀ x ∈ b, Fit x) (hb : Rd w 4 (.slice B b.length d) (rcs b) fq) :
    Calls Try.prog 63 #[.slice B b.length d, .int .i64 k] w fun e w' => e = .returned (.bool (b.any fun x => keyR x == k)) ∧ Below w.heap.size w w' := by
  have eg : Hid (∀ args w, (callFunc 81 args).run Try.prog w = .ok (.enter 81 args) w) := enters_of Try.func81 (by kernel_rfl) rfl
  cases b with
  | nil =>
    go_enter Try.func63, Try.ntmps63
    go_wp2_with fail
    refine (containsNone _ _ _ _).mono ?_
    rintro e w1 ⟨rfl, rfl⟩
    go_wp2_with fail
    go_ret
    exact ⟨rfl, below_new _⟩
  | cons x0 t0 =>
    generalize hbb : x0 :: t0 = b at *
    have hlen : 0 < b.length := by rw [← hbb]; simp
    clear hbb
    have hmax := hb.len_le
    obtain ⟨blk, off, rfl, _, hlt, _⟩ := hb.row_at hlen
    obtain ⟨D, hD⟩ := lift_fit hfit
    have hDl : D.length = b.length := by have := congrArg List.length hD; simpa using this
    have hb1 := hb.alloc (.cells #[.int .i64 k] 2)
    have hp := keyPred k w.heap.size (w.alloc (.cells #[.int .i64 k] 2)) (heap_new w _ rfl)
    have hcon := AnyQ.slices_ContainsFunc Try.contRow 4 Try.isAgg26 Try.sizeOf26 encF (fun _ => rfl) (fun x => keyR x.1 == k) 81 #[.pointer (some ⟨w.heap.size, 0, none⟩)] eg.out blk off b.length d D (w.alloc (.cells #[.int .i64 k] 2))
      (fun W x hW => (hp W x.1 x.2 hW).mono fun _ _ ⟨he, hbl⟩ => ⟨he, hW.trans (hbl.mono hW.size)⟩) (by rw [hDl]; exact Nat.le_refl _) hmax (by simp; omega)
      (fun j hj i v hi => by
        obtain ⟨A', n', c', e, h1, h2, h2', h3⟩ := hb1
        injection e with e1 e2 e3
        rcases h3 with ⟨h3, _⟩ | ⟨b', off', hA, _, _, hcell⟩
        · omega
        · rw [← e1] at hA
          injection hA with hA; injection hA with hA1 hA2 _
          subst hA1 hA2
          rw [Nat.add_assoc]
          refine hcell (j * 4 + i) v ?_
          have hi4 : i < 4 := by
            rcases Nat.lt_or_ge i 4 with h | h
            · exact h
            · rw [List.getElem?_eq_none (by show (rc _).length ≤ i; rw [rc_length]; exact h)] at hi; cases hi
          rw [← hD, rcs_get _ j i (by simpa using hj) hi4, List.getElem_map, ← hi]
          rw [getElem!_pos D j hj]; rfl)
    have hany : (D.take b.length).any (fun x => keyR x.1 == k) = b.any fun x => keyR x == k := by
      rw [← hDl, List.take_length, ← hD, List.any_map]; rfl
    rw [hany] at hcon
    change Calls Try.prog 80 _ _ _ at hcon
    generalize (b.any fun x => keyR x == k) = res at *
    have HC := Lib.hid hcon
    clear hcon hp hb1 hany hDl hD D hb hfit
    go_enter Try.func63, Try.ntmps63
    go_wp2_with fail
    refine HC.out.mono ?_
    rintro e w1 ⟨rfl, hb1⟩
    have HB := Lib.hid ((below_new (w := w) (.cells #[.int .i64 k] 2)).trans (hb1.mono (by simp)))
    clear hb1
    go_wp2_with fail
    go_ret
    exact ⟨rfl, HB.out⟩
theorem zero_cells (n : Nat) : (Builtin.zeroCells (rv (0, 0, 0, 0)).cells n).size = n * 4 := by
  simp [Builtin.zeroCells, Value.cells]
/-- What growing nothing answers. -/
def GrowPost (w : World) (e : Ending) (w' : World) : Prop := ∃ v, e = .returned v ∧ w'.ownsRow w.heap.size 26 4 v 0 [] ∧ Below w.heap.size w w'
theorem grow_c (n : Nat) (hn : n ≤ 1000) (w : World) :
    Calls Try.prog 82 #[.slice none 0 0, .int .i64 n] w (GrowPost w) := by
  obtain ⟨i0, hi, hz, hsz, hby⟩ := infoRow
  rcases Nat.eq_zero_or_pos n with h0 | h0
  · subst h0
    exact (Any8.slices_Grow_room Try.growRow none 0 0 0 w (by omega) (by omega) (by omega) (by omega)).mono fun e w' ⟨he, hw⟩ => ⟨_, he, by rw [hw]; exact World.ownsRow_nil _ _ _ _, by rw [hw]; exact Below.refl _ _⟩
  · refine (Any8.slices_Grow_grow Try.growRow i0 (rv (0, 0, 0, 0)) hi hz (by omega) none 0 0 n [] w (by omega) (by omega) (by rw [hby]; omega) (by omega) (by simp) (fun _ => rfl) (fun a h => by cases h)).mono ?_
    rintro e w' ⟨he, hw⟩
    have hge := grownCap_ge w (0 + n) 0 26
    have hle := grownCap_le_maxLen w (0 + n) 0 26 (by unfold maxLen; omega)
    refine ⟨_, he, ?_, ?_⟩
    · rw [hw]
      exact World.ownsRow_made w.drew _ _ (Nat.le_refl _) hle (by rw [Array.size_append, Array.size_append, zero_cells, zero_cells]; change 0 + _ + _ = grownCap w (0 + n) 0 26 * 4; change 0 + (0 + n - 0) * 4 + (grownCap w (0 + n) 0 26 - (0 + n)) * 4 = _; omega)
    · rw [hw]
      exact (Below.refl w.heap.size w).drew.alloc (Nat.le_refl _) _

/-- What joining two lists of rows answers. -/
def ConcatPost (w : World) (L : List R) (e : Ending) (w' : World) : Prop := ∃ v, e = .returned v ∧ w'.ownsRow w.heap.size 26 4 v L.length (rcs L) ∧ Below w.heap.size w w'

set_option maxRecDepth 100000 in
set_option maxHeartbeats 4000000 in
theorem concat_c (A B : Option Addr) (c d g : Nat) (a b : List R) (w : World) (fp fq : List Nat) (hla : a.length ≤ 12) (hlb : b.length ≤ 12) (ha : Rd w 4 (.slice A a.length c) (rcs a) fp) (hb : Rd w 4 (.slice B b.length d) (rcs b) fq)
    (hg : w.heap[g]? = some (.cells #[.slice A a.length c, .slice B b.length d] 24 (0, 0))) :
    Calls Try.prog 64 #[.slice (some ⟨g, 0, none⟩) 2 2] w (ConcatPost w (a ++ b)) := by
  obtain ⟨i0, hi, hz, hsz, hby⟩ := infoRow
  have c0 : w.cell? ⟨g, 0, none⟩ = some (.slice A a.length c) := cell_of_heap hg
  have c1 : w.cell? ⟨g, 1, none⟩ = some (.slice B b.length d) := cell_of_heap hg
  have HG := Lib.hid hg; have HA := Lib.hid ha; have HBR := Lib.hid hb
  clear hg ha hb
  go_enter Try.func64, Try.ntmps64
  go_wp2
  refine wp_loop_rounds 3 ?_
  rw [rounds_succ]
  go_wp2
  rw [rounds_succ]
  go_wp2
  rw [rounds_succ]
  have hgr := grow_c (a.length + b.length) (by omega) w
  rw [Int.natCast_add] at hgr
  have HGR := Lib.hid hgr; clear hgr
  go_wp2_with fail
  refine HGR.out.mono ?_
  rintro e w1 ⟨v, rfl, hown, hb1⟩
  have hg1 := (hb1.block _ (heap_lt HG.out)).trans HG.out
  have ha1 := HA.out.below' hb1
  have HOW := Lib.hid hown; have HB1 := Lib.hid hb1; have HA1 := Lib.hid ha1
  clear c0 c1
  have c0 : w1.cell? ⟨g, 0, none⟩ = some (.slice A a.length c) := cell_of_heap hg1
  have hrow1 : ∀ k, v.ownBlock = some k → w.heap.size ≤ k := fun k hk => own_base' hown hk
  have HRW1 := Lib.hid hrow1
  have hs1 := hb1.size
  clear hg1 hown hb1 ha1 hrow1
  go_wp2_with fail
  refine wp_loop_rounds 3 ?_
  rw [rounds_succ]
  go_wp2_with (at_builtin; refine wpList_append_rd rfl _ _ 24 rfl w.heap.size 26 i0 (rv (0, 0, 0, 0)) 4 32 Try.underlying24 hi hz hsz hby rfl (by decide) _ 0 [] rfl HOW.out A a.length c (rcs a) fp rfl HA1.out (rcs_one a) ?d1 ?d2 ?d3 ?_)
  case d1 => unfold maxLen; omega
  case d2 => omega
  case d3 => exact hs1
  intro v2 w2 hown2 hgrow2
  have hb2 : Below w.heap.size w w2 := HB1.out.grown hgrow2 HB1.out.size HRW1.out
  have hg2 := (hb2.block _ (heap_lt HG.out)).trans HG.out
  have hbr2 := HBR.out.below' hb2
  have hown2' : w2.ownsRow w.heap.size 26 4 v2 a.length (rcs a) := by simpa using hown2
  have HOW2 := Lib.hid hown2'; have HB2 := Lib.hid hb2; have HBR2 := Lib.hid hbr2
  clear c0
  have c1 : w2.cell? ⟨g, 1, none⟩ = some (.slice B b.length d) := cell_of_heap hg2
  have hrow2 : ∀ k, v2.ownBlock = some k → w.heap.size ≤ k := fun k hk => own_base' hown2 hk
  have HRW2 := Lib.hid hrow2
  have hs2 := hb2.size
  clear hg2 hown2 hown2' hb2 hbr2 hrow2 hgrow2
  go_wp2_with fail
  rw [rounds_succ]
  go_wp2_with (at_builtin; refine wpList_append_rd rfl _ _ 24 rfl w.heap.size 26 i0 (rv (0, 0, 0, 0)) 4 32 Try.underlying24 hi hz hsz hby rfl (by decide) _ a.length (rcs a) rfl HOW2.out B b.length d (rcs b) fq rfl HBR2.out (rcs_one b) ?f1 ?f2 ?f3 ?_)
  case f1 => unfold maxLen; omega
  case f2 => omega
  case f3 => exact hs2
  intro v3 w3 hown3 hgrow3
  have hb3 : Below w.heap.size w w3 := HB2.out.grown hgrow3 HB2.out.size HRW2.out
  have hown3' : w3.ownsRow w.heap.size 26 4 v3 (a ++ b).length (rcs (a ++ b)) := by rw [List.length_append, rcs_append]; exact hown3
  have HOW3 := Lib.hid hown3'; have HB3 := Lib.hid hb3
  clear hown3 hown3' hb3 hgrow3 c1
  go_wp2_with fail
  rw [rounds_succ]
  go_wp2_with fail
  go_ret
  exact ⟨_, rfl, HOW3.out, HB3.out⟩
theorem joined_is {L xs ys o : List R} (hp : L.Perm (xs ++ ys)) (hl : L.Pairwise (fun x y => keyR x ≤ keyR y)) (ra : Rising none xs) (rb : Rising none ys) (hx : ∀ x ∈ ys, ∀ y ∈ xs, keyR y ≠ keyR x) (ro : Rising none o) (hm : ∀ x, x ∈ o ↔ x ∈ xs ∨ x ∈ ys) : L = o := by
  have h0 : ∀ x ∈ L, rowF x = 0 := fun x h => by
    rcases List.mem_append.1 (hp.mem_iff.1 h) with h | h
    · exact (ra.above x h).1
    · exact (rb.above x h).1
  have hne0 : (xs ++ ys).Pairwise (fun x y => keyR x ≠ keyR y) := List.pairwise_append.2 ⟨(rising_pairwise ra).imp (fun h => by omega), (rising_pairwise rb).imp (fun h => by omega), fun x hxa y hyb => hx y hyb x hxa⟩
  have hne : L.Pairwise (fun x y => keyR x ≠ keyR y) := (hp.pairwise_iff (fun {_ _} h => fun e => h e.symm)).2 hne0
  have hlt : L.Pairwise (fun x y => keyR x < keyR y) := (hl.and hne).imp (fun h => by omega)
  exact rising_ext (pairwise_rising (p := none) h0 hlt (fun k e => by cases e)) ro fun x => by rw [hp.mem_iff, List.mem_append, hm]
theorem any_key {ys : List R} {k : Int} : (ys.any fun x => keyR x == k) = true ↔ ∃ x ∈ ys, keyR x = k := by simp [List.any_eq_true]

set_option maxRecDepth 100000 in
set_option maxHeartbeats 4000000 in
theorem implJoinRows_a : AskJoinRows := by
  intro A B c d xs ys w fp fq hsa hsb hwa hwb ha hb
  have ha' := ha.alloc (.cells #[.int .i64 0, .slice none 0 0] 30)
  by_cases h0 : rowsF xs = 0
  · by_cases h1 : rowsF ys = 0
    · obtain ⟨hfa, hla⟩ := rowsF_fits h0
      obtain ⟨hfb, hlb⟩ := rowsF_fits h1
      have ra := (rowsF_rising h0).1
      have rb := (rowsF_rising h1).1
      have fa : ∀ y ∈ xs, Fit y := fun y hy => fit_of_rowF (ra.above y hy).1
      have fb : ∀ y ∈ ys, Fit y := fun y hy => fit_of_rowF (rb.above y hy).1
      have hjs := joinGo_spec fa ys xs none ra rb (fun y hy => .inl hy)
      have hC : jrC xs ys = jC (joinGo xs xs ys) := by simp [jrC, h0, h1]
      have hLr : jrL xs ys = if jC (joinGo xs xs ys) = 0 then (joinGo xs xs ys).getD [] else [] := by simp [jrL, hC]
      rw [hC, hLr]
      generalize joinGo xs xs ys = jg at *
      generalize hCC : jC jg = CC at *
      generalize hLL : (if CC = 0 then jg.getD [] else []) = LL at *
      have HCC := Lib.hid hCC; have HLL := Lib.hid hLL; clear hCC hLL
      have H0 := Lib.hid h0; have H1 := Lib.hid h1; have HFA := Lib.hid hfa; have FB := Lib.hid fb; have FA := Lib.hid fa
      have HJS := Lib.hid hjs; have RA := Lib.hid ra; have RB := Lib.hid rb
      clear h0 h1 hfa hfb ra rb fa fb hjs hC hLr
      go_enter Try.func30, Try.ntmps30
      go_wp2_with fail
      refine (implRowsFault_a A c xs _ fp hsa hwa ha').mono ?_
      rintro e w1 ⟨rfl, hb1⟩
      have g1 := newest hb1 (by simp)
      have hbw1 : Below w.heap.size w w1 := (below_new _).trans (hb1.mono (by simp))
      have HBW1 := Lib.hid hbw1; have G1 := Lib.hid g1
      clear hb1 hbw1
      rw [H0.out]
      clear g1
      have hbr1 := Lib.hid (hb.below' HBW1.out)
      go_wp2_with fail
      refine (implRowsFault_a B d ys _ fq hsb hwb hbr1.out).mono ?_
      rintro e w2 ⟨rfl, hb2⟩
      have g2 := (hb2.block _ (heap_lt G1.out)).trans G1.out
      have hbw2 := HBW1.out.trans (hb2.mono HBW1.out.size)
      have HBW2 := Lib.hid hbw2; have G2 := Lib.hid g2
      clear hb2 hbw2 hbr1
      rw [H1.out]
      clear g2
      go_wp2_with fail
      go_loopw [24] (fun i wr => ∃ k : Nat, k ≤ xs.length ∧ i = .int .i64 k ∧ Hid (Below w2.heap.size w2 wr) ∧ Hid (∀ j (h : j < xs.length), j < k → ∀ x ∈ ys, keyR x ≠ keyR xs[j])) (fun i _ => xs.length - (intOf i).toNat)
      case atStart => exact ⟨0, Nat.zero_le _, rfl, Below.refl _ _, fun j _ h => by omega⟩
      case round =>
        obtain ⟨k, hk, rfl, hbel, hno⟩ := hrel
        have hbw : Below w.heap.size w wr := HBW2.out.trans (hbel.out.mono HBW2.out.size)
        have hgr := (hbel.out.block _ (heap_lt G2.out)).trans G2.out
        have HBW := Lib.hid hbw; have GR := Lib.hid hgr
        by_cases hlt : k < xs.length
        · obtain ⟨bk, off, hA, _, _, p0, p1, p2, p3⟩ := (ha.below' hbw).row_at hlt
          subst hA
          have hfk := HFA.out k hlt
          have hmk : xs[k] ∈ xs := List.getElem_mem hlt
          have hno' : ∀ r, r = xs[k] → (ys.any fun x => keyR x == keyR r) = false → ∀ j (h : j < xs.length), j < k + 1 → ∀ x ∈ ys, keyR x ≠ keyR xs[j] := fun r hr hf j h hj x hx e => by
            by_cases ej : j = k
            · subst ej
              rw [hr] at hf
              rw [any_key.2 ⟨x, hx, e⟩] at hf; cases hf
            · exact hno.out j h (by omega) x hx e
          generalize hr : xs[k] = r at *
          have HR := Lib.hid hr; have HNO := Lib.hid hno'; have HFK := Lib.hid hfk; have HMK := Lib.hid hmk
          clear hr hno' hfk hmk hbw hgr
          go_wp2_with fail
          refine (rowKey_c r _ HFK.out).mono ?_
          rintro e w3 ⟨rfl, hw3⟩
          have hbw3 : Below wr.heap.size wr w3 := by rw [hw3]; exact below_more (below_new _) _
          have hb3 := hb.below' (HBW.out.trans (hbw3.mono HBW.out.size))
          have HW3 := Lib.hid hw3; have HBW3 := Lib.hid hbw3; have HB3 := Lib.hid hb3
          clear hw3 hbw3 hb3 p0 p1 p2 p3
          cases hany : (ys.any fun x => keyR x == keyR r)
          · have HAN := Lib.hid hany; clear hany
            go_wp2_with fail
            refine (hasKey_any B d ys (keyR r) _ fq FB.out HB3.out).mono ?_
            rintro e w4 ⟨rfl, hb4⟩
            rw [HAN.out]
            have HB4 := Lib.hid (hbel.out.trans ((HBW3.out.trans (hb4.mono HBW3.out.size)).mono hbel.out.size))
            have HN2 := Lib.hid (HNO.out r rfl HAN.out)
            clear hb4
            go_wp2_with fail
            exact ⟨⟨k + 1, by omega, by go_num, HB4.out, HN2.out⟩, by simp [intOf]; omega⟩
          · have HAN := Lib.hid hany
            obtain ⟨x, hx, hxk⟩ := any_key.1 hany
            have hjg : jg = none := by
              rcases HJS.out with ⟨_, h⟩ | ⟨hall, _⟩
              · exact h
              · exact absurd hxk.symm (hall x hx r HMK.out)
            have e1 : CC = 6 := by rw [← HCC.out, hjg]; rfl
            have e2 : LL = [] := by rw [← HLL.out, e1]; rfl
            subst e1 e2
            clear hany hx hxk x hjg
            go_wp2_with fail
            refine (hasKey_any B d ys (keyR r) _ fq FB.out HB3.out).mono ?_
            rintro e w4 ⟨rfl, hb4⟩
            rw [HAN.out]
            have hB4 : Below wr.heap.size wr w4 := HBW3.out.trans (hb4.mono HBW3.out.size)
            have g4 := (hB4.block _ (heap_lt GR.out)).trans GR.out
            have hbw4 := HBW.out.trans (hB4.mono HBW.out.size)
            have HBW4 := Lib.hid hbw4
            clear hb4 hB4 hbw4
            obtain ⟨d0, d1, e0, e1, hz1⟩ := two_at g4
            have HST := Lib.hid (rres_stored (code := 6) (rs := []) (g := w.heap.size) HBW4.out (by omega) (Rd.nil _ 4) (NF.nil _) (From.nil _))
            clear g4
            go_wp2_with fail
            exact bodyPost_ret (v := .agg #[.int .i64 6, .slice none 0 0]) (by simp [results, Try.results30, go_sem, d0, d1, hz1]) rfl ⟨_, rfl, HST.out.1, HST.out.2⟩
        · obtain rfl : k = xs.length := by omega
          have hdis : ∀ x ∈ ys, ∀ y ∈ xs, keyR y ≠ keyR x := fun x hx y hy e => by
            obtain ⟨j, hj, hjy⟩ := List.getElem_of_mem hy
            exact hno.out j hj (by omega) x hx (by rw [hjy]; exact e.symm)
          obtain ⟨o, hjg, hor, hom, hol⟩ : ∃ o, jg = some o ∧ Rising none o ∧ (∀ x, x ∈ o ↔ x ∈ xs ∨ x ∈ ys) ∧ o.length = xs.length + ys.length := by
            rcases HJS.out with ⟨⟨x, hx, y, hy, e⟩, _⟩ | ⟨_, o, h1, h2, h3, h4⟩
            · exact absurd e (hdis x hx y hy)
            · exact ⟨o, h1, h2, h3, h4⟩
          have HJG := Lib.hid hjg; clear hjg
          have HOR := Lib.hid hor; have HOM := Lib.hid hom; have HOL := Lib.hid hol; have HDIS := Lib.hid hdis
          clear hor hom hol hdis hbw
          by_cases hbig : 12 < xs.length + ys.length
          · have e1 : CC = 2 := by rw [← HCC.out, HJG.out]; simp [jC, HOL.out, hbig]
            have e2 : LL = [] := by rw [← HLL.out, e1]; rfl
            subst e1 e2
            have hbi : (12 : Int) < (xs.length : Int) + (ys.length : Int) := by omega
            obtain ⟨d0, d1, e0, e1, hz1⟩ := two_at hgr
            have HST := Lib.hid (rres_stored (code := 2) (rs := []) (g := w.heap.size) HBW.out (by omega) (Rd.nil _ 4) (NF.nil _) (From.nil _))
            clear hgr
            go_wp2_with fail
            exact bodyPost_ret (v := .agg #[.int .i64 2, .slice none 0 0]) (by simp [results, Try.results30, go_sem, d0, d1, hz1]) rfl ⟨_, rfl, HST.out.1, HST.out.2⟩
          · have e1 : CC = 0 := by rw [← HCC.out, HJG.out]; simp [jC, HOL.out, hbig]
            have e2 : LL = o := by rw [← HLL.out, e1, HJG.out]; rfl
            subst e1 e2
            have hbi : ¬ ((12 : Int) < (xs.length : Int) + (ys.length : Int)) := by omega
            clear hgr
            have hga : (wr.alloc (.cells #[.slice A xs.length c, .slice B ys.length d] 24)).heap[wr.heap.size]? = some (.cells #[.slice A xs.length c, .slice B ys.length d] 24 (0, 0)) := heap_new wr _ rfl
            have hcc := concat_c A B c d wr.heap.size xs ys _ fp fq hla hlb ((ha.below' HBW.out).alloc _) ((hb.below' HBW.out).alloc _) hga
            have HCC := Lib.hid hcc; clear hcc hga
            go_wp2_with fail
            refine HCC.out.mono ?_
            rintro e w5 ⟨v5, rfl, hown5, hb5⟩
            have hsz5 : w.heap.size + 1 ≤ wr.heap.size := by have := heap_lt GR.out; omega
            have hbw5 : Below wr.heap.size wr w5 := (below_new _).trans (hb5.mono (by simp))
            have g5 := (hbw5.block _ (heap_lt GR.out)).trans GR.out
            have hown5' : w5.ownsRow wr.heap.size 26 4 v5 (xs ++ ys).length (rcs (xs ++ ys)) := own_lower hown5 (by simp)
            have HBW5 := Lib.hid (HBW.out.trans (hbw5.mono HBW.out.size)); have G5 := Lib.hid g5
            clear hown5 hb5 hbw5 g5
            rcases Nat.eq_zero_or_pos (xs ++ ys).length with hz | hz
            · have hnil : xs ++ ys = [] := List.eq_nil_of_length_eq_zero hz
              have hLL : LL = [] := List.eq_nil_of_length_eq_zero (by rw [HOL.out, ← List.length_append]; exact hz)
              subst hLL
              rw [hnil] at hown5'
              obtain ⟨f5, hrv, hnv, hfv⟩ := Rd.of_own hown5'
              obtain ⟨A5, c5, rfl⟩ := Rd.rows_form (rs := []) hrv
              have HRV := Lib.hid hrv; have HNV := Lib.hid hnv; have HFV := Lib.hid hfv
              clear hown5' hnil hz hrv hnv hfv
              go_wp2_with fail
              refine (sortByNone A5 c5 _ _ rfl ⟨_, _, _, rfl⟩).mono ?_
              rintro e w6 ⟨rfl, hb6⟩
              have g6 := (hb6.block _ (heap_lt G5.out)).trans G5.out
              have hrv6 := HRV.out.below' hb6
              have hnv6 : NF w6 f5 := HNV.out.keep fun q hq => hb6.block q (HRV.out.lt q hq)
              have hbw6 := HBW5.out.trans (hb6.mono HBW5.out.size)
              obtain ⟨d0, d1, e0, e1, hz1⟩ := two_at g6
              have HST := Lib.hid (rres_stored (code := 0) (rs := []) (g := w.heap.size) hbw6 (by omega) hrv6 hnv6 (HFV.out.mono (by omega)))
              clear g6 hrv6 hnv6 hbw6 hb6
              go_wp2_with fail
              exact bodyPost_ret (v := .agg #[.int .i64 0, .slice A5 0 c5]) (by simp [results, Try.results30, go_sem, d0, d1, hz1]) rfl ⟨_, rfl, HST.out.1, HST.out.2⟩
            · obtain ⟨nn, hnn⟩ : ∃ nn, (xs ++ ys).length = nn + 1 := ⟨(xs ++ ys).length - 1, by omega⟩
              rw [hnn] at hown5'
              obtain ⟨g, off, c5, rfl, hc5, hgb, hrd5, hnf5⟩ := own_rd hown5'
              obtain ⟨D, hD⟩ := lift_fit (L := xs ++ ys) (fun x hx => by
                rcases List.mem_append.1 hx with hx | hx
                · exact FA.out x hx
                · exact FB.out x hx)
              have hDl : D.length = nn + 1 := by
                have := congrArg List.length hD
                rw [List.length_map, hnn] at this
                exact this
              rw [← hD, ← hDl] at hrd5
              have h12 : (xs ++ ys).length ≤ 12 := by rw [List.length_append]; omega
              have hsort := sortBy_c D g off c5 w5 (by rw [hDl, ← hnn]; exact h12) (by rw [hDl]; exact hc5) hrd5 hnf5
              rw [hD, hDl] at hsort
              have HSO := Lib.hid hsort
              clear hsort hrd5 hnf5 hDl hD D hown5' hz hnn h12
              go_wp2_with fail
              refine HSO.out.mono ?_
              rintro e w6 ⟨rfl, L', q1, q2, q3, q4, q5⟩
              have hL' : L' = LL := joined_is q1 q2 RA.out RB.out HDIS.out HOR.out HOM.out
              subst hL'
              have g6 := q5.heap G5.out (by simp; omega)
              have hb6 : Below w.heap.size w w6 := HBW5.out.trans (q5.below HBW5.out.size (by intro ys hb; simp at hb; omega))
              obtain ⟨d0, d1, e0, e1, hz1⟩ := two_at g6
              have HST := Lib.hid (rres_stored (code := 0) (g := w.heap.size) hb6 (by omega) q3 q4 (by intro ys hb; simp at hb; omega))
              clear g6 q1 q2 q3 q4 q5 hb6
              go_wp2_with fail
              exact bodyPost_ret (v := .agg #[.int .i64 0, .slice (some ⟨g, off, none⟩) (nn + 1) c5]) (by simp [results, Try.results30, go_sem, d0, d1, hz1]) rfl ⟨_, rfl, HST.out.1, HST.out.2⟩
    · have hC : jrC xs ys = rowsF ys := by simp [jrC, h0, h1]
      have hL : jrL xs ys = [] := by simp [jrL, hC, h1]
      rw [hC, hL]
      have H0 := Lib.hid h0
      have hne : (rowsF ys != 0) = true := by simpa using h1
      clear h0 h1 hC hL
      go_enter Try.func30, Try.ntmps30
      go_wp2_with fail
      refine (implRowsFault_a A c xs _ fp hsa hwa ha').mono ?_
      rintro e w1 ⟨rfl, hb1⟩
      have g1 := newest hb1 (by simp)
      have hbw1 : Below w.heap.size w w1 := (below_new _).trans (hb1.mono (by simp))
      have HBW1 := Lib.hid hbw1; have G1 := Lib.hid g1
      clear hb1 hbw1
      rw [H0.out]
      clear g1
      have hbr1 := Lib.hid (hb.below' HBW1.out)
      go_wp2_with fail
      refine (implRowsFault_a B d ys _ fq hsb hwb hbr1.out).mono ?_
      rintro e w2 ⟨rfl, hb2⟩
      have g2 := (hb2.block _ (heap_lt G1.out)).trans G1.out
      have hbw2 := HBW1.out.trans (hb2.mono HBW1.out.size)
      have HBW2 := Lib.hid hbw2; have G2 := Lib.hid g2
      clear hb2 hbw2 hbr1
      obtain ⟨d0, d1, e0, e1, hz1⟩ := two_at g2
      have HST := Lib.hid (rres_stored (code := (rowsF ys)) (rs := []) (g := w.heap.size) HBW2.out (by omega) (Rd.nil _ 4) (NF.nil _) (From.nil _))
      clear g2
      go_wp2_with fail
      exact bodyPost_ret (v := .agg #[.int .i64 (rowsF ys), .slice none 0 0]) (by simp [results, Try.results30, go_sem, d0, d1, hz1]) rfl ⟨_, rfl, HST.out.1, HST.out.2⟩
  · have hC : jrC xs ys = rowsF xs := by simp [jrC, h0]
    have hL : jrL xs ys = [] := by simp [jrL, hC, h0]
    rw [hC, hL]
    have hne : (rowsF xs != 0) = true := by simpa using h0
    clear h0 hC hL
    go_enter Try.func30, Try.ntmps30
    go_wp2_with fail
    refine (implRowsFault_a A c xs _ fp hsa hwa ha').mono ?_
    rintro e w1 ⟨rfl, hb1⟩
    have g1 := newest hb1 (by simp)
    have hbw1 : Below w.heap.size w w1 := (below_new _).trans (hb1.mono (by simp))
    have HBW1 := Lib.hid hbw1; have G1 := Lib.hid g1
    clear hb1 hbw1
    obtain ⟨d0, d1, e0, e1, hz1⟩ := two_at g1
    have HST := Lib.hid (rres_stored (code := (rowsF xs)) (rs := []) (g := w.heap.size) HBW1.out (by omega) (Rd.nil _ 4) (NF.nil _) (From.nil _))
    clear g1
    go_wp2_with fail
    exact bodyPost_ret (v := .agg #[.int .i64 (rowsF xs), .slice none 0 0]) (by simp [results, Try.results30, go_sem, d0, d1, hz1]) rfl ⟨_, rfl, HST.out.1, HST.out.2⟩
end Go.Proofs.Ythmmjkpgepffeaa
