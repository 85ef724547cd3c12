/-
  Contracts of the program's functions of chapter 2, fourth part: sorting.
-/
import Derived.Test.YtldimfmhbdhbnaaGreatG27
import Derived.Test.YtldimfmhbdhbnaaGreatShelf2
import Derived.Test.YtldimfmhbdhbnaaGreatG17
namespace Go.Proofs.YtldimfmhbdhbnaaGreat
open Go.RowKit

/-- w' is W but for draws and for new blocks. -/
def Grown (W w' : World) : Prop := ∃ q os, w' = Sort.grow (W.drewN q) os
theorem Grown.cell {W w' : World} (h : Grown W w') {p : Addr} (hp : p.block < W.heap.size) : w'.cell? p = W.cell? p := by
  obtain ⟨q, os, rfl⟩ := h
  exact Sort.cell?_grow (W.drewN q) os p hp
theorem Grown.alloc {W w' : World} (h : Grown W w') (o : Obj) : Grown W (w'.alloc o) := by
  obtain ⟨q, os, rfl⟩ := h
  exact ⟨q, os ++ #[o], by rw [Sort.alloc_eq_grow, Sort.grow_grow]⟩
theorem Grown.trans {W v w' : World} (h : Grown W v) (k : Grown v w') : Grown W w' := by
  obtain ⟨q, os, rfl⟩ := h
  obtain ⟨q', os', rfl⟩ := k
  exact ⟨q + q', os ++ os', by
    show Sort.grow (Sort.grow ((W.drewN q).drewN q') os) os' = _
    rw [Sort.grow_grow, World.drewN_drewN]⟩
theorem Grown.new (W : World) (o : Obj) : Grown W (W.alloc o) := ⟨0, #[o], Sort.alloc_eq_grow W o⟩

/-- A row that fits. -/
abbrev FR := { r : R // Fit r }
instance : Inhabited FR := ⟨⟨(0, 1, 0, 0), by unfold Fit; simp only; omega⟩⟩
def encF (x : FR) : List Value := rc x.1
def cfR (x y : FR) : Int := Lib.compareInt (keyR x.1) (keyR y.1)

theorem compare_c (a b : Int) (w : World) : Calls Tryz.prog 112 #[.int .i64 a, .int .i64 b] w fun e w' => e = .returned (.int .i64 (Lib.compareInt a b)) ∧ w' = w := AnyG.cmp_Compare_int Tryz.cmpInt a b w

set_option maxRecDepth 100000 in
set_option maxHeartbeats 1000000 in
theorem cmpRow_c (x y : R) (hx : Fit x) (hy : Fit y) (B : Nat) (W : World) (hc : W.cell? ⟨B, 0, none⟩ = some (.func (.func 48) #[] #[])) (hB : B < W.heap.size) :
    Calls Tryz.prog 111 #[rv x, rv y, .pointer (some ⟨B, 0, none⟩)] W fun e w' => e = .returned (.int .i64 (Lib.compareInt (keyR x) (keyR y))) ∧ Grown W w' := by
  have eg : ∀ args w, (callFunc 48 args).run Tryz.prog w = .ok (.enter 48 args) w := enters_of Tryz.func48 (by kernel_rfl) rfl
  have HX := Lib.hid hx; have HY := Lib.hid hy
  generalize hR : Lib.compareInt (keyR x) (keyR y) = res
  have HR := Lib.hid hR
  clear hx hy hR
  have GB := Lib.hid hc; clear hc
  go_enter Tryz.func111, Tryz.ntmps111
  go_wp2_with fail
  obtain ⟨c0, c1, c2, c3, _⟩ := four_at (heap_old (o' := rbox y) (heap_new W (rbox x) rfl))
  obtain ⟨d0, d1, d2, d3, _, _, _, _, ly⟩ := four_at (heap_new (W.alloc (rbox x)) (rbox y) (g := W.heap.size + 1) (by simp))
  have hG : Grown W ((W.alloc (rbox x)).alloc (rbox y)) := (Grown.new W _).alloc _
  have gB := (hG.cell (p := ⟨B, 0, none⟩) hB).trans GB.out
  have lB : B < ((W.alloc (rbox x)).alloc (rbox y)).heap.size := by simp; omega
  have lx : W.heap.size < ((W.alloc (rbox x)).alloc (rbox y)).heap.size := by simp; omega
  generalize (W.alloc (rbox x)).alloc (rbox y) = W0 at *
  have hld : ∀ w', Grown W0 w' → w'.cell? ⟨B, 0, none⟩ = some (.func (.func 48) #[] #[]) ∧ w'.cell? ⟨W.heap.size, 0, none⟩ = some (.int .i64 x.1) ∧ w'.cell? ⟨W.heap.size, 1, none⟩ = some (.int .i64 x.2.1) ∧ w'.cell? ⟨W.heap.size, 2, none⟩ = some (.int .i64 x.2.2.1) ∧ w'.cell? ⟨W.heap.size, 3, none⟩ = some (.int .i64 x.2.2.2) ∧ w'.cell? ⟨(W.heap.size + 1), 0, none⟩ = some (.int .i64 y.1) ∧ w'.cell? ⟨(W.heap.size + 1), 1, none⟩ = some (.int .i64 y.2.1) ∧ w'.cell? ⟨(W.heap.size + 1), 2, none⟩ = some (.int .i64 y.2.2.1) ∧ w'.cell? ⟨(W.heap.size + 1), 3, none⟩ = some (.int .i64 y.2.2.2) := fun w' h => ⟨(h.cell (p := ⟨B, 0, none⟩) lB).trans gB, (h.cell (p := ⟨W.heap.size, 0, none⟩) lx).trans c0, (h.cell (p := ⟨W.heap.size, 1, none⟩) lx).trans c1, (h.cell (p := ⟨W.heap.size, 2, none⟩) lx).trans c2, (h.cell (p := ⟨W.heap.size, 3, none⟩) lx).trans c3, (h.cell (p := ⟨W.heap.size + 1, 0, none⟩) ly).trans d0, (h.cell (p := ⟨W.heap.size + 1, 1, none⟩) ly).trans d1, (h.cell (p := ⟨W.heap.size + 1, 2, none⟩) ly).trans d2, (h.cell (p := ⟨W.heap.size + 1, 3, none⟩) ly).trans d3⟩
  have HLD := Lib.hid hld; clear hld
  refine wp_region_sched (fun w' => Grown W0 w') [(0, true), (1, true), (3, true), (4, true), (2, false), (5, false), (6, false), (7, true)] (by kernel_rfl) (by kernel_rfl) (by kernel_rfl) (by kernel_rfl) (fun _ _ d _ _ h => by cases d <;> exact h) ⟨1, #[], by simp [World.drewN]⟩ ?_
  simp only [opsOf, List.filterMap_cons, List.filterMap_nil, Option.map_some, List.getElem?_toArray, List.getElem?_cons_zero, List.getElem?_cons_succ]
  generalize hW0 : ({ heap := W0.heap, tape := W0.tape, drawn := W0.drawn + 1, os := W0.os, output := W0.output } : World) = v0
  have hv0 : Grown W0 v0 := by rw [← hW0]; exact ⟨1, #[], by simp [World.drewN]⟩
  clear hW0
  refine sched_run (v := ?_) (by rfl) ?_ ?_
  rotate_left
  · (intro w' hS'; obtain ⟨a0, a1, a2, a3, a4, b1, b2, b3, b4⟩ := HLD.out w' hS'; go_simp; try with_reducible rfl)
  try simp only [Act.put, List.setIfInBounds_toArray, List.set_cons_zero, List.set_cons_succ]
  refine sched_run (v := ?_) (by rfl) ?_ ?_
  rotate_left
  · (intro w' hS'; obtain ⟨a0, a1, a2, a3, a4, b1, b2, b3, b4⟩ := HLD.out w' hS'; go_simp; try with_reducible rfl)
  try simp only [Act.put, List.setIfInBounds_toArray, List.set_cons_zero, List.set_cons_succ]
  refine sched_run (v := ?_) (by rfl) ?_ ?_
  rotate_left
  · (intro w' hS'; obtain ⟨a0, a1, a2, a3, a4, b1, b2, b3, b4⟩ := HLD.out w' hS'; go_simp; try with_reducible rfl)
  try simp only [Act.put, List.setIfInBounds_toArray, List.set_cons_zero, List.set_cons_succ]
  refine sched_run (v := ?_) (by rfl) ?_ ?_
  rotate_left
  · (intro w' hS'; obtain ⟨a0, a1, a2, a3, a4, b1, b2, b3, b4⟩ := HLD.out w' hS'; go_simp; try with_reducible rfl)
  try simp only [Act.put, List.setIfInBounds_toArray, List.set_cons_zero, List.set_cons_succ]
  refine sched_call (by rfl) (fun K hK => ?_)
  go_simp
  refine (rowKey_c x _ HX.out).mono ?_
  rintro e v1 ⟨rfl, hb0⟩
  have hv1 : Grown W0 v1 := by rw [hb0]; exact hv0.alloc _
  clear hb0
  refine hK _ _ hv1 ?_
  try simp only [Act.put, List.setIfInBounds_toArray, List.set_cons_zero, List.set_cons_succ]
  refine sched_call (by rfl) (fun K hK => ?_)
  go_simp
  refine (rowKey_c y _ HY.out).mono ?_
  rintro e v2 ⟨rfl, hb1⟩
  have hv2 : Grown W0 v2 := by rw [hb1]; exact hv1.alloc _
  clear hb1
  refine hK _ _ hv2 ?_
  try simp only [Act.put, List.setIfInBounds_toArray, List.set_cons_zero, List.set_cons_succ]
  refine sched_call (by rfl) (fun K hK => ?_)
  go_simp
  refine (compare_c _ _ _).mono ?_
  rintro e v3 ⟨rfl, hb2⟩
  have hv3 : Grown W0 v3 := by rw [hb2]; exact hv2
  clear hb2
  refine hK _ _ hv3 ?_
  try simp only [Act.put, List.setIfInBounds_toArray, List.set_cons_zero, List.set_cons_succ]
  refine sched_run (v := ?_) (by rfl) ?_ ?_
  rotate_left
  · (intro w' hS'; go_simp; try with_reducible rfl)
  try simp only [Act.put, List.setIfInBounds_toArray, List.set_cons_zero, List.set_cons_succ]
  refine sched_done ?_
  go_wp2_with fail
  go_ret
  exact ⟨by rw [← HR.out]; rfl, hG.trans hv3⟩
theorem cmpLays_c (B blk off size : Nat) (w : World) (hc : w.cell? ⟨B, 0, none⟩ = some (.func (.func 48) #[] #[])) (hB : B < w.heap.size) (hne : B ≠ blk) :
    CmpLays Tryz.prog 111 #[.pointer (some ⟨B, 0, none⟩)] encF 4 cfR blk off size w := by
  intro m os dk hs x y
  have hcell : (sortWorldK encF 4 w blk off m dk os).cell? ⟨B, 0, none⟩ = some (.func (.func 48) #[] #[]) := by
    unfold sortWorldK
    rw [Sort.cell?_grow _ _ _ (by rw [Sort.size_putRowK]; exact hB), Sort.cell?_putRowK_other _ _ _ _ _ _ _ hne]
    exact hc
  have hlt : B < (sortWorldK encF 4 w blk off m dk os).heap.size := Nat.lt_of_lt_of_le hB (size_sortWorldK_c encF 4 w blk off m dk os)
  exact cmpRow_c x.1 y.1 x.2 y.2 B _ hcell hlt

theorem bitsLen_c (n : Nat) (W : World) (h : n ≤ 12) : Calls Tryz.prog 120 #[.int .u64 n] W fun e w' => (∃ l : Int, e = .returned (.int .i64 l)) ∧ w' = W :=
  (Any.bits_Len Tryz.bitsLen n W (by omega) (by omega)).mono fun _ _ ⟨he, hw⟩ => ⟨⟨_, he⟩, hw⟩

theorem cfR_neg (x y : FR) : ltOf cfR x y = decide (keyR x.1 < keyR y.1) := by
  unfold ltOf cfR Lib.compareInt
  by_cases h1 : keyR x.1 < keyR y.1
  · simp [h1]
  · by_cases h2 : keyR y.1 < keyR x.1 <;> simp [h1, h2]
theorem cfR_swo : Sort.SWO (ltOf cfR) :=
  ⟨fun x => by rw [cfR_neg]; simp, fun x y z h1 h2 => by rw [cfR_neg] at *; simp at *; omega, fun x y z h1 h2 => by rw [cfR_neg] at *; simp at *; omega⟩
theorem flat_at (D : List FR) (j : Nat) (hj : j < D.length * 4) : (rcs (D.map (·.1)))[j]? = some (Sort.flatK encF 4 D.toArray)[j]! := by
  have h4 : j / 4 < D.length := by omega
  have e : j / 4 * 4 + j % 4 = j := by omega
  have h5 : j % 4 < 4 := Nat.mod_lt _ (by omega)
  rw [Sort.get_flatK _ _ _ j (by simpa using hj)]
  have hg := rcs_get (D.map (·.1)) (j / 4) (j % 4) (by simpa using h4) h5
  rw [e] at hg
  rw [hg, List.getElem_map]
  have h6 : D.toArray[j / 4]! = D[j / 4] := by rw [getElem!_pos D.toArray (j / 4) (by simpa using h4)]; simp
  rw [h6]
  have h7 : j % 4 < (rc D[j / 4].1).length := by rw [rc_length]; exact h5
  unfold encF
  rw [List.getElem?_eq_getElem h7, getElem!_pos (rc D[j / 4].1) (j % 4) h7]
theorem lift_fit {L : List R} (h : ∀ x ∈ L, Fit x) : ∃ D : List FR, D.map (·.1) = L := by
  induction L with
  | nil => exact ⟨[], rfl⟩
  | cons x t ih =>
    obtain ⟨D, hD⟩ := ih fun y hy => h y (List.mem_cons_of_mem _ hy)
    exact ⟨⟨x, h x List.mem_cons_self⟩ :: D, by simp [hD]⟩
theorem holds_of_rd {w : World} {D : List FR} {blk off c : Nat} (hr : Rd w 4 (.slice (some ⟨blk, off, none⟩) D.length c) (rcs (D.map (·.1))) [blk]) (hn : NF w [blk]) : Sort.HoldsK encF 4 w blk off D.toArray := by
  obtain ⟨A', n', c', e, h1, h2, h2', h3⟩ := hr
  injection e with e1 e2 e3
  subst e2
  intro j hj
  rw [Sort.size_flatK, List.size_toArray] at hj
  refine ⟨?_, hn blk (by simp) _⟩
  rcases h3 with ⟨_, h3⟩ | ⟨b, off', hA, hf, hb, hc⟩
  · cases h3
  · rw [← e1] at hA
    injection hA with hA; injection hA with hA1 hA2 _
    subst hA1 hA2
    exact hc j _ (flat_at D j hj)
theorem rd_of_holds {w : World} {D : List FR} {blk off c : Nat} (hH : Sort.HoldsK encF 4 w blk off D.toArray) (hb : blk < w.heap.size) (hn : D.length ≤ maxLen) (hc : D.length ≤ c) : Rd w 4 (.slice (some ⟨blk, off, none⟩) D.length c) (rcs (D.map (·.1))) [blk] := by
  refine ⟨_, _, _, rfl, by rw [rcs_length]; simp, hn, hc, .inr ⟨blk, off, rfl, rfl, hb, fun i u hu => ?_⟩⟩
  have hi : i < D.length * 4 := by
    rcases Nat.lt_or_ge i (D.length * 4) with h | h
    · exact h
    · rw [List.getElem?_eq_none (by rw [rcs_length]; simpa using h)] at hu; cases hu
  rw [flat_at D i hi] at hu
  injection hu with hu
  rw [← hu]
  exact (hH i (by rw [Sort.size_flatK, List.size_toArray]; exact hi)).1
theorem sortWorld_but (w : World) (blk off n : Nat) (d : Array FR) (os : Array Obj) : But [blk] w (sortWorldK encF 4 w blk off n d os) := by
  refine ⟨rfl, rfl, rfl, size_sortWorldK_c encF 4 w blk off n d os, fun k hk hne => ?_⟩
  have hne' : blk ≠ k := fun e => hne (by simp [e])
  unfold sortWorldK
  rw [Sort.heap_grow_old _ _ (by rw [Sort.size_putRowK]; exact hk)]
  simp [Sort.putRowK, Sort.putRow, Sort.mapBlock, Array.getElem?_modify, hne', Sort.ahead]
theorem sortWorld_nf {w : World} (blk off n : Nat) (d : Array FR) (os : Array Obj) (h : NF w [blk]) (hb : blk < w.heap.size) : NF (sortWorldK encF 4 w blk off n d os) [blk] := by
  intro b hm i
  simp at hm
  subst hm
  unfold sortWorldK
  rw [Sort.frozen?_grow _ _ _ (by rw [Sort.size_putRowK]; exact hb)]
  unfold Sort.putRowK
  rw [Sort.frozen?_putRow]
  exact h b (by simp) i

/-- What sorting the rows L in place, in block blk, answers and leaves. -/
def SortPost (w : World) (blk off n c : Nat) (L : List R) (e : Ending) (w' : World) : Prop :=
  e = .returned (.tuple #[]) ∧ ∃ L' : List R, L'.Perm L ∧ L'.Pairwise (fun a b => keyR a ≤ keyR b) ∧ Rd w' 4 (.slice (some ⟨blk, off, none⟩) n c) (rcs L') [blk] ∧ NF w' [blk] ∧ But [blk] w w'

theorem sort_c (D : List FR) (blk off c B : Nat) (w : World) (hn : D.length ≤ 12) (hc : D.length ≤ c) (hb : blk < w.heap.size) (hr : Rd w 4 (.slice (some ⟨blk, off, none⟩) D.length c) (rcs (D.map (·.1))) [blk]) (hnf : NF w [blk])
    (hcB : w.cell? ⟨B, 0, none⟩ = some (.func (.func 48) #[] #[])) (hB : B < w.heap.size) (hne : B ≠ blk) :
    Calls Tryz.prog 110 #[.slice (some ⟨blk, off, none⟩) D.length c, .func (.func 111) #[] #[.pointer (some ⟨B, 0, none⟩)]] w (SortPost w blk off D.length c (D.map (·.1))) := by
  have eg : ∀ args w, (callFunc 111 args).run Tryz.prog w = .ok (.enter 111 args) w := enters_of Tryz.func111 (by kernel_rfl) rfl
  have hH := holds_of_rd hr hnf
  have hcon := AnyQ.slices_SortFunc_small_sorted Tryz.sortRow 4 Tryz.isAgg40 Tryz.sizeOf40 encF (fun _ => rfl) (fun x => rc_one x.1) cfR 111 #[.pointer (some ⟨B, 0, none⟩)] cfR_swo blk off c D.toArray w eg
    (cmpLays_c B blk off _ w hcB hB hne) hH hb (by simpa using hn) bitsLen_c
  refine Calls.mono hcon ?_
  rintro e w' ⟨rfl, d', n, os, ⟨hs, _, hp⟩, hso, rfl⟩
  have hsz : d'.size = D.length := by rw [hs]; simp
  have hext : (d'.extract 0 D.toArray.size) = d' := by simp [hsz]
  have hext2 : (D.toArray.extract 0 D.toArray.size) = D.toArray := by simp
  rw [hext, hext2] at hp
  have hH2 := holdsK_sortWorldK_c encF 4 w blk off D.toArray d' n os hH hb hs
  refine ⟨rfl, d'.toList.map (·.1), ?_, ?_, ?_, sortWorld_nf blk off n d' os hnf hb, sortWorld_but w blk off n d' os⟩
  · have := hp.map (fun x : FR => x.1)
    simpa using this
  · rw [List.pairwise_map, List.pairwise_iff_getElem]
    intro i j hi hj hij
    have hi' : i < d'.size := by simpa using hi
    have hj' : j < d'.size := by simpa using hj
    have := hso i j (Nat.zero_le _) hij (by rw [List.size_toArray, ← hsz]; exact hj')
    rw [cfR_neg, getElem!_pos d' j hj', getElem!_pos d' i hi'] at this
    simp at this
    simpa using this
  · have hl : D.length = d'.toList.length := by simp [hsz]
    rw [hl]
    have hH3 : Sort.HoldsK encF 4 (sortWorldK encF 4 w blk off n d' os) blk off d'.toList.toArray := by simpa using hH2
    exact rd_of_holds hH3 (Nat.lt_of_lt_of_le hb (size_sortWorldK_c encF 4 w blk off n d' os)) (by rw [← hl]; unfold maxLen; omega) (by rw [← hl]; exact hc)

set_option maxRecDepth 100000 in
set_option maxHeartbeats 1000000 in
theorem sortBy_c (D : List FR) (blk off c : Nat) (w : World) (hn : D.length ≤ 12) (hc : D.length ≤ c) (hr : Rd w 4 (.slice (some ⟨blk, off, none⟩) D.length c) (rcs (D.map (·.1))) [blk]) (hnf : NF w [blk]) :
    Calls Tryz.prog 81 #[.slice (some ⟨blk, off, none⟩) D.length c, .func (.func 48) #[] #[]] w (SortPost w blk off D.length c (D.map (·.1))) := by
  have hb : blk < w.heap.size := hr.lt blk (by simp)
  have hr' := hr.alloc (.cells #[.func (.func 48) #[] #[]] 83)
  have hnf' : NF (w.alloc (.cells #[.func (.func 48) #[] #[]] 83)) [blk] := hnf.keep fun b hm => Below.heap_alloc _ _ _ (by simp at hm; omega)
  have hcon := sort_c D blk off c w.heap.size (w.alloc (.cells #[.func (.func 48) #[] #[]] 83)) hn hc (by simp; omega) hr' hnf' (by simp) (by simp) (by omega)
  clear hr hnf hr' hnf'
  generalize hL : D.map (·.1) = L at *
  clear hL
  go_enter Tryz.func81, Tryz.ntmps81
  go_wp2_with fail
  refine hcon.mono ?_
  rintro e w1 ⟨rfl, L', h1, h2, h3, h4, h5⟩
  have HB := Lib.hid (((But.refl [blk] w).alloc _).trans h5)
  clear hcon h5
  go_wp2_with fail
  go_end0
  exact ⟨rfl, L', h1, h2, h3, h4, HB.out⟩
end Go.Proofs.YtldimfmhbdhbnaaGreat

/-
  Contracts of the program's functions of chapter 2, fifth part: putting a row.
-/
namespace Go.Proofs.YtldimfmhbdhbnaaGreat
open Go.RowKit

theorem setGo_true (r : R) (rs : List R) : setGo r true rs = rs.filter (fun x => keyR x != keyR r) := by
  induction rs with
  | nil => rfl
  | cons x t ih =>
    unfold setGo
    rw [Bool.true_or, ih]
    by_cases h : keyR x = keyR r <;> simp [h]
theorem setGo_perm (r : R) (rs : List R) : (setGo r false rs).Perm (rs.filter (fun x => keyR x != keyR r) ++ [r]) := by
  refine List.Perm.trans ?_ (List.perm_append_comm (l₁ := [r]))
  show (setGo r false rs).Perm (r :: rs.filter (fun x => keyR x != keyR r))
  induction rs with
  | nil => exact List.Perm.refl _
  | cons x t ih =>
    unfold setGo
    by_cases h : keyR r ≤ keyR x
    · have e : (false || decide (keyR r ≤ keyR x)) = true := by simp [h]
      rw [e, setGo_true, if_pos ⟨rfl, h⟩]
      by_cases h2 : keyR x = keyR r <;> simp [h2]
    · have e : (false || decide (keyR r ≤ keyR x)) = false := by simp [h]
      have hne : keyR x ≠ keyR r := by omega
      rw [e, if_neg (fun q => h q.2), if_pos hne]
      have hf : (x :: t).filter (fun x => keyR x != keyR r) = x :: t.filter (fun x => keyR x != keyR r) := by simp [hne]
      rw [hf]
      exact ((ih.cons x).trans (List.Perm.swap r x _))
theorem rising_pairwise {p : Option Int} {L : List R} (h : Rising p L) : L.Pairwise (fun a b => keyR a < keyR b) := by
  induction L generalizing p with
  | nil => exact List.Pairwise.nil
  | cons x t ih => exact List.Pairwise.cons (fun y hy => (h.2.2.above y hy).2 _ rfl) (ih h.2.2)
theorem pairwise_rising {L : List R} : ∀ {p : Option Int}, (∀ x ∈ L, rowF x = 0) → L.Pairwise (fun a b => keyR a < keyR b) → (∀ k, p = some k → ∀ x ∈ L, k < keyR x) → Rising p L := by
  induction L with
  | nil => intros; trivial
  | cons x t ih =>
    intro p h0 hp hk
    rw [List.pairwise_cons] at hp
    exact ⟨h0 x List.mem_cons_self, fun k e => hk k e x List.mem_cons_self, ih (fun y hy => h0 y (List.mem_cons_of_mem _ hy)) hp.2 (fun k e y hy => by injection e with e; rw [← e]; exact hp.1 y hy)⟩
/-- Rows in the order of their keys are one list. -/
theorem sorted_is {L S : List R} (hp : L.Perm S) (hs : Rising none S) (hl : L.Pairwise (fun a b => keyR a ≤ keyR b)) : L = S := by
  have h0 : ∀ x ∈ L, rowF x = 0 := fun x hx => (hs.above x (hp.mem_iff.1 hx)).1
  have hne : L.Pairwise (fun a b => keyR a ≠ keyR b) := (hp.pairwise_iff (fun {a b} h => fun e => h e.symm)).2 ((rising_pairwise hs).imp (fun h => by omega))
  have hlt : L.Pairwise (fun a b => keyR a < keyR b) := (hl.and hne).imp (fun h => by omega)
  exact rising_ext (pairwise_rising (p := none) h0 hlt (fun k e => by cases e)) hs fun x => hp.mem_iff

theorem own_lower {w : World} {base base' : Nat} {e : TypeId} {size n : Nat} {v : Value} {xs : List Value} (h : w.ownsRow base e size v n xs) (hb : base' ≤ base) : w.ownsRow base' e size v n xs := by
  refine ⟨h.1, ?_⟩
  rcases h.2 with h2 | ⟨g, cap, cur, h3, h4, h5⟩
  · exact .inl h2
  · exact .inr ⟨g, cap, cur, h3, Nat.le_trans hb h4, h5⟩
/-- A slice of one's own with something in it. -/
theorem own_rd {w : World} {base : Nat} {e : TypeId} {n : Nat} {v : Value} {xs : List Value} (h : w.ownsRow base e 4 v (n + 1) xs) :
    ∃ g off c, v = .slice (some ⟨g, off, none⟩) (n + 1) c ∧ n + 1 ≤ c ∧ base ≤ g ∧ Rd w 4 v xs [g] ∧ NF w [g] := by
  obtain ⟨fq, hr, hn, hf⟩ := Rd.of_own h
  have hl := h.1
  have hr' := hr
  obtain ⟨A, n', c', rfl, h1, h2, h2', h3⟩ := hr
  have hnn : n' = n + 1 := by omega
  subst hnn
  rcases h3 with ⟨h3, _⟩ | ⟨b, off, rfl, rfl, _, _⟩
  · omega
  · exact ⟨b, off, c', rfl, h2', hf b (by simp), hr', hn⟩

theorem rres_more {w w1 : World} {x : Value} {code : Int} {rs : List R} (h : RRes w1 w.heap.size x code rs ∧ Below w.heap.size w w1) (o : Obj) : RRes (w1.alloc o) w.heap.size x code rs ∧ Below w.heap.size w (w1.alloc o) :=
  ⟨h.1.but ((But.refl [] w1).alloc o) (by simp), below_more h.2 o⟩

end Go.Proofs.YtldimfmhbdhbnaaGreat
