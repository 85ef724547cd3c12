/-
  Contracts of the program's functions of chapter 2, fourth part: sorting.
-/
import Derived.Test.YtldimfmhbdhbnaaG27
import Derived.Test.YtldimfmhbdhbnaaShelf2
import Derived.Test.YtldimfmhbdhbnaaG17
namespace Go.Proofs.Ytldimfmhbdhbnaa
open Go.RowKit

/-- w' is W but for draws and for new blocks. -/
def Grown (W w' : World) : Prop := ∃ q os, w' = Sort.grow (W.drewN q) os
theorem Grown.cell {W w' : World} (h : Grown W w') {p : Addr} (hp : p.block < W.heap.size) : w'.cell? p = W.cell? p := by
  obtain ⟨q, os, rfl⟩ := h
  exact Sort.cell?_grow (W.drewN q) os p hp
theorem Grown.alloc {W w' : World} (h : Grown W w') (o : Obj) : Grown W (w'.alloc o) := by
  obtain ⟨q, os, rfl⟩ := h
  exact ⟨q, os ++ #[o], by rw [Sort.alloc_eq_grow, Sort.grow_grow]⟩
theorem Grown.trans {W v w' : World} (h : Grown W v) (k : Grown v w') : Grown W w' := by
  obtain ⟨q, os, rfl⟩ := h
  obtain ⟨q', os', rfl⟩ := k
  exact ⟨q + q', os ++ os', by
    show Sort.grow (Sort.grow ((W.drewN q).drewN q') os) os' = _
    rw [Sort.grow_grow, World.drewN_drewN]⟩
theorem Grown.new (W : World) (o : Obj) : Grown W (W.alloc o) := ⟨0, #[o], Sort.alloc_eq_grow W o⟩

/-- A row that fits. -/
abbrev FR := { r : R // Fit r }
instance : Inhabited FR := ⟨⟨(0, 1, 0, 0), by unfold Fit; simp only; omega⟩⟩
def encF (x : FR) : List Value := rc x.1
def cfR (x y : FR) : Int := Lib.compareInt (keyR x.1) (keyR y.1)

theorem compare_c (a b : Int) (w : World) : Calls Try.prog 109 #[.int .i64 a, .int .i64 b] w fun e w' => e = .returned (.int .i64 (Lib.compareInt a b)) ∧ w' = w := AnyG.cmp_Compare_int Try.cmpInt a b w

set_option maxRecDepth 100000 in
set_option maxHeartbeats 1000000 in
theorem cmpRow_c (x y : R) (hx : Fit x) (hy : Fit y) (B : Nat) (W : World) (hc : W.cell? ⟨B, 0, none⟩ = some (.func (.func 65) #[] #[])) (hB : B < W.heap.size) :
    Calls Try.prog 108 #[rv x, rv y, .pointer (some ⟨B, 0, none⟩)] W fun e w' => e = .returned (.int .i64 (Lib.compareInt (keyR x) (keyR y))) ∧ Grown W w' := by
  have eg : ∀ args w, (callFunc 65 args).run Try.prog w = .ok (.enter 65 args) w := enters_of Try.func65 (by kernel_rfl) rfl
  have HX := Lib.hid hx; have HY := Lib.hid hy
  generalize hR : Lib.compareInt (keyR x) (keyR y) = res
  have HR := Lib.hid hR
  clear hx hy hR
  have GB := Lib.hid hc; clear hc
  go_enter Try.func108, Try.ntmps108
  go_wp2_with fail
  obtain ⟨c0, c1, c2, c3, _⟩ := four_at (heap_old (o' := rbox y) (heap_new W (rbox x) rfl))
  obtain ⟨d0, d1, d2, d3, _, _, _, _, ly⟩ := four_at (heap_new (W.alloc (rbox x)) (rbox y) (g := W.heap.size + 1) (by simp))
  have hG : Grown W ((W.alloc (rbox x)).alloc (rbox y)) := (Grown.new W _).alloc _
  have gB := (hG.cell (p := ⟨B, 0, none⟩) hB).trans GB.out
  have lB : B < ((W.alloc (rbox x)).alloc (rbox y)).heap.size := by simp; omega
  have lx : W.heap.size < ((W.alloc (rbox x)).alloc (rbox y)).heap.size := by simp; omega
  generalize (W.alloc (rbox x)).alloc (rbox y) = W0 at *
  have hld : ∀ w', Grown W0 w' → w'.cell? ⟨B, 0, none⟩ = some (.func (.func 65) #[] #[]) ∧ w'.cell? ⟨W.heap.size, 0, none⟩ = some (.int .i64 x.1) ∧ w'.cell? ⟨W.heap.size, 1, none⟩ = some (.int .i64 x.2.1) ∧ w'.cell? ⟨W.heap.size, 2, none⟩ = some (.int .i64 x.2.2.1) ∧ w'.cell? ⟨W.heap.size, 3, none⟩ = some (.int .i64 x.2.2.2) ∧ w'.cell? ⟨(W.heap.size + 1), 0, none⟩ = some (.int .i64 y.1) ∧ w'.cell? ⟨(W.heap.size + 1), 1, none⟩ = some (.int .i64 y.2.1) ∧ w'.cell? ⟨(W.heap.size + 1), 2, none⟩ = some (.int .i64 y.2.2.1) ∧ w'.cell? ⟨(W.heap.size + 1), 3, none⟩ = some (.int .i64 y.2.2.2) := fun w' h => ⟨(h.cell (p := ⟨B, 0, none⟩) lB).trans gB, (h.cell (p := ⟨W.heap.size, 0, none⟩) lx).trans c0, (h.cell (p := ⟨W.heap.size, 1, none⟩) lx).trans c1, (h.cell (p := ⟨W.heap.size, 2, none⟩) lx).trans c2, (h.cell (p := ⟨W.heap.size, 3, none⟩) lx).trans c3, (h.cell (p := ⟨W.heap.size + 1, 0, none⟩) ly).trans d0, (h.cell (p := ⟨W.heap.size + 1, 1, none⟩) ly).trans d1, (h.cell (p := ⟨W.heap.size + 1, 2, none⟩) ly).trans d2, (h.cell (p := ⟨W.heap.size + 1, 3, none⟩) ly).trans d3⟩
  have HLD := Lib.hid hld; clear hld
  refine wp_region_sched (fun w' => Grown W0 w') [(0, true), (1, true), (3, true), (4, true), (2, false), (5, false), (6, false), (7, true)] (by kernel_rfl) (by kernel_rfl) (by kernel_rfl) (by kernel_rfl) (fun _ _ d _ _ h => by cases d <;> exact h) ⟨1, #[], by simp [World.drewN]⟩ ?_
  simp only [opsOf, List.filterMap_cons, List.filterMap_nil, Option.map_some, List.getElem?_toArray, List.getElem?_cons_zero, List.getElem?_cons_succ]
  generalize hW0 : ({ heap := W0.heap, tape := W0.tape, drawn := W0.drawn + 1, os := W0.os, output := W0.output } : World) = v0
  have hv0 : Grown W0 v0 := by rw [← hW0]; exact ⟨1, #[], by simp [World.drewN]⟩
  clear hW0
  refine sched_run (v := ?_) (by rfl) ?_ ?_
  rotate_left
  · (intro w' hS'; obtain ⟨a0, a1, a2, a3, a4, b1, b2, b3, b4⟩ := HLD.out w' hS'; go_simp; try with_reducible rfl)
  try simp only [Act.put, List.setIfInBounds_toArray, List.set_cons_zero, List.set_cons_succ]
  refine sched_run (v := ?_) (by rfl) ?_ ?_
  rotate_left
  · (intro w' hS'; obtain ⟨a0, a1, a2, a3, a4, b1, b2, b3, b4⟩ := HLD.out w' hS'; go_simp; try with_reducible rfl)
  try simp only [Act.put, List.setIfInBounds_toArray, List.set_cons_zero, List.set_cons_succ]
  refine sched_run (v := ?_) (by rfl) ?_ ?_
  rotate_left
  · (intro w' hS'; obtain ⟨a0, a1, a2, a3, a4, b1, b2, b3, b4⟩ := HLD.out w' hS'; go_simp; try with_reducible rfl)
  try simp only [Act.put, List.setIfInBounds_toArray, List.set_cons_zero, List.set_cons_succ]
  refine sched_run (v := ?_) (by rfl) ?_ ?_
  rotate_left
  · (intro w' hS'; obtain ⟨a0, a1, a2, a3, a4, b1, b2, b3, b4⟩ := HLD.out w' hS'; go_simp; try with_reducible rfl)
  try simp only [Act.put, List.setIfInBounds_toArray, List.set_cons_zero, List.set_cons_succ]
  refine sched_call (by rfl) (fun K hK => ?_)
  go_simp
  refine (rowKey_c x _ HX.out).mono ?_
  rintro e v1 ⟨rfl, hb0⟩
  have hv1 : Grown W0 v1 := by rw [hb0]; exact hv0.alloc _
  clear hb0
  refine hK _ _ hv1 ?_
  try simp only [Act.put, List.setIfInBounds_toArray, List.set_cons_zero, List.set_cons_succ]
  refine sched_call (by rfl) (fun K hK => ?_)
  go_simp
  refine (rowKey_c y _ HY.out).mono ?_
  rintro e v2 ⟨rfl, hb1⟩
  have hv2 : Grown W0 v2 := by rw [hb1]; exact hv1.alloc _
  clear hb1
  refine hK _ _ hv2 ?_
  try simp only [Act.put, List.setIfInBounds_toArray, List.set_cons_zero, List.set_cons_succ]
  refine sched_call (by rfl) (fun K hK => ?_)
  go_simp
  refine (compare_c _ _ _).mono ?_
  rintro e v3 ⟨rfl, hb2⟩
  have hv3 : Grown W0 v3 := by rw [hb2]; exact hv2
  clear hb2
  refine hK _ _ hv3 ?_
  try simp only [Act.put, List.setIfInBounds_toArray, List.set_cons_zero, List.set_cons_succ]
  refine sched_run (v := ?_) (by rfl) ?_ ?_
  rotate_left
  · (intro w' hS'; go_simp; try with_reducible rfl)
  try simp only [Act.put, List.setIfInBounds_toArray, List.set_cons_zero, List.set_cons_succ]
  refine sched_done ?_
  go_wp2_with fail
  go_ret
  exact ⟨by rw [← HR.out]; rfl, hG.trans hv3⟩
theorem cmpLays_c (B blk off size : Nat) (w : World) (hc : w.cell? ⟨B, 0, none⟩ = some (.func (.func 65) #[] #[])) (hB : B < w.heap.size) (hne : B ≠ blk) :
    CmpLays Try.prog 108 #[.pointer (some ⟨B, 0, none⟩)] encF 4 cfR blk off size w := by
  intro m os dk hs x y
  have hcell : (sortWorldK encF 4 w blk off m dk os).cell? ⟨B, 0, none⟩ = some (.func (.func 65) #[] #[]) := by
    unfold sortWorldK
    rw [Sort.cell?_grow _ _ _ (by rw [Sort.size_putRowK]; exact hB), Sort.cell?_putRowK_other _ _ _ _ _ _ _ hne]
    exact hc
  have hlt : B < (sortWorldK encF 4 w blk off m dk os).heap.size := Nat.lt_of_lt_of_le hB (size_sortWorldK_c encF 4 w blk off m dk os)
  exact cmpRow_c x.1 y.1 x.2 y.2 B _ hcell hlt

theorem bitsLen_c (n : Nat) (W : World) (h : n ≤ 12) : Calls Try.prog 127 #[.int .u64 n] W fun e w' => (∃ l : Int, e = .returned (.int .i64 l)) ∧ w' = W :=
  (Any.bits_Len Try.bitsLen n W (by omega) (by omega)).mono fun _ _ ⟨he, hw⟩ => ⟨⟨_, he⟩, hw⟩

theorem cfR_neg (x y : FR) : ltOf cfR x y = decide (keyR x.1 < keyR y.1) := by
  unfold ltOf cfR Lib.compareInt
  by_cases h1 : keyR x.1 < keyR y.1
  · simp [h1]
  · by_cases h2 : keyR y.1 < keyR x.1 <;> simp [h1, h2]
theorem cfR_swo : Sort.SWO (ltOf cfR) :=
  ⟨fun x => by rw [cfR_neg]; simp, fun x y z h1 h2 => by rw [cfR_neg] at *; simp at *; omega, fun x y z h1 h2 => by rw [cfR_neg] at *; simp at *; omega⟩
theorem flat_at (D : List FR) (j : Nat) (hj : j < D.length * 4) : (rcs (D.map (·.1)))[j]? = some (Sort.flatK encF 4 D.toArray)[j]! := by
  have h4 : j / 4 < D.length := by omega
  have e : j / 4 * 4 + j % 4 = j := by omega
  have h5 : j % 4 < 4 := Nat.mod_lt _ (by omega)
  rw [Sort.get_flatK _ _ _ j (by simpa using hj)]
  have hg := rcs_get (D.map (·.1)) (j / 4) (j % 4) (by simpa using h4) h5
  rw [e] at hg
  rw [hg, List.getElem_map]
  have h6 : D.toArray[j / 4]! = D[j / 4] := by rw [getElem!_pos D.toArray (j / 4) (by simpa using h4)]; simp
  rw [h6]
  have h7 : j % 4 < (rc D[j / 4].1).length := by rw [rc_length]; exact h5
  unfold encF
  rw [List.getElem?_eq_getElem h7, getElem!_pos (rc D[j / 4].1) (j % 4) h7]
theorem lift_fit {L : List R} (h : ∀ x ∈ L, Fit x) : ∃ D : List FR, D.map (·.1) = L := by
  induction L with
  | nil => exact ⟨[], rfl⟩
  | cons x t ih =>
    obtain ⟨D, hD⟩ := ih fun y hy => h y (List.mem_cons_of_mem _ hy)
    exact ⟨⟨x, h x List.mem_cons_self⟩ :: D, by simp [hD]⟩
theorem holds_of_rd {w : World} {D : List FR} {blk off c : Nat} (hr : Rd w 4 (.slice (some ⟨blk, off, none⟩) D.length c) (rcs (D.map (·.1))) [blk]) (hn : NF w [blk]) : Sort.HoldsK encF 4 w blk off D.toArray := by
  obtain ⟨A', n', c', e, h1, h2, h2', h3⟩ := hr
  injection e with e1 e2 e3
  subst e2
  intro j hj
  rw [Sort.size_flatK, List.size_toArray] at hj
  refine ⟨?_, hn blk (by simp) _⟩
  rcases h3 with ⟨_, h3⟩ | ⟨b, off', hA, hf, hb, hc⟩
  · cases h3
  · rw [← e1] at hA
    injection hA with hA; injection hA with hA1 hA2 _
    subst hA1 hA2
    exact hc j _ (flat_at D j hj)
theorem rd_of_holds {w : World} {D : List FR} {blk off c : Nat} (hH : Sort.HoldsK encF 4 w blk off D.toArray) (hb : blk < w.heap.size) (hn : D.length ≤ maxLen) (hc : D.length ≤ c) : Rd w 4 (.slice (some ⟨blk, off, none⟩) D.length c) (rcs (D.map (·.1))) [blk] := by
  refine ⟨_, _, _, rfl, by rw [rcs_length]; simp, hn, hc, .inr ⟨blk, off, rfl, rfl, hb, fun i u hu => ?_⟩⟩
  have hi : i < D.length * 4 := by
    rcases Nat.lt_or_ge i (D.length * 4) with h | h
    · exact h
    · rw [List.getElem?_eq_none (by rw [rcs_length]; simpa using h)] at hu; cases hu
  rw [flat_at D i hi] at hu
  injection hu with hu
  rw [← hu]
  exact (hH i (by rw [Sort.size_flatK, List.size_toArray]; exact hi)).1
theorem sortWorld_but (w : World) (blk off n : Nat) (d : Array FR) (os : Array Obj) : But [blk] w (sortWorldK encF 4 w blk off n d os) := by
  refine ⟨rfl, rfl, rfl, size_sortWorldK_c encF 4 w blk off n d os, fun k hk hne => ?_⟩
  have hne' : blk ≠ k := fun e => hne (by simp [e])
  unfold sortWorldK
  rw [Sort.heap_grow_old _ _ (by rw [Sort.size_putRowK]; exact hk)]
  simp [Sort.putRowK, Sort.putRow, Sort.mapBlock, Array.getElem?_modify, hne', Sort.ahead]
theorem sortWorld_nf {w : World} (blk off n : Nat) (d : Array FR) (os : Array Obj) (h : NF w [blk]) (hb : blk < w.heap.size) : NF (sortWorldK encF 4 w blk off n d os) [blk] := by
  intro b hm i
  simp at hm
  subst hm
  unfold sortWorldK
  rw [Sort.frozen?_grow _ _ _ (by rw [Sort.size_putRowK]; exact hb)]
  unfold Sort.putRowK
  rw [Sort.frozen?_putRow]
  exact h b (by simp) i

/-- What sorting the rows L in place, in block blk, answers and leaves. -/
def SortPost (w : World) (blk off n c : Nat) (L : List R) (e : Ending) (w' : World) : Prop :=
  e = .returned (.tuple #[]) ∧ ∃ L' : List R, L'.Perm L ∧ L'.Pairwise (fun a b => keyR a ≤ keyR b) ∧ Rd w' 4 (.slice (some ⟨blk, off, none⟩) n c) (rcs L') [blk] ∧ NF w' [blk] ∧ But [blk] w w'

theorem sort_c (D : List FR) (blk off c B : Nat) (w : World) (hn : D.length ≤ 12) (hc : D.length ≤ c) (hb : blk < w.heap.size) (hr : Rd w 4 (.slice (some ⟨blk, off, none⟩) D.length c) (rcs (D.map (·.1))) [blk]) (hnf : NF w [blk])
    (hcB : w.cell? ⟨B, 0, none⟩ = some (.func (.func 65) #[] #[])) (hB : B < w.heap.size) (hne : B ≠ blk) :
    Calls Try.prog 107 #[.slice (some ⟨blk, off, none⟩) D.length c, .func (.func 108) #[] #[.pointer (some ⟨B, 0, none⟩)]] w (SortPost w blk off D.length c (D.map (·.1))) := by
  have eg : ∀ args w, (callFunc 108 args).run Try.prog w = .ok (.enter 108 args) w := enters_of Try.func108 (by kernel_rfl) rfl
  have hH := holds_of_rd hr hnf
  have hcon := AnyQ.slices_SortFunc_small_sorted Try.sortRow 4 Try.isAgg34 Try.sizeOf34 encF (fun _ => rfl) (fun x => rc_one x.1) cfR 108 #[.pointer (some ⟨B, 0, none⟩)] cfR_swo blk off c D.toArray w eg
    (cmpLays_c B blk off _ w hcB hB hne) hH hb (by simpa using hn) bitsLen_c
  refine Calls.mono hcon ?_
  rintro e w' ⟨rfl, d', n, os, ⟨hs, _, hp⟩, hso, rfl⟩
  have hsz : d'.size = D.length := by rw [hs]; simp
  have hext : (d'.extract 0 D.toArray.size) = d' := by simp [hsz]
  have hext2 : (D.toArray.extract 0 D.toArray.size) = D.toArray := by simp
  rw [hext, hext2] at hp
  have hH2 := holdsK_sortWorldK_c encF 4 w blk off D.toArray d' n os hH hb hs
  refine ⟨rfl, d'.toList.map (·.1), ?_, ?_, ?_, sortWorld_nf blk off n d' os hnf hb, sortWorld_but w blk off n d' os⟩
  · have := hp.map (fun x : FR => x.1)
    simpa using this
  · rw [List.pairwise_map, List.pairwise_iff_getElem]
    intro i j hi hj hij
    have hi' : i < d'.size := by simpa using hi
    have hj' : j < d'.size := by simpa using hj
    have := hso i j (Nat.zero_le _) hij (by rw [List.size_toArray, ← hsz]; exact hj')
    rw [cfR_neg, getElem!_pos d' j hj', getElem!_pos d' i hi'] at this
    simp at this
    simpa using this
  · have hl : D.length = d'.toList.length := by simp [hsz]
    rw [hl]
    have hH3 : Sort.HoldsK encF 4 (sortWorldK encF 4 w blk off n d' os) blk off d'.toList.toArray := by simpa using hH2
    exact rd_of_holds hH3 (Nat.lt_of_lt_of_le hb (size_sortWorldK_c encF 4 w blk off n d' os)) (by rw [← hl]; unfold maxLen; omega) (by rw [← hl]; exact hc)

set_option maxRecDepth 100000 in
set_option maxHeartbeats 1000000 in
theorem sortBy_c (D : List FR) (blk off c : Nat) (w : World) (hn : D.length ≤ 12) (hc : D.length ≤ c) (hr : Rd w 4 (.slice (some ⟨blk, off, none⟩) D.length c) (rcs (D.map (·.1))) [blk]) (hnf : NF w [blk]) :
    Calls Try.prog 67 #[.slice (some ⟨blk, off, none⟩) D.length c, .func (.func 65) #[] #[]] w (SortPost w blk off D.length c (D.map (·.1))) := by
  have hb : blk < w.heap.size := hr.lt blk (by simp)
  have hr' := hr.alloc (.cells #[.func (.func 65) #[] #[]] 87)
  have hnf' : NF (w.alloc (.cells #[.func (.func 65) #[] #[]] 87)) [blk] := hnf.keep fun b hm => Below.heap_alloc _ _ _ (by simp at hm; omega)
  have hcon := sort_c D blk off c w.heap.size (w.alloc (.cells #[.func (.func 65) #[] #[]] 87)) hn hc (by simp; omega) hr' hnf' (by simp) (by simp) (by omega)
  clear hr hnf hr' hnf'
  generalize hL : D.map (·.1) = L at *
  clear hL
  go_enter Try.func67, Try.ntmps67
  go_wp2_with fail
  refine hcon.mono ?_
  rintro e w1 ⟨rfl, L', h1, h2, h3, h4, h5⟩
  have HB := Lib.hid (((But.refl [blk] w).alloc _).trans h5)
  clear hcon h5
  go_wp2_with fail
  go_end0
  exact ⟨rfl, L', h1, h2, h3, h4, HB.out⟩
end Go.Proofs.Ytldimfmhbdhbnaa

/-
  Contracts of the program's functions of chapter 2, fifth part: putting a row.
-/
namespace Go.Proofs.Ytldimfmhbdhbnaa
open Go.RowKit

theorem setGo_true (r : R) (rs : List R) : setGo r true rs = rs.filter (fun x => keyR x != keyR r) := by
  induction rs with
  | nil => rfl
  | cons x t ih =>
    unfold setGo
    rw [Bool.true_or, ih]
    by_cases h : keyR x = keyR r <;> simp [h]
theorem setGo_perm (r : R) (rs : List R) : (setGo r false rs).Perm (rs.filter (fun x => keyR x != keyR r) ++ [r]) := by
  refine List.Perm.trans ?_ (List.perm_append_comm (l₁ := [r]))
  show (setGo r false rs).Perm (r :: rs.filter (fun x => keyR x != keyR r))
  induction rs with
  | nil => exact List.Perm.refl _
  | cons x t ih =>
    unfold setGo
    by_cases h : keyR r ≤ keyR x
    · have e : (false || decide (keyR r ≤ keyR x)) = true := by simp [h]
      rw [e, setGo_true, if_pos ⟨rfl, h⟩]
      by_cases h2 : keyR x = keyR r <;> simp [h2]
    · have e : (false || decide (keyR r ≤ keyR x)) = false := by simp [h]
      have hne : keyR x ≠ keyR r := by omega
      rw [e, if_neg (fun q => h q.2), if_pos hne]
      have hf : (x :: t).filter (fun x => keyR x != keyR r) = x :: t.filter (fun x => keyR x != keyR r) := by simp [hne]
      rw [hf]
      exact ((ih.cons x).trans (List.Perm.swap r x _))
theorem rising_pairwise {p : Option Int} {L : List R} (h : Rising p L) : L.Pairwise (fun a b => keyR a < keyR b) := by
  induction L generalizing p with
  | nil => exact List.Pairwise.nil
  | cons x t ih => exact List.Pairwise.cons (fun y hy => (h.2.2.above y hy).2 _ rfl) (ih h.2.2)
theorem pairwise_rising {L : List R} : ∀ {p : Option Int}, (∀ x ∈ L, rowF x = 0) → L.Pairwise (fun a b => keyR a < keyR b) → (∀ k, p = some k → ∀ x ∈ L, k < keyR x) → Rising p L := by
  induction L with
  | nil => intros; trivial
  | cons x t ih =>
    intro p h0 hp hk
    rw [List.pairwise_cons] at hp
    exact ⟨h0 x List.mem_cons_self, fun k e => hk k e x List.mem_cons_self, ih (fun y hy => h0 y (List.mem_cons_of_mem _ hy)) hp.2 (fun k e y hy => by injection e with e; rw [← e]; exact hp.1 y hy)⟩
/-- Rows in the order of their keys are one list. -/
theorem sorted_is {L S : List R} (hp : L.Perm S) (hs : Rising none S) (hl : L.Pairwise (fun a b => keyR a ≤ keyR b)) : L = S := by
  have h0 : ∀ x ∈ L, rowF x = 0 := fun x hx => (hs.above x (hp.mem_iff.1 hx)).1
  have hne : L.Pairwise (fun a b => keyR a ≠ keyR b) := (hp.pairwise_iff (fun {a b} h => fun e => h e.symm)).2 ((rising_pairwise hs).imp (fun h => by omega))
  have hlt : L.Pairwise (fun a b => keyR a < keyR b) := (hl.and hne).imp (fun h => by omega)
  exact rising_ext (pairwise_rising (p := none) h0 hlt (fun k e => by cases e)) hs fun x => hp.mem_iff

theorem own_lower {w : World} {base base' : Nat} {e : TypeId} {size n : Nat} {v : Value} {xs : List Value} (h : w.ownsRow base e size v n xs) (hb : base' ≤ base) : w.ownsRow base' e size v n xs := by
  refine ⟨h.1, ?_⟩
  rcases h.2 with h2 | ⟨g, cap, cur, h3, h4, h5⟩
  · exact .inl h2
  · exact .inr ⟨g, cap, cur, h3, Nat.le_trans hb h4, h5⟩
/-- A slice of one's own with something in it. -/
theorem own_rd {w : World} {base : Nat} {e : TypeId} {n : Nat} {v : Value} {xs : List Value} (h : w.ownsRow base e 4 v (n + 1) xs) :
    ∃ g off c, v = .slice (some ⟨g, off, none⟩) (n + 1) c ∧ n + 1 ≤ c ∧ base ≤ g ∧ Rd w 4 v xs [g] ∧ NF w [g] := by
  obtain ⟨fq, hr, hn, hf⟩ := Rd.of_own h
  have hl := h.1
  have hr' := hr
  obtain ⟨A, n', c', rfl, h1, h2, h2', h3⟩ := hr
  have hnn : n' = n + 1 := by omega
  subst hnn
  rcases h3 with ⟨h3, _⟩ | ⟨b, off, rfl, rfl, _, _⟩
  · omega
  · exact ⟨b, off, c', rfl, h2', hf b (by simp), hr', hn⟩

theorem rres_more {w w1 : World} {x : Value} {code : Int} {rs : List R} (h : RRes w1 w.heap.size x code rs ∧ Below w.heap.size w w1) (o : Obj) : RRes (w1.alloc o) w.heap.size x code rs ∧ Below w.heap.size w (w1.alloc o) :=
  ⟨h.1.but ((But.refl [] w1).alloc o) (by simp), below_more h.2 o⟩

set_option maxRecDepth 100000 in
set_option maxHeartbeats 1000000 in
theorem putPred (r : R) (hr : Fit r) (B : Nat) (w : World) (hB : w.heap[B]? = some (rbox r)) :
    PredRow 64 #[.pointer (some ⟨B, 0, none⟩)] (fun x => keyR x != keyR r) w := by
  intro W x hx hb
  have hgB : W.heap[B]? = some (rbox r) := (hb.block _ (heap_lt hB)).trans hB
  have HX := Lib.hid hx; have HR := Lib.hid hr; have GB := Lib.hid hgB
  clear hb hB hx hr hgB
  show Calls Try.prog 64 #[rv x, .pointer (some ⟨B, 0, none⟩)] W fun e w' => e = .returned (.bool (keyR x != keyR r)) ∧ Below W.heap.size W w'
  go_enter Try.func64, Try.ntmps64
  go_wp2_with fail
  obtain ⟨c0, c1, c2, c3, _, _, _, _, lx⟩ := four_at (heap_new W (rbox x) rfl)
  obtain ⟨d0, d1, d2, d3, _, _, _, _, lB⟩ := four_at (heap_old (o' := rbox x) GB.out)
  have hB0 : Below W.heap.size W (W.alloc (rbox x)) := below_new _
  have hS0 : W.heap.size ≤ (W.alloc (rbox x)).heap.size := by simp
  generalize W.alloc (rbox x) = W0 at *
  have hld : ∀ w', Below W0.heap.size W0 w' → w'.cell? ⟨W.heap.size, 0, none⟩ = some (.int .i64 x.1) ∧ w'.cell? ⟨W.heap.size, 1, none⟩ = some (.int .i64 x.2.1) ∧ w'.cell? ⟨W.heap.size, 2, none⟩ = some (.int .i64 x.2.2.1) ∧ w'.cell? ⟨W.heap.size, 3, none⟩ = some (.int .i64 x.2.2.2) ∧ w'.cell? ⟨B, 0, none⟩ = some (.int .i64 r.1) ∧ w'.cell? ⟨B, 1, none⟩ = some (.int .i64 r.2.1) ∧ w'.cell? ⟨B, 2, none⟩ = some (.int .i64 r.2.2.1) ∧ w'.cell? ⟨B, 3, none⟩ = some (.int .i64 r.2.2.2) := fun w' h => ⟨(h.cell (p := ⟨W.heap.size, 0, none⟩) lx).trans c0, (h.cell (p := ⟨W.heap.size, 1, none⟩) lx).trans c1, (h.cell (p := ⟨W.heap.size, 2, none⟩) lx).trans c2, (h.cell (p := ⟨W.heap.size, 3, none⟩) lx).trans c3, (h.cell (p := ⟨B, 0, none⟩) lB).trans d0, (h.cell (p := ⟨B, 1, none⟩) lB).trans d1, (h.cell (p := ⟨B, 2, none⟩) lB).trans d2, (h.cell (p := ⟨B, 3, none⟩) lB).trans d3⟩
  have HLD := Lib.hid hld; clear hld
  refine wp_region_sched (fun w' => Below W0.heap.size W0 w') [(0, true), (2, true), (1, false), (3, false), (4, true), (5, true)] (by kernel_rfl) (by kernel_rfl) (by kernel_rfl) (by kernel_rfl) (fun _ _ d _ _ h => by cases d <;> exact h) ⟨rfl, rfl, rfl, Nat.le_refl _, fun _ _ => rfl⟩ ?_
  simp only [opsOf, List.filterMap_cons, List.filterMap_nil, Option.map_some, List.getElem?_toArray, List.getElem?_cons_zero, List.getElem?_cons_succ]
  generalize hW0 : ({ heap := W0.heap, tape := W0.tape, drawn := W0.drawn + 1, os := W0.os, output := W0.output } : World) = v0
  have hv0 : Below W0.heap.size W0 v0 := by rw [← hW0]; exact ⟨rfl, rfl, rfl, Nat.le_refl _, fun _ _ => rfl⟩
  clear hW0
  refine sched_run (v := ?_) (by rfl) ?_ ?_
  rotate_left
  · (intro w' hS'; obtain ⟨a1, a2, a3, a4, b1, b2, b3, b4⟩ := HLD.out w' hS'; go_simp; try with_reducible rfl)
  try simp only [Act.put, List.setIfInBounds_toArray, List.set_cons_zero, List.set_cons_succ]
  refine sched_run (v := ?_) (by rfl) ?_ ?_
  rotate_left
  · (intro w' hS'; obtain ⟨a1, a2, a3, a4, b1, b2, b3, b4⟩ := HLD.out w' hS'; go_simp; try with_reducible rfl)
  try simp only [Act.put, List.setIfInBounds_toArray, List.set_cons_zero, List.set_cons_succ]
  refine sched_call (by rfl) (fun K hK => ?_)
  go_simp
  refine (rowKey_b x _ HX.out).mono ?_
  rintro e v1 ⟨rfl, hb0⟩
  have hv1 : Below W0.heap.size W0 v1 := hv0.trans (hb0.mono hv0.size)
  clear hb0
  refine hK _ _ hv1 ?_
  try simp only [Act.put, List.setIfInBounds_toArray, List.set_cons_zero, List.set_cons_succ]
  refine sched_call (by rfl) (fun K hK => ?_)
  go_simp
  refine (rowKey_b r _ HR.out).mono ?_
  rintro e v2 ⟨rfl, hb1⟩
  have hv2 : Below W0.heap.size W0 v2 := hv1.trans (hb1.mono hv1.size)
  clear hb1
  refine hK _ _ hv2 ?_
  try simp only [Act.put, List.setIfInBounds_toArray, List.set_cons_zero, List.set_cons_succ]
  refine sched_run (v := ?_) (by rfl) ?_ ?_
  rotate_left
  · (intro w' hS'; go_simp; try with_reducible rfl)
  try simp only [Act.put, List.setIfInBounds_toArray, List.set_cons_zero, List.set_cons_succ]
  refine sched_run (v := ?_) (by rfl) ?_ ?_
  rotate_left
  · (intro w' hS'; go_simp; try with_reducible rfl)
  try simp only [Act.put, List.setIfInBounds_toArray, List.set_cons_zero, List.set_cons_succ]
  refine sched_done ?_
  go_wp2_with fail
  go_ret
  exact ⟨rfl, hB0.trans (hv2.mono hS0)⟩

set_option maxRecDepth 100000 in
set_option maxHeartbeats 4000000 in
theorem implPutRow_a : AskPutRow := by
  intro A c rs r w fp hs hwf hwr ha
  have ha' := (ha.alloc (rbox r)).alloc (.cells #[.int .i64 0, .slice none 0 0] 41)
  have HB0 := Lib.hid (below_more (below_new (w := w) (rbox r)) (.cells #[.int .i64 0, .slice none 0 0] 41))
  have EG : Hid (∀ args w, (callFunc 64 args).run Try.prog w = .ok (.enter 64 args) w) := enters_of Try.func64 (by kernel_rfl) rfl
  have HBLK : Hid (∀ w1, Below (w.heap.size + 2) ((w.alloc (rbox r)).alloc (.cells #[.int .i64 0, .slice none 0 0] 41)) w1 → w1.heap[w.heap.size]? = some (rbox r) ∧ w1.heap[w.heap.size + 1]? = some (.cells #[.int .i64 0, .slice none 0 0] 41 (0, 0))) := fun w1 h =>
    ⟨(h.block _ (by omega)).trans (heap_old (heap_new w _ rfl)), (h.block _ (by omega)).trans (heap_new _ _ (by simp))⟩
  by_cases h0 : rowsF rs = 0
  · by_cases h1 : rowF r = 0
    · obtain ⟨hfit, hl12⟩ := rowsF_fits h0
      have hfr := fit_of_rowF h1
      have hris := (rowsF_rising h0).1
      have H0 := Lib.hid h0; have H1 := Lib.hid h1; have HFT := Lib.hid hfit; have HFR := Lib.hid hfr; have HRIS := Lib.hid hris
      generalize hLL : rs.filter (fun x => keyR x != keyR r) = L
      have HL := Lib.hid hLL
      have hLlen : L.length ≤ 12 := by rw [← hLL]; exact Nat.le_trans (List.length_filter_le _ _) hl12
      cases he : emptyB r
      · have hperm := setGo_perm r rs
        have hset : setR rs r = setGo r false rs := by unfold setR; rw [he]
        rw [← hset, hLL] at hperm
        have hslen : (setR rs r).length = L.length + 1 := by rw [hperm.length_eq]; simp
        have hrisS : Rising none (setR rs r) := by rw [hset]; exact setGo_rising h1 rs none false hris (fun _ k e => by cases e)
        have hC : prC rs r = if 12 < L.length + 1 then 8 else 0 := by simp [prC, h0, h1, hslen]
        have HE := Lib.hid he; have HPM := Lib.hid hperm; have HRS := Lib.hid hrisS
        by_cases hfull : L.length = 12
        · have hC8 : prC rs r = 8 := by rw [hC, if_pos (by omega)]
          have hL8 : prL rs r = [] := by simp [prL, hC8]
          rw [hC8, hL8]
          have hf12 : ((L.length : Int) == 12) = true := by simp [hfull]
          have hfi : (L.length : Int) = 12 := by omega
          have HFI := Lib.hid hfi
          clear h0 h1 hfit hfr hris hLL he hperm hset hslen hrisS hC hC8 hL8 hfull hfi
          go_enter Try.func19, Try.ntmps19
          go_wp2_with fail
          refine (implRowsFault_a A c rs _ fp hs hwf ha').mono ?_
          rintro e w1 ⟨rfl, hb1⟩
          rw [H0.out]
          have hb1s : Below (w.heap.size + 2) _ w1 := hb1.mono (by simp)
          obtain ⟨g0, g1⟩ := HBLK.out w1 hb1s
          have hbw1 := HB0.out.trans (hb1.mono HB0.out.size)
          have hr1 := ha'.below' hb1
          have HR1 := Lib.hid hr1; have HBW1 := Lib.hid hbw1; have G0 := Lib.hid g0; have G1 := Lib.hid g1
          obtain ⟨c0, c1, c2, c3, _, _, _, _, hz0⟩ := four_at g0
          clear hb1 hb1s hbw1 hr1 g0 g1
          go_wp2_with fail
          refine (implRowFault_a r _ hwr).mono ?_
          rintro e w2 ⟨rfl, hb2⟩
          have g0 := (hb2.block _ (heap_lt G0.out)).trans G0.out
          have g1 := (hb2.block _ (heap_lt G1.out)).trans G1.out
          have hbw2 := HBW1.out.trans (hb2.mono HBW1.out.size)
          have hr2 := HR1.out.below' hb2
          have hsz2 : w.heap.size + 2 ≤ w2.heap.size := by have := heap_lt g1; omega
          have HR2 := Lib.hid hr2; have HBW2 := Lib.hid hbw2; have K0 := Lib.hid g0; have K1 := Lib.hid g1
          clear hb2 hbw2 hr2 c0 c1 c2 c3 hz0
          obtain ⟨c0, c1, c2, c3, _, _, _, _, hz0⟩ := four_at g0
          clear g0
          rw [H1.out]
          have HP := Lib.hid (putPred r HFR.out w.heap.size w2 K0.out)
          clear g1
          go_wp2_with fail
          refine (keep_c 64 #[.pointer (some ⟨w.heap.size, 0, none⟩)] (fun x => keyR x != keyR r) EG.out A c rs _ fp (by omega) HFT.out HP.out HR2.out).mono ?_
          rintro e w3 ⟨v, fv, rfl, hrv, hnv, hfv, hb3, nn, BB, hBB, hown⟩
          have hl3 := hown.1
          rw [HL.out] at hrv hown hl3
          rw [rcs_length] at hl3
          obtain ⟨Av, cv, rfl⟩ := hrv.rows_form
          have g0 := (hb3.block _ (heap_lt K0.out)).trans K0.out
          have g1 := (hb3.block _ (heap_lt K1.out)).trans K1.out
          have hbw3 := HBW2.out.trans (hb3.mono HBW2.out.size)
          have hown' := own_lower hown hBB
          have hsz3 := hb3.size
          have HRV := Lib.hid hrv; have HNV := Lib.hid hnv; have HFV := Lib.hid hfv; have HBW3 := Lib.hid hbw3; have M0 := Lib.hid g0; have M1 := Lib.hid g1; have HOW := Lib.hid hown'
          have HL3 := Lib.hid hl3
          clear hb3 hbw3 hown hown' c0 c1 c2 c3 hz0 hl3 hrv hnv hfv hBB
          obtain ⟨c0, c1, c2, c3, _, _, _, _, hz0⟩ := four_at g0
          obtain ⟨d0, d1, e0, e1, hz1⟩ := two_at g1
          clear g0 g1
          go_wp2_with fail
          refine (isEmptyRow_b r false HE.out _).mono ?_
          rintro e w4 ⟨rfl, rfl⟩
          have HST := Lib.hid (rres_more (rres_stored (code := 8) (rs := []) (g := w.heap.size + 1) HBW3.out (by omega) (Rd.nil _ 4) (NF.nil _) (From.nil _)) (rbox r))
          go_wp2_with fail
          exact bodyPost_ret (v := .agg #[.int .i64 8, .slice none 0 0]) (by simp [results, Try.results19, go_sem, d0, d1, hz1]) rfl ⟨_, rfl, HST.out.1, HST.out.2⟩
        · have hC0 : prC rs r = 0 := by rw [hC, if_neg (by omega)]
          have hL0 : prL rs r = setR rs r := by simp [prL, hC0]
          rw [hC0, hL0]
          have hf12 : ((L.length : Int) == 12) = false := by simp; omega
          generalize setR rs r = SR at *
          clear h0 h1 hfit hfr hris hLL he hperm hset hslen hrisS hC hC0 hL0
          go_enter Try.func19, Try.ntmps19
          go_wp2_with fail
          refine (implRowsFault_a A c rs _ fp hs hwf ha').mono ?_
          rintro e w1 ⟨rfl, hb1⟩
          rw [H0.out]
          have hb1s : Below (w.heap.size + 2) _ w1 := hb1.mono (by simp)
          obtain ⟨g0, g1⟩ := HBLK.out w1 hb1s
          have hbw1 := HB0.out.trans (hb1.mono HB0.out.size)
          have hr1 := ha'.below' hb1
          have HR1 := Lib.hid hr1; have HBW1 := Lib.hid hbw1; have G0 := Lib.hid g0; have G1 := Lib.hid g1
          obtain ⟨c0, c1, c2, c3, _, _, _, _, hz0⟩ := four_at g0
          clear hb1 hb1s hbw1 hr1 g0 g1
          go_wp2_with fail
          refine (implRowFault_a r _ hwr).mono ?_
          rintro e w2 ⟨rfl, hb2⟩
          have g0 := (hb2.block _ (heap_lt G0.out)).trans G0.out
          have g1 := (hb2.block _ (heap_lt G1.out)).trans G1.out
          have hbw2 := HBW1.out.trans (hb2.mono HBW1.out.size)
          have hr2 := HR1.out.below' hb2
          have hsz2 : w.heap.size + 2 ≤ w2.heap.size := by have := heap_lt g1; omega
          have HR2 := Lib.hid hr2; have HBW2 := Lib.hid hbw2; have K0 := Lib.hid g0; have K1 := Lib.hid g1
          clear hb2 hbw2 hr2 c0 c1 c2 c3 hz0
          obtain ⟨c0, c1, c2, c3, _, _, _, _, hz0⟩ := four_at g0
          clear g0
          rw [H1.out]
          have HP := Lib.hid (putPred r HFR.out w.heap.size w2 K0.out)
          clear g1
          go_wp2_with fail
          refine (keep_c 64 #[.pointer (some ⟨w.heap.size, 0, none⟩)] (fun x => keyR x != keyR r) EG.out A c rs _ fp (by omega) HFT.out HP.out HR2.out).mono ?_
          rintro e w3 ⟨v, fv, rfl, hrv, hnv, hfv, hb3, nn, BB, hBB, hown⟩
          have hl3 := hown.1
          rw [HL.out] at hrv hown hl3
          rw [rcs_length] at hl3
          obtain ⟨Av, cv, rfl⟩ := hrv.rows_form
          have g0 := (hb3.block _ (heap_lt K0.out)).trans K0.out
          have g1 := (hb3.block _ (heap_lt K1.out)).trans K1.out
          have hbw3 := HBW2.out.trans (hb3.mono HBW2.out.size)
          have hown' := own_lower hown hBB
          have hsz3 := hb3.size
          have HRV := Lib.hid hrv; have HNV := Lib.hid hnv; have HFV := Lib.hid hfv; have HBW3 := Lib.hid hbw3; have M0 := Lib.hid g0; have M1 := Lib.hid g1; have HOW := Lib.hid hown'
          have HL3 := Lib.hid hl3
          clear hb3 hbw3 hown hown' c0 c1 c2 c3 hz0 hl3 hrv hnv hfv hBB
          obtain ⟨c0, c1, c2, c3, _, _, _, _, hz0⟩ := four_at g0
          obtain ⟨d0, d1, e0, e1, hz1⟩ := two_at g1
          clear g0 g1
          go_wp2_with fail
          refine (isEmptyRow_b r false HE.out _).mono ?_
          rintro e w4 ⟨rfl, rfl⟩
          have hnn : nn = L.length := by have := HL3.out; omega
          have hrow : ∀ g, (Value.slice Av L.length cv).ownBlock = some g → w2.heap.size ≤ g := fun g hg => own_base' HOW.out hg
          have hown1 : ((w3.alloc (rbox r)).alloc (rbox r)).ownsRow w2.heap.size 34 4 (.slice Av L.length cv) nn (rcs L) := (HOW.out.alloc _).alloc _
          have hbel1 := below_more (below_more HBW3.out (rbox r)) (rbox r)
          have HO1 := Lib.hid hown1; have HB1 := Lib.hid hbel1; have HRW := Lib.hid hrow; have HNN := Lib.hid hnn
          clear hown1 hbel1 hrow hnn
          obtain ⟨i0, hi, hz, hsz, hby⟩ := infoRow
          have hnn12 : nn ≤ 12 := by have := HNN.out; omega
          go_wp2_with (at_builtin; refine wpList_append_own _ rfl _ _ 24 rfl w2.heap.size 34 i0 (rv (0, 0, 0, 0)) 4 32 Try.underlying24 hi hz hsz hby rfl (by decide) _ _ _ rfl HO1.out ⟨w3.heap.size + 1, 0, none⟩ 1 1 (rc r) rfl rfl ?c1 ?c2 ?c3 ?c4 ?c5 ?_)
          case c1 =>
            have := rc_new (w := w3.alloc (rbox r)) (t := 34) r
            rw [show (w3.alloc (rbox r)).heap.size = w3.heap.size + 1 by simp] at this
            exact this
          case c2 => exact rc_one r
          case c3 => unfold maxLen; omega
          case c4 => omega
          case c5 => simp; omega
          intro v' w5 hown5 hgrow _
          have hb5 : Below w.heap.size w w5 := HB1.out.grown hgrow HB1.out.size (fun g hg => by have := HRW.out g hg; omega)
          have hg5 : w5.heap[w.heap.size + 1]? = some (.cells #[.int .i64 0, .slice none 0 0] 41 (0, 0)) := by
            have hol : ((w3.alloc (rbox r)).alloc (rbox r)).heap[w.heap.size + 1]? = some (.cells #[.int .i64 0, .slice none 0 0] 41 (0, 0)) := heap_old (heap_old M1.out)
            exact (hgrow.block _ (heap_lt hol) (fun e => by have := HRW.out _ e.symm; omega)).trans hol
          obtain ⟨g, off, c5, rfl, hc5, hgb, hrd5, hnf5⟩ := own_rd hown5
          have hxs : rcs L ++ rc r = rcs (L ++ [r]) := by rw [rcs_append]; simp [rcs]
          rw [hxs] at hrd5
          have hmem : ∀ x ∈ L ++ [r], Fit x := fun x hx => by
            rcases List.mem_append.1 hx with hx | hx
            · rw [← HL.out] at hx
              obtain ⟨j, hj, hjx⟩ := List.getElem_of_mem (List.mem_filter.1 hx).1
              rw [← hjx]; exact HFT.out j hj
            · simp at hx; subst hx; exact HFR.out
          obtain ⟨D, hD⟩ := lift_fit hmem
          have hDl : D.length = nn + 1 := by
            have := congrArg List.length hD
            rw [List.length_map, List.length_append, ← HNN.out] at this
            simpa using this
          rw [← hD, ← hDl] at hrd5
          have hsort := sortBy_c D g off c5 w5 (by rw [hDl]; have := HNN.out; omega) (by rw [hDl]; exact hc5) hrd5 hnf5
          rw [hD, hDl] at hsort
          have HSO := Lib.hid hsort; have HB5 := Lib.hid hb5; have HG5 := Lib.hid hg5
          clear hsort hrd5 hnf5 hDl hD D hmem hxs hgrow hown5 hb5 hg5 c0 c1 c2 c3 hz0 d0 d1 e0 e1 hz1
          go_wp2_with fail
          refine HSO.out.mono ?_
          rintro e w6 ⟨rfl, L', q1, q2, q3, q4, q5⟩
          have hL' : L' = SR := sorted_is (q1.trans HPM.out.symm) HRS.out q2
          subst hL'
          have hg6 := q5.heap HG5.out (by simp; omega)
          obtain ⟨d0, d1, e0, e1, hz1⟩ := two_at hg6
          have hb6 : Below w.heap.size w w6 := HB5.out.trans (q5.below HB5.out.size (by intro b hb; simp at hb; omega))
          have HST := Lib.hid (rres_stored (code := 0) (g := w.heap.size + 1) hb6 (by omega) q3 q4 (by intro b hb; simp at hb; omega))
          clear q1 q2 q3 q4 q5 hg6 hb6
          go_wp2_with fail
          exact bodyPost_ret (v := .agg #[.int .i64 0, .slice (some ⟨g, off, none⟩) (nn + 1) c5]) (by simp [results, Try.results19, go_sem, d0, d1, hz1]) rfl ⟨_, rfl, HST.out.1, HST.out.2⟩
      · have hset : setR rs r = L := by unfold setR; rw [he, setGo_true, hLL]
        have hC0 : prC rs r = 0 := by
          have : ¬ 12 < (setR rs r).length := by rw [hset]; omega
          simp [prC, h0, h1, this]
        have hL0 : prL rs r = L := by simp [prL, hC0, hset]
        rw [hC0, hL0]
        have HE := Lib.hid he
        clear h0 h1 hfit hfr hris hLL he hset hC0 hL0
        go_enter Try.func19, Try.ntmps19
        go_wp2_with fail
        refine (implRowsFault_a A c rs _ fp hs hwf ha').mono ?_
        rintro e w1 ⟨rfl, hb1⟩
        rw [H0.out]
        have hb1s : Below (w.heap.size + 2) _ w1 := hb1.mono (by simp)
        obtain ⟨g0, g1⟩ := HBLK.out w1 hb1s
        have hbw1 := HB0.out.trans (hb1.mono HB0.out.size)
        have hr1 := ha'.below' hb1
        have HR1 := Lib.hid hr1; have HBW1 := Lib.hid hbw1; have G0 := Lib.hid g0; have G1 := Lib.hid g1
        obtain ⟨c0, c1, c2, c3, _, _, _, _, hz0⟩ := four_at g0
        clear hb1 hb1s hbw1 hr1 g0 g1
        go_wp2_with fail
        refine (implRowFault_a r _ hwr).mono ?_
        rintro e w2 ⟨rfl, hb2⟩
        have g0 := (hb2.block _ (heap_lt G0.out)).trans G0.out
        have g1 := (hb2.block _ (heap_lt G1.out)).trans G1.out
        have hbw2 := HBW1.out.trans (hb2.mono HBW1.out.size)
        have hr2 := HR1.out.below' hb2
        have hsz2 : w.heap.size + 2 ≤ w2.heap.size := by have := heap_lt g1; omega
        have HR2 := Lib.hid hr2; have HBW2 := Lib.hid hbw2; have K0 := Lib.hid g0; have K1 := Lib.hid g1
        clear hb2 hbw2 hr2 c0 c1 c2 c3 hz0
        obtain ⟨c0, c1, c2, c3, _, _, _, _, hz0⟩ := four_at g0
        clear g0
        rw [H1.out]
        have HP := Lib.hid (putPred r HFR.out w.heap.size w2 K0.out)
        clear g1
        go_wp2_with fail
        refine (keep_c 64 #[.pointer (some ⟨w.heap.size, 0, none⟩)] (fun x => keyR x != keyR r) EG.out A c rs _ fp (by omega) HFT.out HP.out HR2.out).mono ?_
        rintro e w3 ⟨v, fv, rfl, hrv, hnv, hfv, hb3, nn, BB, hBB, hown⟩
        have hl3 := hown.1
        rw [HL.out] at hrv hown hl3
        rw [rcs_length] at hl3
        obtain ⟨Av, cv, rfl⟩ := hrv.rows_form
        have g0 := (hb3.block _ (heap_lt K0.out)).trans K0.out
        have g1 := (hb3.block _ (heap_lt K1.out)).trans K1.out
        have hbw3 := HBW2.out.trans (hb3.mono HBW2.out.size)
        have hown' := own_lower hown hBB
        have hsz3 := hb3.size
        have HRV := Lib.hid hrv; have HNV := Lib.hid hnv; have HFV := Lib.hid hfv; have HBW3 := Lib.hid hbw3; have M0 := Lib.hid g0; have M1 := Lib.hid g1; have HOW := Lib.hid hown'
        have HL3 := Lib.hid hl3
        clear hb3 hbw3 hown hown' c0 c1 c2 c3 hz0 hl3 hrv hnv hfv hBB
        obtain ⟨c0, c1, c2, c3, _, _, _, _, hz0⟩ := four_at g0
        obtain ⟨d0, d1, e0, e1, hz1⟩ := two_at g1
        clear g0 g1
        go_wp2_with fail
        refine (isEmptyRow_b r true HE.out _).mono ?_
        rintro e w4 ⟨rfl, rfl⟩
        have HST := Lib.hid (rres_more (rres_stored (code := 0) (g := w.heap.size + 1) HBW3.out (by omega) HRV.out HNV.out (HFV.out.mono (by omega))) (rbox r))
        go_wp2_with fail
        exact bodyPost_ret (v := .agg #[.int .i64 0, .slice Av L.length cv]) (by simp [results, Try.results19, go_sem, d0, d1, hz1]) rfl ⟨_, rfl, HST.out.1, HST.out.2⟩
    · have hC : prC rs r = rowF r := by simp [prC, h0, h1]
      have hL : prL rs r = [] := by simp [prL, hC, h1]
      rw [hC, hL]
      have H0 := Lib.hid h0
      have hne : (rowF r != 0) = true := by simpa using h1
      clear h0 h1 hC hL
      go_enter Try.func19, Try.ntmps19
      go_wp2_with fail
      refine (implRowsFault_a A c rs _ fp hs hwf ha').mono ?_
      rintro e w1 ⟨rfl, hb1⟩
      rw [H0.out]
      have hb1s : Below (w.heap.size + 2) _ w1 := hb1.mono (by simp)
      obtain ⟨g0, g1⟩ := HBLK.out w1 hb1s
      have hbw1 := HB0.out.trans (hb1.mono HB0.out.size)
      have hr1 := ha'.below' hb1
      have HR1 := Lib.hid hr1; have HBW1 := Lib.hid hbw1; have G0 := Lib.hid g0; have G1 := Lib.hid g1
      obtain ⟨c0, c1, c2, c3, _, _, _, _, hz0⟩ := four_at g0
      clear hb1 hb1s hbw1 hr1 g0 g1
      go_wp2_with fail
      refine (implRowFault_a r _ hwr).mono ?_
      rintro e w2 ⟨rfl, hb2⟩
      have g0 := (hb2.block _ (heap_lt G0.out)).trans G0.out
      have g1 := (hb2.block _ (heap_lt G1.out)).trans G1.out
      have hbw2 := HBW1.out.trans (hb2.mono HBW1.out.size)
      have hr2 := HR1.out.below' hb2
      have hsz2 : w.heap.size + 2 ≤ w2.heap.size := by have := heap_lt g1; omega
      have HR2 := Lib.hid hr2; have HBW2 := Lib.hid hbw2; have K0 := Lib.hid g0; have K1 := Lib.hid g1
      clear hb2 hbw2 hr2 c0 c1 c2 c3 hz0
      obtain ⟨c0, c1, c2, c3, _, _, _, _, hz0⟩ := four_at g0
      clear g0
      obtain ⟨d0, d1, e0, e1, hz1⟩ := two_at g1
      have HST := Lib.hid (rres_stored (code := rowF r) (rs := []) (g := w.heap.size + 1) HBW2.out (by omega) (Rd.nil _ 4) (NF.nil _) (From.nil _))
      clear g1
      go_wp2_with fail
      exact bodyPost_ret (v := .agg #[.int .i64 (rowF r), .slice none 0 0]) (by simp [results, Try.results19, go_sem, d0, d1, hz1]) rfl ⟨_, rfl, HST.out.1, HST.out.2⟩
  · have hC : prC rs r = rowsF rs := by simp [prC, h0]
    have hL : prL rs r = [] := by simp [prL, hC, h0]
    rw [hC, hL]
    have hne : (rowsF rs != 0) = true := by simpa using h0
    clear h0 hC hL
    go_enter Try.func19, Try.ntmps19
    go_wp2_with fail
    refine (implRowsFault_a A c rs _ fp hs hwf ha').mono ?_
    rintro e w1 ⟨rfl, hb1⟩
    have hb1s : Below (w.heap.size + 2) _ w1 := hb1.mono (by simp)
    obtain ⟨g0, g1⟩ := HBLK.out w1 hb1s
    have hbw1 := HB0.out.trans (hb1.mono HB0.out.size)
    obtain ⟨d0, d1, e0, e1, hz1⟩ := two_at g1
    have HST := Lib.hid (rres_stored (code := rowsF rs) (rs := []) (g := w.heap.size + 1) hbw1 (by omega) (Rd.nil _ 4) (NF.nil _) (From.nil _))
    clear hb1 hb1s hbw1 g0 g1
    go_wp2_with fail
    exact bodyPost_ret (v := .agg #[.int .i64 (rowsF rs), .slice none 0 0]) (by simp [results, Try.results19, go_sem, d0, d1, hz1]) rfl ⟨_, rfl, HST.out.1, HST.out.2⟩
end Go.Proofs.Ytldimfmhbdhbnaa
