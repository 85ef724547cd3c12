/-
  The model's draws of chapter 7, second part: parts that may be wrong; the draws of the laws. By a maker (gen7g.py).
-/
import Derived.Test.YtoabohllphoioaaGreatDraw7a
import Derived.Test.YtoabohllphoioaaGreatG23
import Derived.Test.YtoabohllphoioaaGreatG25
namespace Go.Proofs.YtoabohllphoioaaGreat
open Go.RowKit

theorem OwnF.lower7 {w : World} {B B' : Nat} {vs : List Value} {ls : List (List R)} {T : TypeId} (h : OwnF w B vs ls T) (hb : B' ≤ B) : OwnF w B' vs ls T :=
  ⟨h.len, fun j hj => by obtain ⟨v, n, h1, h2⟩ := h.own j hj; exact ⟨v, n, h1, own_lower h2 hb⟩, h.apart⟩

set_option maxRecDepth 100000 in
set_option maxHeartbeats 8000000 in
theorem l7Bent_c (w : World) (s : Nat) (zs : List Int) (a : Nat) (h : Src w s zs a) (ha : a < 900000) :
    Calls Tryz.prog 32 #[.pointer (some ⟨s, 0, none⟩)] w (DPtPost w s zs a) := by
  have hls := h.lt
  have HD0 := Lib.hid (Drawn.start h)
  clear h
  go_enter Tryz.func32, Tryz.ntmps32
  go_wp2_with fail
  refine (l7Draw_c w s zs (a + 0) HD0.out.src (by omega)).mono ?_
  rintro e w1 ⟨rs, q, g, B, vs, d, rfl, hg, ho, hgl, hgB, hm, hl, hq, hd, hdr⟩
  have hmil : ∀ l ∈ laidP (solidL rs), ∀ r ∈ l, Mild r := fun l hl2 r hr => by
    obtain ⟨i, hi, rfl⟩ := List.mem_iff_getElem.1 hl2
    rw [laidP_get] at hr
    have := (List.mem_filter.1 hr).1
    unfold solidL at this
    exact (hm r (List.mem_filter.1 this).1).2
  have hsz : ∀ l ∈ laidP (solidL rs), l.length ≤ 7 := fun l hl2 => by
    obtain ⟨i, hi, rfl⟩ := List.mem_iff_getElem.1 hl2
    rw [laidP_get]
    unfold solidL
    exact Nat.le_trans (List.length_filter_le _ _) (Nat.le_trans (List.length_filter_le _ _) hl)
  have hl3 := laidP_len (solidL rs)
  generalize laidP (solidL rs) = ls at *
  obtain ⟨l0, l1, l2, rfl⟩ : ∃ a b c, ls = [a, b, c] := by
    match ls, hl3 with
    | [a, b, c], _ => exact ⟨a, b, c, rfl⟩
  obtain ⟨v0, v1, v2, rfl⟩ : ∃ a b c, vs = [a, b, c] := by
    have := ho.len
    match vs, this with
    | [a, b, c], _ => exact ⟨a, b, c, rfl⟩
  have HLB := Lib.hid (show LP w s zs a (0 + d) g 7 v0 v1 v2 l0 l1 l2 q q q w1 from ⟨hg, ho.lower7 (by omega), HD0.out.trans hdr, hmil, hsz, hgl, hls⟩)
  clear hg ho hm hdr hmil hsz HD0 hl hl3
  go_wp2_with fail
  refine (next_6 w1 s zs (a + (0 + d)) 12 HLB.out.drawn.src (by omega) (by omega) (by omega)).mono ?_
  rintro e w3 ⟨x, rfl, hx0, hx1, hd3⟩
  have HL3 := Lib.hid (HLB.out.draw hd3)
  clear hd3 HLB
  by_cases e0 : x = 0
  · subst e0
    go_wp2_with fail
    go_ret
    exact HL3.out.fin1 (by omega) (by omega) (by omega) (by omega)
  by_cases e1 : x = 1
  · subst e1
    go_wp2_with fail
    refine (pick_6 w3 s zs (a + (0 + d + 1)) w3.heap.size [-1, 1000, 3] HL3.out.drawn.src rfl (by omega) (by simp) (by simp)).mono ?_
    rintro e w4 ⟨q', rfl, hq', hd4⟩
    have hq'' : -1 ≤ q' ∧ q' ≤ 1000 := by simp at hq'; omega
    have HL4 := Lib.hid (HL3.out.draw hd4)
    clear hq' hd4 HL3
    have c3 : w4.cell? ⟨g, 3, none⟩ = some (.int .i64 q) := cell_of_heap HL4.out.hg
    have f3 : w4.frozen? ⟨g, 3, none⟩ = false := frozen_of_heap HL4.out.hg
    have hz := heap_lt HL4.out.hg
    have HL5 := Lib.hid (HL4.out.mark q')
    go_wp2_with fail
    go_ret
    exact HL5.out.fin (by omega) (by omega) (by omega) (by omega) (by omega)
  by_cases e2 : x = 2
  · subst e2
    obtain ⟨i0, hi, hz, hsz, hby⟩ := infoRow
    have h2 : 2 < [l0, l1, l2].length := by simp
    have HQ5 : Hid (∀ w' : World, w'.heap[g]? = some (.cells #[v0, .int .i64 q, v1, .int .i64 q, v2, .int .i64 q] 76 (0, 0)) → w'.cell? ⟨g, 4, none⟩ = some v2) := fun w' h => cell_of_heap h
    have HQ := HQ5
    go_wp2_with fail
    refine wp_region_sch (fun _ => True) (.run 0 (.run 1 (.run 2 (.run 3 (.run 5 (.fork 4 6 (.one 6 (.one 7 (.one 8 (.run 9 (.run 10 (.one 11 .done)))))) (.fork 4 7 (.one 7 (.one 8 (.run 9 (.run 10 (.one 11 .done))))) (.one 4 (.one 8 (.run 9 (.run 10 (.one 11 .done)))))))))))) (by kernel_rfl) (by kernel_rfl) (by kernel_rfl) (by kernel_rfl) (fun _ _ d _ _ h => by cases d <;> exact h) trivial ?_
    simp only [Sch.res, Option.map_some, Option.bind_some, List.getElem?_toArray, List.getElem?_cons_zero, List.getElem?_cons_succ, wpSchR_some]
    generalize hW0 : ({ heap := w3.heap, tape := w3.tape, drawn := w3.drawn + 1, os := w3.os, output := w3.output } : World) = x0
    have HW0 : Hid (LP w s zs a (0 + d + 1) g 7 v0 v1 v2 l0 l1 l2 q q q x0) := by rw [← hW0]; exact HL3.out.below (Below.refl _ _).drew
    clear hW0 HL3
    refine sch_run (v := ?_) (by rfl) ?_ ?_
    rotate_left
    · (intro w' hS'; go_simp; try with_reducible rfl)
    try simp only [Act.put, List.setIfInBounds_toArray, List.set_cons_zero, List.set_cons_succ]
    refine sch_run (v := ?_) (by rfl) ?_ ?_
    rotate_left
    · (intro w' hS'; go_simp; try with_reducible rfl)
    try simp only [Act.put, List.setIfInBounds_toArray, List.set_cons_zero, List.set_cons_succ]
    refine sch_run (v := ?_) (by rfl) ?_ ?_
    rotate_left
    · (intro w' hS'; go_simp; try with_reducible rfl)
    try simp only [Act.put, List.setIfInBounds_toArray, List.set_cons_zero, List.set_cons_succ]
    refine sch_run (v := ?_) (by rfl) ?_ ?_
    rotate_left
    · (intro w' hS'; go_simp; try with_reducible rfl)
    try simp only [Act.put, List.setIfInBounds_toArray, List.set_cons_zero, List.set_cons_succ]
    refine sch_run (v := ?_) (by rfl) ?_ ?_
    rotate_left
    · (intro w' hS'; go_simp; try with_reducible rfl)
    try simp only [Act.put, List.setIfInBounds_toArray, List.set_cons_zero, List.set_cons_succ]
    refine sch_fork (by rfl) (by rfl) (fun K hK => ?_) (fun K hK => ?_)
    · skip
      have q1 := HQ.out _ HW0.out.hg
      go_simp
      refine hK _ _ trivial ?_
      try simp only [Act.put, List.setIfInBounds_toArray, List.set_cons_zero, List.set_cons_succ]
      clear q1
      refine sch_one (by rfl) (fun K hK => ?_)
      go_simp
      refine (l2BentRow_c x0 s zs _ HW0.out.drawn.src (by omega)).mono ?_
      rintro e w4 ⟨r, d4, rfl, hmr, hd4, hdr4⟩
      have HA := Lib.hid (HW0.out.draw hdr4); have HMR := Lib.hid hmr
      clear hdr4 hmr
      refine hK _ _ trivial ?_
      try simp only [Act.put, List.setIfInBounds_toArray, List.set_cons_zero, List.set_cons_succ]
      refine sch_one (by rfl) (fun K hK => ?_)
      go_simp
      have HB := Lib.hid (HA.out.below (below_new (.cells #[.int .i64 r.1, .int .i64 r.2.1, .int .i64 r.2.2.1, .int .i64 r.2.2.2] 32)))
      refine hK _ _ trivial ?_
      try simp only [Act.put, List.setIfInBounds_toArray, List.set_cons_zero, List.set_cons_succ]
      refine sch_one (by rfl) (fun K hK => ?_)
      obtain ⟨vx, nx, hvx, hox⟩ := HB.out.own.own 2 h2
      have hvx' : some v2 = some vx := hvx
      injection hvx' with hvx'; subst hvx'
      replace hox : World.ownsRow _ (g + 1) 32 4 v2 nx (rcs l2) := hox
      have hn1 := HB.out.sz l2 (by simp)
      have hnx : nx ≤ 7 := by have := hox.1; rw [rcs_length] at this; omega
      have hm1 := HB.out.mild l2 (by simp)
      have hgz := heap_lt HB.out.hg
      refine wp_append_o (.tmp 26) (.tmp 29) 24 rfl (g + 1) 32 i0 (rv (0, 0, 0, 0)) 4 32 Tryz.underlying24 hi hz hsz hby rfl (by decide) v2 nx _ rfl hox ⟨w4.heap.size, 0, none⟩ 1 1 (rc r) rfl rfl (rc_new r) (rc_one r) (by unfold maxLen; omega) (by omega) hgz (by omega) ?_
      intro v3 w5 hown2 hgrow2 hwh
      have hg5 := (hgrow2.block _ (heap_lt HB.out.hg) (fun e => by have := own_base' hox e.symm; omega)).trans HB.out.hg
      have hl0 := HB.out.gl
      have hd5 := HB.out.drawn.grown hgrow2 (fun g' hg' => by have := own_base' hox hg'; omega) hls
      have own5 := HB.out.own.step h2 rfl (l' := l2 ++ [r]) (n := nx + 1) (by rw [rcs_append]; exact hown2) hgrow2 hwh
      obtain ⟨gv, cv, hv3⟩ : ∃ g cap, v3 = .slice (some ⟨g, 0, none⟩) (nx + 1) cap := by
        rcases hown2.2 with ⟨_, h⟩ | ⟨g, cap, cur, h, _⟩
        · omega
        · exact ⟨g, cap, h⟩
      subst hv3
      have hL := HB.out.put (n' := 8) (by omega) hg5 own5 hd5 (fun x hx => by
        rcases List.mem_append.1 hx with hx | hx
        · exact hm1 x hx
        · simp at hx; exact hx ▸ HMR.out) (by rw [List.length_append]; simp; omega)
      have HL := Lib.hid hL
      have q5 := HQ5.out _ hg5
      have qf5 : w5.frozen? ⟨g, 4, none⟩ = false := frozen_of_heap hg5
      have qz5 := heap_lt hg5
      clear hL own5 hd5 hg5 hown2 hgrow2 hwh hox hm1
      refine hK _ _ trivial ?_
      try simp only [Act.put, List.setIfInBounds_toArray, List.set_cons_zero, List.set_cons_succ]
      refine sch_run (v := ?_) (by rfl) ?_ ?_
      rotate_left
      · (intro w' hS'; go_simp; try with_reducible rfl)
      try simp only [Act.put, List.setIfInBounds_toArray, List.set_cons_zero, List.set_cons_succ]
      refine sch_run (v := ?_) (by rfl) ?_ ?_
      rotate_left
      · (intro w' hS'; go_simp; try with_reducible rfl)
      try simp only [Act.put, List.setIfInBounds_toArray, List.set_cons_zero, List.set_cons_succ]
      refine sch_one (by rfl) (fun K hK => ?_)
      go_simp
      refine hK _ _ trivial (sch_done ?_)
      clear q5 qf5 qz5
      go_wp2_with fail
      go_ret
      exact HL.out.fin (by omega) (by omega) (by omega) (by omega) (by omega)
    · skip
      go_simp
      refine (l2BentRow_c x0 s zs _ HW0.out.drawn.src (by omega)).mono ?_
      rintro e w4 ⟨r, d4, rfl, hmr, hd4, hdr4⟩
      have HA := Lib.hid (HW0.out.draw hdr4); have HMR := Lib.hid hmr
      clear hdr4 hmr
      refine hK _ _ trivial ?_
      try simp only [Act.put, List.setIfInBounds_toArray, List.set_cons_zero, List.set_cons_succ]
      refine sch_fork (by rfl) (by rfl) (fun K hK => ?_) (fun K hK => ?_)
      · skip
        have q1 := HQ.out _ HA.out.hg
        go_simp
        refine hK _ _ trivial ?_
        try simp only [Act.put, List.setIfInBounds_toArray, List.set_cons_zero, List.set_cons_succ]
        clear q1
        refine sch_one (by rfl) (fun K hK => ?_)
        go_simp
        have HB := Lib.hid (HA.out.below (below_new (.cells #[.int .i64 r.1, .int .i64 r.2.1, .int .i64 r.2.2.1, .int .i64 r.2.2.2] 32)))
        refine hK _ _ trivial ?_
        try simp only [Act.put, List.setIfInBounds_toArray, List.set_cons_zero, List.set_cons_succ]
        refine sch_one (by rfl) (fun K hK => ?_)
        obtain ⟨vx, nx, hvx, hox⟩ := HB.out.own.own 2 h2
        have hvx' : some v2 = some vx := hvx
        injection hvx' with hvx'; subst hvx'
        replace hox : World.ownsRow _ (g + 1) 32 4 v2 nx (rcs l2) := hox
        have hn1 := HB.out.sz l2 (by simp)
        have hnx : nx ≤ 7 := by have := hox.1; rw [rcs_length] at this; omega
        have hm1 := HB.out.mild l2 (by simp)
        have hgz := heap_lt HB.out.hg
        refine wp_append_o (.tmp 26) (.tmp 29) 24 rfl (g + 1) 32 i0 (rv (0, 0, 0, 0)) 4 32 Tryz.underlying24 hi hz hsz hby rfl (by decide) v2 nx _ rfl hox ⟨w4.heap.size, 0, none⟩ 1 1 (rc r) rfl rfl (rc_new r) (rc_one r) (by unfold maxLen; omega) (by omega) hgz (by omega) ?_
        intro v3 w5 hown2 hgrow2 hwh
        have hg5 := (hgrow2.block _ (heap_lt HB.out.hg) (fun e => by have := own_base' hox e.symm; omega)).trans HB.out.hg
        have hl0 := HB.out.gl
        have hd5 := HB.out.drawn.grown hgrow2 (fun g' hg' => by have := own_base' hox hg'; omega) hls
        have own5 := HB.out.own.step h2 rfl (l' := l2 ++ [r]) (n := nx + 1) (by rw [rcs_append]; exact hown2) hgrow2 hwh
        obtain ⟨gv, cv, hv3⟩ : ∃ g cap, v3 = .slice (some ⟨g, 0, none⟩) (nx + 1) cap := by
          rcases hown2.2 with ⟨_, h⟩ | ⟨g, cap, cur, h, _⟩
          · omega
          · exact ⟨g, cap, h⟩
        subst hv3
        have hL := HB.out.put (n' := 8) (by omega) hg5 own5 hd5 (fun x hx => by
          rcases List.mem_append.1 hx with hx | hx
          · exact hm1 x hx
          · simp at hx; exact hx ▸ HMR.out) (by rw [List.length_append]; simp; omega)
        have HL := Lib.hid hL
        have q5 := HQ5.out _ hg5
        have qf5 : w5.frozen? ⟨g, 4, none⟩ = false := frozen_of_heap hg5
        have qz5 := heap_lt hg5
        clear hL own5 hd5 hg5 hown2 hgrow2 hwh hox hm1
        refine hK _ _ trivial ?_
        try simp only [Act.put, List.setIfInBounds_toArray, List.set_cons_zero, List.set_cons_succ]
        refine sch_run (v := ?_) (by rfl) ?_ ?_
        rotate_left
        · (intro w' hS'; go_simp; try with_reducible rfl)
        try simp only [Act.put, List.setIfInBounds_toArray, List.set_cons_zero, List.set_cons_succ]
        refine sch_run (v := ?_) (by rfl) ?_ ?_
        rotate_left
        · (intro w' hS'; go_simp; try with_reducible rfl)
        try simp only [Act.put, List.setIfInBounds_toArray, List.set_cons_zero, List.set_cons_succ]
        refine sch_one (by rfl) (fun K hK => ?_)
        go_simp
        refine hK _ _ trivial (sch_done ?_)
        clear q5 qf5 qz5
        go_wp2_with fail
        go_ret
        exact HL.out.fin (by omega) (by omega) (by omega) (by omega) (by omega)
      · skip
        go_simp
        have HB := Lib.hid (HA.out.below (below_new (.cells #[.int .i64 r.1, .int .i64 r.2.1, .int .i64 r.2.2.1, .int .i64 r.2.2.2] 32)))
        refine hK _ _ trivial ?_
        try simp only [Act.put, List.setIfInBounds_toArray, List.set_cons_zero, List.set_cons_succ]
        refine sch_one (by rfl) (fun K hK => ?_)
        have q1 := HQ.out _ HB.out.hg
        go_simp
        refine hK _ _ trivial ?_
        try simp only [Act.put, List.setIfInBounds_toArray, List.set_cons_zero, List.set_cons_succ]
        clear q1
        refine sch_one (by rfl) (fun K hK => ?_)
        obtain ⟨vx, nx, hvx, hox⟩ := HB.out.own.own 2 h2
        have hvx' : some v2 = some vx := hvx
        injection hvx' with hvx'; subst hvx'
        replace hox : World.ownsRow _ (g + 1) 32 4 v2 nx (rcs l2) := hox
        have hn1 := HB.out.sz l2 (by simp)
        have hnx : nx ≤ 7 := by have := hox.1; rw [rcs_length] at this; omega
        have hm1 := HB.out.mild l2 (by simp)
        have hgz := heap_lt HB.out.hg
        refine wp_append_o (.tmp 26) (.tmp 29) 24 rfl (g + 1) 32 i0 (rv (0, 0, 0, 0)) 4 32 Tryz.underlying24 hi hz hsz hby rfl (by decide) v2 nx _ rfl hox ⟨w4.heap.size, 0, none⟩ 1 1 (rc r) rfl rfl (rc_new r) (rc_one r) (by unfold maxLen; omega) (by omega) hgz (by omega) ?_
        intro v3 w5 hown2 hgrow2 hwh
        have hg5 := (hgrow2.block _ (heap_lt HB.out.hg) (fun e => by have := own_base' hox e.symm; omega)).trans HB.out.hg
        have hl0 := HB.out.gl
        have hd5 := HB.out.drawn.grown hgrow2 (fun g' hg' => by have := own_base' hox hg'; omega) hls
        have own5 := HB.out.own.step h2 rfl (l' := l2 ++ [r]) (n := nx + 1) (by rw [rcs_append]; exact hown2) hgrow2 hwh
        obtain ⟨gv, cv, hv3⟩ : ∃ g cap, v3 = .slice (some ⟨g, 0, none⟩) (nx + 1) cap := by
          rcases hown2.2 with ⟨_, h⟩ | ⟨g, cap, cur, h, _⟩
          · omega
          · exact ⟨g, cap, h⟩
        subst hv3
        have hL := HB.out.put (n' := 8) (by omega) hg5 own5 hd5 (fun x hx => by
          rcases List.mem_append.1 hx with hx | hx
          · exact hm1 x hx
          · simp at hx; exact hx ▸ HMR.out) (by rw [List.length_append]; simp; omega)
        have HL := Lib.hid hL
        have q5 := HQ5.out _ hg5
        have qf5 : w5.frozen? ⟨g, 4, none⟩ = false := frozen_of_heap hg5
        have qz5 := heap_lt hg5
        clear hL own5 hd5 hg5 hown2 hgrow2 hwh hox hm1
        refine hK _ _ trivial ?_
        try simp only [Act.put, List.setIfInBounds_toArray, List.set_cons_zero, List.set_cons_succ]
        refine sch_run (v := ?_) (by rfl) ?_ ?_
        rotate_left
        · (intro w' hS'; go_simp; try with_reducible rfl)
        try simp only [Act.put, List.setIfInBounds_toArray, List.set_cons_zero, List.set_cons_succ]
        refine sch_run (v := ?_) (by rfl) ?_ ?_
        rotate_left
        · (intro w' hS'; go_simp; try with_reducible rfl)
        try simp only [Act.put, List.setIfInBounds_toArray, List.set_cons_zero, List.set_cons_succ]
        refine sch_one (by rfl) (fun K hK => ?_)
        go_simp
        refine hK _ _ trivial (sch_done ?_)
        clear q5 qf5 qz5
        go_wp2_with fail
        go_ret
        exact HL.out.fin (by omega) (by omega) (by omega) (by omega) (by omega)
  have b0 : (x == 0) = false := by simp [e0]
  have b1 : (x == 1) = false := by simp [e1]
  have b2 : (x == 2) = false := by simp [e2]
  clear e0 e1 e2
  go_wp2_with fail
  go_ret
  exact HL3.out.fin (by omega) (by omega) (by omega) (by omega) (by omega)

/-- Parts were drawn. -/
def PtsPost (w : World) (e : Ending) (w' : World) : Prop :=
  ∃ (l : List Pt) (A : Option Addr) (c : Nat) (fp : List Nat), e = .returned (.slice A l.length c) ∧ RdP w' (.slice A l.length c) l fp ∧ NF w' fp ∧ From w.heap.size fp ∧ fp.Nodup ∧ MildT l ∧ psz l ≤ 1000 ∧ Below w.heap.size w w'

set_option maxRecDepth 100000 in
set_option maxHeartbeats 4000000 in
theorem drawLeastMark_c (A : Option Addr) (c : Nat) (zs : List Int) (w : World) (fp : List Nat) (ha : Rd w 1 (.slice A zs.length c) (cellsOf .u8 zs) fp) (hby : Byt zs) (hb : zs.length ≤ 1048576) :
    Calls Tryz.prog 9 #[.slice A zs.length c] w (PtsPost w) := by
  go_enter Tryz.func9, Tryz.ntmps9
  go_wp2_with fail
  refine (l1Source_c A c zs w fp ha hby hb).mono ?_
  rintro e w1 ⟨rfl, hs1, hb1, hz1⟩
  have hl1 : w.heap.size ≤ w1.heap.size := by omega
  clear ha
  go_wp2_with fail
  refine (l7Bent_c _ w.heap.size zs 0 hs1 (by omega)).mono ?_
  rintro e w2 ⟨l, Al, cl, fl, d, rfl, hr, hn, hf, hnd, hm, hsz, hd, hdr⟩
  have HX := Lib.hid (And.intro hr (And.intro hn (And.intro (hf.mono hl1) (And.intro hnd (And.intro hm (Drawn.fresh2 hb1 hdr hl1))))))
  clear hr hn hf hnd hm hdr hb1 hs1
  go_wp2_with fail
  go_ret
  obtain ⟨k1, k2, k3, k4, k5, k6⟩ := HX.out
  exact ⟨l, _, _, fl, rfl, k1, k2, k3, k4, k5, hsz, k6⟩

/-- Parts, a row and a number were drawn. -/
def PtRowPost (w : World) (e : Ending) (w' : World) : Prop :=
  ∃ (l : List Pt) (A : Option Addr) (c : Nat) (fp : List Nat) (r : R) (m : Int), e = .returned (.tuple #[.slice A l.length c, rv r, .int .i64 m]) ∧ RdP w' (.slice A l.length c) l fp ∧ NF w' fp ∧ From w.heap.size fp ∧ fp.Nodup ∧ MildT l ∧ psz l ≤ 1000 ∧ Mild r ∧ (-20000 ≤ m ∧ m ≤ 20000) ∧ Below w.heap.size w w'

set_option maxRecDepth 100000 in
set_option maxHeartbeats 4000000 in
theorem drawWritePart_c (A : Option Addr) (c : Nat) (zs : List Int) (w : World) (fp : List Nat) (ha : Rd w 1 (.slice A zs.length c) (cellsOf .u8 zs) fp) (hby : Byt zs) (hb : zs.length ≤ 1048576) :
    Calls Tryz.prog 7 #[.slice A zs.length c] w (PtRowPost w) := by
  have ha0 := ha.alloc (.cells #[.int .i64 0, .int .i64 0, .int .i64 0, .int .i64 0] 32)
  have GB0 := Lib.hid (heap_new w (.cells #[.int .i64 0, .int .i64 0, .int .i64 0, .int .i64 0] 32) rfl)
  have hz0 : w.heap.size + 1 = (w.alloc (.cells #[.int .i64 0, .int .i64 0, .int .i64 0, .int .i64 0] 32)).heap.size := by simp
  have hB0 : Below w.heap.size w (w.alloc (.cells #[.int .i64 0, .int .i64 0, .int .i64 0, .int .i64 0] 32)) := below_new _
  go_enter Tryz.func7, Tryz.ntmps7
  go_wp2_with fail
  generalize w.alloc (.cells #[.int .i64 0, .int .i64 0, .int .i64 0, .int .i64 0] 32) = w0 at *
  refine (l1Source_c A c zs w0 fp ha0 hby hb).mono ?_
  rintro e w1 ⟨rfl, hs1, hb1, hz1⟩
  have hl1 : w.heap.size ≤ w1.heap.size := by omega
  have GB1 := Lib.hid ((hb1.block _ (heap_lt GB0.out)).trans GB0.out)
  have HB1 := Lib.hid (hB0.trans (hb1.mono (by omega)))
  clear ha ha0 GB0 hB0 hb1
  go_wp2_with fail
  refine (l7Bent_c _ w0.heap.size zs 0 hs1 (by omega)).mono ?_
  rintro e w2 ⟨l, Al, cl, fl, d, rfl, hp, hn, hf, hnd, hm, hsz, hd, hdr⟩
  have hls := hs1.lt
  have hsz2 := hdr.but.size
  have hap : ∀ b ∈ fl, b ∉ [w0.heap.size] := fun b hb hm => by have := hf b hb; simp at hm; omega
  have HP := Lib.hid hp; have HN := Lib.hid hn; have HF := Lib.hid (hf.mono (show w.heap.size + 1 ≤ w1.heap.size by omega)); have HM := Lib.hid hm; have HD := Lib.hid hdr; have HAP := Lib.hid hap; have HND := Lib.hid hnd
  have GB2 := Lib.hid (hdr.but.heap GB1.out (by simp; omega))
  clear hp hn hf hnd hm hdr hap GB1 hs1
  go_wp2_with fail
  refine (l2BentRow_c w2 w0.heap.size zs _ HD.out.src (by omega)).mono ?_
  rintro e w3 ⟨r, d4, rfl, hmr, hd4, hd3⟩
  have hsz3 := hd3.but.size
  have HP3 := Lib.hid (HP.out.but hd3.but HAP.out)
  have HN3 := Lib.hid (HN.out.but hd3.but HP.out.lt HAP.out)
  have HD3 := Lib.hid (HD.out.trans hd3)
  have GB3 := Lib.hid (hd3.but.heap GB2.out (by simp; omega))
  have HMR := Lib.hid hmr
  clear hd3 HP HN HD GB2 hmr
  go_wp2_with fail
  refine (pick_6 w3 w0.heap.size zs (0 + (d + d4)) w3.heap.size [1, 2, 6, 999, 1000] HD3.out.src rfl (by omega) (by simp) (by simp)).mono ?_
  rintro e w4 ⟨m, rfl, hq, hd4'⟩
  have hq2 : -20000 ≤ m ∧ m ≤ 20000 := by simp at hq; omega
  have HP4 := Lib.hid (HP3.out.but hd4'.but HAP.out)
  have HN4 := Lib.hid (HN3.out.but hd4'.but HP3.out.lt HAP.out)
  have HD4 := Lib.hid (HD3.out.trans hd4')
  have hg4 := hd4'.but.heap GB3.out (by simp; omega)
  obtain ⟨c0, c1, c2, c3, f0, f1, f2, f3, hzz⟩ := four_at hg4
  clear hq hd4' HP3 HN3 HD3 GB3
  go_wp2_with fail
  refine bodyPost_ret (v := .tuple #[.slice Al l.length cl, rv r, .int .i64 m]) (by simp [results, Tryz.results7, go_sem, c0, c1, c2, c3]) rfl ?_
  have hbut := ((((But.refl [w.heap.size] w4).setCell (p := ⟨w.heap.size, 0, none⟩) (by simp) (.int .i64 r.1)).setCell (p := ⟨w.heap.size, 1, none⟩) (by simp) (.int .i64 r.2.1)).setCell (p := ⟨w.heap.size, 2, none⟩) (by simp) (.int .i64 r.2.2.1)).setCell (p := ⟨w.heap.size, 3, none⟩) (by simp) (.int .i64 r.2.2.2)
  have a1 : ∀ x ∈ fl, x ∉ [w.heap.size] := fun x hx he => by have := HF.out x hx; simp at he; omega
  have hb4 : Below w.heap.size w w4 := HB1.out.trans (HD4.out.but.below hl1 (by intro b hm; simp at hm; omega))
  exact ⟨l, _, _, fl, r, m, rfl, HP4.out.but hbut a1, HN4.out.but hbut HP4.out.lt a1, HF.out.mono (by omega), HND.out, HM.out, hsz, HMR.out, hq2, hb4.trans (hbut.below hb4.size (fun x hx => by simp at hx; omega))⟩

/-- Rows and a number were drawn. -/
def RowsIntPost (w : World) (e : Ending) (w' : World) : Prop :=
  ∃ (rs : List R) (A : Option Addr) (c : Nat) (fp : List Nat) (m : Int), e = .returned (.tuple #[.slice A rs.length c, .int .i64 m]) ∧ Rd w' 4 (.slice A rs.length c) (rcs rs) fp ∧ (∀ r ∈ rs, Mild r) ∧ rs.length ≤ 13 ∧ (-20000 ≤ m ∧ m ≤ 20000) ∧ Below w.heap.size w w'

set_option maxRecDepth 100000 in
set_option maxHeartbeats 4000000 in
theorem drawPlacesOf_c (A : Option Addr) (c : Nat) (zs : List Int) (w : World) (fp : List Nat) (ha : Rd w 1 (.slice A zs.length c) (cellsOf .u8 zs) fp) (hby : Byt zs) (hb : zs.length ≤ 1048576) :
    Calls Tryz.prog 23 #[.slice A zs.length c] w (RowsIntPost w) := by
  go_enter Tryz.func23, Tryz.ntmps23
  go_wp2_with fail
  refine (l1Source_c A c zs w fp ha hby hb).mono ?_
  rintro e w1 ⟨rfl, hs1, hb1, hz1⟩
  have hl1 : w.heap.size < w1.heap.size := by omega
  have HB1 := Lib.hid hb1
  clear ha hb1
  go_wp2_with fail
  refine (l2Bent_c _ w.heap.size zs 0 hs1 (by omega)).mono ?_
  rintro e w2 ⟨v, fv, rs, d, n, B, rfl, hr, hn, hf, hB, ho, hm, hl, hd, hdr⟩
  obtain ⟨Ar, cr, rfl⟩ := hr.rows_form
  have hap : ∀ b ∈ fv, b ∉ [w.heap.size] := fun b hb hm => by have := hf b hb; simp at hm; omega
  have HP := Lib.hid hr; have HM := Lib.hid hm; have HD := Lib.hid hdr; have HAP := Lib.hid hap
  clear hr hn hf ho hm hdr hap hs1
  go_wp2_with fail
  refine (pick_6 w2 w.heap.size zs (0 + d) w2.heap.size [0, 999, 1000, -1] HD.out.src rfl (by omega) (by simp) (by simp)).mono ?_
  rintro e w3 ⟨m, rfl, hq, hd3⟩
  have hq1 : -20000 ≤ m ∧ m ≤ 20000 := by simp at hq; omega
  have HX := Lib.hid (And.intro (HP.out.but hd3.but HAP.out) (Drawn.fresh2 HB1.out (HD.out.trans hd3) (by omega)))
  clear hq hd3 HP HD
  go_wp2_with fail
  refine bodyPost_ret (v := .tuple #[.slice Ar rs.length cr, .int .i64 m]) (by simp [results, Tryz.results23, go_sem]) rfl ?_
  exact ⟨rs, _, _, fv, m, rfl, HX.out.1, HM.out, hl, hq1, HX.out.2⟩

set_option maxRecDepth 100000 in
set_option maxHeartbeats 2000000 in
theorem drawPartsFrom_c (A : Option Addr) (c : Nat) (zs : List Int) (w : World) (fp : List Nat) (ha : Rd w 1 (.slice A zs.length c) (cellsOf .u8 zs) fp) (hby : Byt zs) (hb : zs.length ≤ 1048576) :
    Calls Tryz.prog 5 #[.slice A zs.length c] w (RowsIntPost w) := by
  go_enter Tryz.func5, Tryz.ntmps5
  go_wp2_with fail
  refine (drawPlacesOf_c A c zs w fp ha hby hb).mono ?_
  rintro e w1 ⟨rs, Ar, cr, fr, m, rfl, h⟩
  have H := Lib.hid h
  clear h ha
  go_wp2_with fail
  refine bodyPost_ret (v := .tuple #[.slice Ar rs.length cr, .int .i64 m]) (by simp [results, Tryz.results5, go_sem]) rfl ?_
  exact ⟨rs, _, _, fr, m, rfl, H.out⟩

set_option maxRecDepth 100000 in
set_option maxHeartbeats 2000000 in
theorem drawPartOf_c (A : Option Addr) (c : Nat) (zs : List Int) (w : World) (fp : List Nat) (ha : Rd w 1 (.slice A zs.length c) (cellsOf .u8 zs) fp) (hby : Byt zs) (hb : zs.length ≤ 1048576) :
    Calls Tryz.prog 10 #[.slice A zs.length c] w fun e w' => ∃ l s, e = .returned (.tuple #[.int .i64 l, .int .i64 s]) ∧ (-20000 ≤ l ∧ l ≤ 20000) ∧ (-20000 ≤ s ∧ s ≤ 20000) ∧ Below w.heap.size w w' := by
  go_enter Tryz.func10, Tryz.ntmps10
  go_wp2_with fail
  refine (drawKeyOf_c A c zs w fp ha hby hb).mono ?_
  rintro e w1 ⟨l, s, rfl, hl, hs, hb1⟩
  have H := Lib.hid hb1
  clear hb1 ha
  go_wp2_with fail
  refine bodyPost_ret (v := .tuple #[.int .i64 l, .int .i64 s]) (by simp [results, Tryz.results10, go_sem]) rfl ?_
  exact ⟨l, s, rfl, hl, hs, H.out⟩
end Go.Proofs.YtoabohllphoioaaGreat
