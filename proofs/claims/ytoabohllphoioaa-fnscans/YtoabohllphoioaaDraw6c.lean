/-
  The model's draws of chapter 6, third part: places that may be wrong, the walk.
-/
import Derived.Test.YtoabohllphoioaaDraw6b
import Derived.Test.YtoabohllphoioaaSched3
namespace Go.Proofs.Ytoabohllphoioaa
open Go.RowKit

set_option maxRecDepth 100000 in
set_option maxHeartbeats 8000000 in
theorem l6Bent_c (w : World) (s : Nat) (zs : List Int) (a : Nat) (h : Src w s zs a) (ha : a < 900000) :
    Calls Try.prog 65 #[.pointer (some ⟨s, 0, none⟩)] w (DPlPost w s zs a) := by
  have hls := h.lt
  have hd0 := (Drawn.start h).alloc (.cells #[.slice none 0 0, .int .i64 0] 26)
  have GB0 := Lib.hid (heap_new w (.cells #[.slice none 0 0, .int .i64 0] 26) rfl)
  have hz0 : w.heap.size + 1 = (w.alloc (.cells #[.slice none 0 0, .int .i64 0] 26)).heap.size := by simp
  have HD0 := Lib.hid hd0
  clear hd0 h
  go_enter Try.func65, Try.ntmps65
  go_wp2_with fail
  generalize w.alloc (.cells #[.slice none 0 0, .int .i64 0] 26) = w0 at *
  refine (l6Draw_c w0 s zs (a + 0) HD0.out.src (by omega)).mono ?_
  rintro e w1 ⟨rs, q, g, B, vs, d, rfl, hg, ho, hgl, hgB, hm, hl, hq, hd, hdr⟩
  have hsz1 := hdr.but.size
  have GB1 := hdr.but.heap GB0.out (by simp; omega)
  have hgz := heap_lt hg
  have hLB : LB w s zs a (0 + d) g w1.heap.size 7 0 vs (filesOf rs) q (w1.alloc (.cells #[.slice (some ⟨g, 0, none⟩) 4 4, .int .i64 q] 26)) := by
    refine ⟨heap_old hg, (ho.lower (by omega)).kept fun v n xs h => h.alloc _, heap_new w1 _ rfl, heap_old GB1, (HD0.out.trans hdr).alloc _, filesOf_len rs, fun l hl2 r hr => ?_, fun l hl2 => ?_, by omega, hgz, hls⟩
    · obtain ⟨i, hi, rfl⟩ := List.mem_iff_getElem.1 hl2
      rw [filesOf_get] at hr
      exact (hm r (List.mem_filter.1 hr).1).2
    · obtain ⟨i, hi, rfl⟩ := List.mem_iff_getElem.1 hl2
      rw [filesOf_get]
      exact Nat.le_trans (List.length_filter_le _ _) hl
  have hft : ∀ l ∈ filesOf rs, ∀ r ∈ l, Fit r := fun l hl2 r hr => by
    obtain ⟨i, hi, rfl⟩ := List.mem_iff_getElem.1 hl2
    rw [filesOf_get] at hr
    exact (hm r (List.mem_filter.1 hr).1).1
  have HLB := Lib.hid hLB; have HFT := Lib.hid hft
  clear hg ho hm hdr hLB hft HD0 GB0 GB1 hl
  generalize filesOf rs = ls at *
  go_wp2_with fail
  have hp0 : w.heap.size < w1.heap.size := by omega
  generalize w1.alloc (.cells #[.slice (some ⟨g, 0, none⟩) 4 4, .int .i64 q] 26) = w2 at *
  generalize w1.heap.size = p at *
  refine (next_6 w2 s zs (a + (0 + d)) 12 HLB.out.drawn.src (by omega) (by omega) (by omega)).mono ?_
  rintro e w3 ⟨x, rfl, hx0, hx1, hd3⟩
  have HL3 := Lib.hid (HLB.out.draw hd3)
  clear hd3 HLB
  have hne : (p == w.heap.size) = false := by simp; omega
  have hne2 : (w.heap.size == p) = false := by simp; omega
  have hne3 : p ≠ w.heap.size := by omega
  have hne4 : w.heap.size ≠ p := by omega
  by_cases e0 : x = 0
  · subst e0
    obtain ⟨c0, c1, f0, f1, hz⟩ := two_at HL3.out.box
    obtain ⟨y0, y1, z0, z1, zz⟩ := two_at HL3.out.res
    have HL4 := Lib.hid (HL3.out.store 0 1 (.slice (some ⟨g, 1, none⟩) 3 3) q rfl)
    go_wp2_with fail
    refine bodyPost_ret (v := plv q (.slice (some ⟨g, 1, none⟩) 3 3)) (by simp [results, Try.results65, go_sem, c0, c1, y0, y1, hz, zz, hne, hne2, hne3, hne4]) rfl ?_
    exact HL4.out.fin (by omega) (by omega) (by omega) (by omega) _ _
  by_cases e1 : x = 1
  · subst e1
    go_wp2_with fail
    refine (pick_6 w3 s zs (a + (0 + d + 1)) w3.heap.size [-1, 1000] HL3.out.drawn.src rfl (by omega) (by simp) (by simp)).mono ?_
    rintro e w4 ⟨q', rfl, hq', hd4⟩
    have hq'' : -1 ≤ q' ∧ q' ≤ 1000 := by simp at hq'; omega
    have HL4 := Lib.hid (HL3.out.draw hd4)
    clear hq' hd4 HL3
    obtain ⟨c0, c1, f0, f1, hz⟩ := two_at HL4.out.box
    obtain ⟨y0, y1, z0, z1, zz⟩ := two_at HL4.out.res
    have HL5 := Lib.hid (HL4.out.store 1 0 (.int .i64 q') q' rfl)
    go_wp2_with fail
    refine bodyPost_ret (v := plv q' (.slice (some ⟨g, 0, none⟩) 4 4)) (by simp [results, Try.results65, go_sem, c0, c1, y0, y1, hz, zz, hne, hne2, hne3, hne4]) rfl ?_
    exact HL5.out.fin (by omega) (by omega) (by omega) (by omega) _ _
  by_cases e2 : x = 2
  · subst e2
    obtain ⟨i0, hi, hz, hsz, hby⟩ := infoRow
    have HLD : Hid (∀ w' : World, w'.heap[p]? = some (.cells #[.slice (some ⟨g, 0, none⟩) 4 4, .int .i64 q] 26 (0, 0)) → w'.cell? ⟨p, 0, none⟩ = some (.slice (some ⟨g, 0, none⟩) 4 4)) := fun w' h => cell_of_heap h
    have h1 : 1 < ls.length := by rw [HL3.out.l4]; omega
    obtain ⟨v1, n1, hv1, _⟩ := HL3.out.own.own 1 h1
    have HQ : Hid (∀ w' : World, w'.heap[g]? = some (.cells vs.toArray 29 (0, 0)) → w'.cell? ⟨g, 1, none⟩ = some v1) := fun w' h => by rw [cell_of_heap h, List.getElem?_toArray]; exact hv1
    go_wp2_with fail
    refine wp_region_sch (fun w' => w'.heap[p]? = some (.cells #[.slice (some ⟨g, 0, none⟩) 4 4, .int .i64 q] 26 (0, 0))) (.run 0 (.run 1 (.run 2 (.run 3 (.run 4 (.run 6 (.fork 5 7 (.one 7 (.one 8 (.one 9 (.run 10 (.one 11 .done))))) (.fork 5 8 (.one 8 (.one 9 (.run 10 (.one 11 .done)))) (.one 5 (.one 9 (.run 10 (.one 11 .done)))))))))))) (by kernel_rfl) (by kernel_rfl) (by kernel_rfl) (by kernel_rfl) (fun _ _ d _ _ h => by cases d <;> exact h) HL3.out.box ?_
    simp only [Sch.res, Option.map_some, Option.bind_some, List.getElem?_toArray, List.getElem?_cons_zero, List.getElem?_cons_succ, wpSchR_some]
    generalize hW0 : ({ heap := w3.heap, tape := w3.tape, drawn := w3.drawn + 1, os := w3.os, output := w3.output } : World) = v0
    have HW0 : Hid (LB w s zs a (0 + d + 1) g p 7 0 vs ls q v0) := by rw [← hW0]; exact HL3.out.below (Below.refl _ _).drew
    clear hW0 HL3
    refine sch_run (v := ?_) (by rfl) ?_ ?_
    rotate_left
    · (intro w' hS'; have l0 := HLD.out w' hS'; go_simp; try with_reducible rfl)
    try simp only [Act.put, List.setIfInBounds_toArray, List.set_cons_zero, List.set_cons_succ]
    refine sch_run (v := ?_) (by rfl) ?_ ?_
    rotate_left
    · (intro w' hS'; have l0 := HLD.out w' hS'; go_simp; try with_reducible rfl)
    try simp only [Act.put, List.setIfInBounds_toArray, List.set_cons_zero, List.set_cons_succ]
    refine sch_run (v := ?_) (by rfl) ?_ ?_
    rotate_left
    · (intro w' hS'; have l0 := HLD.out w' hS'; go_simp; try with_reducible rfl)
    try simp only [Act.put, List.setIfInBounds_toArray, List.set_cons_zero, List.set_cons_succ]
    refine sch_run (v := ?_) (by rfl) ?_ ?_
    rotate_left
    · (intro w' hS'; have l0 := HLD.out w' hS'; go_simp; try with_reducible rfl)
    try simp only [Act.put, List.setIfInBounds_toArray, List.set_cons_zero, List.set_cons_succ]
    refine sch_run (v := ?_) (by rfl) ?_ ?_
    rotate_left
    · (intro w' hS'; have l0 := HLD.out w' hS'; go_simp; try with_reducible rfl)
    try simp only [Act.put, List.setIfInBounds_toArray, List.set_cons_zero, List.set_cons_succ]
    refine sch_run (v := ?_) (by rfl) ?_ ?_
    rotate_left
    · (intro w' hS'; have l0 := HLD.out w' hS'; go_simp; try with_reducible rfl)
    try simp only [Act.put, List.setIfInBounds_toArray, List.set_cons_zero, List.set_cons_succ]
    refine sch_fork (by rfl) (by rfl) (fun K hK => ?_) (fun K hK => ?_)
    · skip
      have q1 := HQ.out _ HW0.out.hg
      go_simp
      refine hK _ _ HW0.out.box ?_
      try simp only [Act.put, List.setIfInBounds_toArray, List.set_cons_zero, List.set_cons_succ]
      clear q1
      refine sch_one (by rfl) (fun K hK => ?_)
      go_simp
      refine (l2BentRow_c v0 s zs _ HW0.out.drawn.src (by omega)).mono ?_
      rintro e w4 ⟨r, d4, rfl, hmr, hd4, hdr4⟩
      have HA := Lib.hid (HW0.out.draw hdr4); have HMR := Lib.hid hmr
      clear hdr4 hmr
      refine hK _ _ HA.out.box ?_
      try simp only [Act.put, List.setIfInBounds_toArray, List.set_cons_zero, List.set_cons_succ]
      refine sch_one (by rfl) (fun K hK => ?_)
      go_simp
      have HB := Lib.hid (HA.out.below (below_new (.cells #[.int .i64 r.1, .int .i64 r.2.1, .int .i64 r.2.2.1, .int .i64 r.2.2.2] 34)))
      refine hK _ _ HB.out.box ?_
      try simp only [Act.put, List.setIfInBounds_toArray, List.set_cons_zero, List.set_cons_succ]
      refine sch_one (by rfl) (fun K hK => ?_)
      obtain ⟨vx, nx, hvx, hox⟩ := HB.out.own.own 1 h1
      rw [hv1] at hvx; injection hvx with hvx; subst hvx
      have hn1 := HB.out.sz _ (List.getElem_mem h1)
      have hnx : nx ≤ 7 := by have := hox.1; rw [rcs_length] at this; omega
      have hm1 := HB.out.mild _ (List.getElem_mem h1)
      have hgz := heap_lt HB.out.hg
      refine wp_append_o (.tmp 28) (.tmp 31) 29 rfl (g + 1) 34 i0 (rv (0, 0, 0, 0)) 4 32 Try.underlying29 hi hz hsz hby rfl (by decide) v1 nx _ rfl hox ⟨w4.heap.size, 0, none⟩ 1 1 (rc r) rfl rfl (rc_new r) (rc_one r) (by unfold maxLen; omega) (by omega) hgz (by omega) ?_
      intro v2 w5 hown2 hgrow2 hwh
      have keep : ∀ {b : Nat} {cs : Array Value} {T' : TypeId}, 34 ≠ T' → (w4.alloc (.cells #[.int .i64 r.1, .int .i64 r.2.1, .int .i64 r.2.2.1, .int .i64 r.2.2.2] 34)).heap[b]? = some (.cells cs T' (0, 0)) → w5.heap[b]? = some (.cells cs T' (0, 0)) := fun hT hh => (hgrow2.block _ (heap_lt hh) (fun e => own_ne hox hh hT e.symm)).trans hh
      have hg5 := keep (by decide) HB.out.hg
      have hb5 := keep (by decide) HB.out.box
      have hr5 := keep (by decide) HB.out.res
      have hl0 := HB.out.gl
      have hd5 := HB.out.drawn.grown hgrow2 (fun g' hg' => by have := own_base' hox hg'; omega) hls
      have own5 := HB.out.own.step h1 hv1 (l' := ls[1] ++ [r]) (n := nx + 1) (by rw [rcs_append]; exact hown2) hgrow2 hwh
      obtain ⟨gv, cv, hv2⟩ : ∃ g cap, v2 = .slice (some ⟨g, 0, none⟩) (nx + 1) cap := by
        rcases hown2.2 with ⟨_, h⟩ | ⟨g, cap, cur, h, _⟩
        · omega
        · exact ⟨g, cap, h⟩
      subst hv2
      have hL := HB.out.put (j := 1) (n' := 8) (by omega) hg5 own5 hb5 hr5 hd5 (fun x hx => by
        rcases List.mem_append.1 hx with hx | hx
        · exact hm1 x hx
        · simp at hx; exact hx ▸ HMR.out) (by rw [List.length_append]; simp; omega)
      have HL := Lib.hid hL
      have q5 := HQ.out _ hg5
      have qf5 : w5.frozen? ⟨g, 1, none⟩ = false := frozen_of_heap hg5
      have qz5 := heap_lt hg5
      have HB5 := Lib.hid hb5
      clear hL own5 hr5 hd5 hb5 hg5 hown2 hgrow2 hwh hox hm1 keep
      refine hK _ _ HB5.out ?_
      try simp only [Act.put, List.setIfInBounds_toArray, List.set_cons_zero, List.set_cons_succ]
      refine sch_run (v := ?_) (by rfl) ?_ ?_
      rotate_left
      · (intro w' hS'; have l0 := HLD.out w' hS'; go_simp; try with_reducible rfl)
      try simp only [Act.put, List.setIfInBounds_toArray, List.set_cons_zero, List.set_cons_succ]
      refine sch_one (by rfl) (fun K hK => ?_)
      go_simp
      refine hK _ _ HL.out.box (sch_done ?_)
      obtain ⟨c0, c1, f0, f1, hz0⟩ := two_at HL.out.box
      obtain ⟨y0, y1, z0, z1, zz⟩ := two_at HL.out.res
      clear q5 qf5 qz5
      go_wp2_with fail
      refine bodyPost_ret (v := plv q (.slice (some ⟨g, 0, none⟩) 4 4)) (by simp [results, Try.results65, go_sem, c0, c1, y0, y1, hz0, zz, hne, hne2, hne3, hne4]) rfl ?_
      exact HL.out.fin (by omega) (by omega) (by omega) (by omega) _ _
    · skip
      go_simp
      refine (l2BentRow_c v0 s zs _ HW0.out.drawn.src (by omega)).mono ?_
      rintro e w4 ⟨r, d4, rfl, hmr, hd4, hdr4⟩
      have HA := Lib.hid (HW0.out.draw hdr4); have HMR := Lib.hid hmr
      clear hdr4 hmr
      refine hK _ _ HA.out.box ?_
      try simp only [Act.put, List.setIfInBounds_toArray, List.set_cons_zero, List.set_cons_succ]
      refine sch_fork (by rfl) (by rfl) (fun K hK => ?_) (fun K hK => ?_)
      · skip
        have q1 := HQ.out _ HA.out.hg
        go_simp
        refine hK _ _ HA.out.box ?_
        try simp only [Act.put, List.setIfInBounds_toArray, List.set_cons_zero, List.set_cons_succ]
        clear q1
        refine sch_one (by rfl) (fun K hK => ?_)
        go_simp
        have HB := Lib.hid (HA.out.below (below_new (.cells #[.int .i64 r.1, .int .i64 r.2.1, .int .i64 r.2.2.1, .int .i64 r.2.2.2] 34)))
        refine hK _ _ HB.out.box ?_
        try simp only [Act.put, List.setIfInBounds_toArray, List.set_cons_zero, List.set_cons_succ]
        refine sch_one (by rfl) (fun K hK => ?_)
        obtain ⟨vx, nx, hvx, hox⟩ := HB.out.own.own 1 h1
        rw [hv1] at hvx; injection hvx with hvx; subst hvx
        have hn1 := HB.out.sz _ (List.getElem_mem h1)
        have hnx : nx ≤ 7 := by have := hox.1; rw [rcs_length] at this; omega
        have hm1 := HB.out.mild _ (List.getElem_mem h1)
        have hgz := heap_lt HB.out.hg
        refine wp_append_o (.tmp 28) (.tmp 31) 29 rfl (g + 1) 34 i0 (rv (0, 0, 0, 0)) 4 32 Try.underlying29 hi hz hsz hby rfl (by decide) v1 nx _ rfl hox ⟨w4.heap.size, 0, none⟩ 1 1 (rc r) rfl rfl (rc_new r) (rc_one r) (by unfold maxLen; omega) (by omega) hgz (by omega) ?_
        intro v2 w5 hown2 hgrow2 hwh
        have keep : ∀ {b : Nat} {cs : Array Value} {T' : TypeId}, 34 ≠ T' → (w4.alloc (.cells #[.int .i64 r.1, .int .i64 r.2.1, .int .i64 r.2.2.1, .int .i64 r.2.2.2] 34)).heap[b]? = some (.cells cs T' (0, 0)) → w5.heap[b]? = some (.cells cs T' (0, 0)) := fun hT hh => (hgrow2.block _ (heap_lt hh) (fun e => own_ne hox hh hT e.symm)).trans hh
        have hg5 := keep (by decide) HB.out.hg
        have hb5 := keep (by decide) HB.out.box
        have hr5 := keep (by decide) HB.out.res
        have hl0 := HB.out.gl
        have hd5 := HB.out.drawn.grown hgrow2 (fun g' hg' => by have := own_base' hox hg'; omega) hls
        have own5 := HB.out.own.step h1 hv1 (l' := ls[1] ++ [r]) (n := nx + 1) (by rw [rcs_append]; exact hown2) hgrow2 hwh
        obtain ⟨gv, cv, hv2⟩ : ∃ g cap, v2 = .slice (some ⟨g, 0, none⟩) (nx + 1) cap := by
          rcases hown2.2 with ⟨_, h⟩ | ⟨g, cap, cur, h, _⟩
          · omega
          · exact ⟨g, cap, h⟩
        subst hv2
        have hL := HB.out.put (j := 1) (n' := 8) (by omega) hg5 own5 hb5 hr5 hd5 (fun x hx => by
          rcases List.mem_append.1 hx with hx | hx
          · exact hm1 x hx
          · simp at hx; exact hx ▸ HMR.out) (by rw [List.length_append]; simp; omega)
        have HL := Lib.hid hL
        have q5 := HQ.out _ hg5
        have qf5 : w5.frozen? ⟨g, 1, none⟩ = false := frozen_of_heap hg5
        have qz5 := heap_lt hg5
        have HB5 := Lib.hid hb5
        clear hL own5 hr5 hd5 hb5 hg5 hown2 hgrow2 hwh hox hm1 keep
        refine hK _ _ HB5.out ?_
        try simp only [Act.put, List.setIfInBounds_toArray, List.set_cons_zero, List.set_cons_succ]
        refine sch_run (v := ?_) (by rfl) ?_ ?_
        rotate_left
        · (intro w' hS'; have l0 := HLD.out w' hS'; go_simp; try with_reducible rfl)
        try simp only [Act.put, List.setIfInBounds_toArray, List.set_cons_zero, List.set_cons_succ]
        refine sch_one (by rfl) (fun K hK => ?_)
        go_simp
        refine hK _ _ HL.out.box (sch_done ?_)
        obtain ⟨c0, c1, f0, f1, hz0⟩ := two_at HL.out.box
        obtain ⟨y0, y1, z0, z1, zz⟩ := two_at HL.out.res
        clear q5 qf5 qz5
        go_wp2_with fail
        refine bodyPost_ret (v := plv q (.slice (some ⟨g, 0, none⟩) 4 4)) (by simp [results, Try.results65, go_sem, c0, c1, y0, y1, hz0, zz, hne, hne2, hne3, hne4]) rfl ?_
        exact HL.out.fin (by omega) (by omega) (by omega) (by omega) _ _
      · skip
        go_simp
        have HB := Lib.hid (HA.out.below (below_new (.cells #[.int .i64 r.1, .int .i64 r.2.1, .int .i64 r.2.2.1, .int .i64 r.2.2.2] 34)))
        refine hK _ _ HB.out.box ?_
        try simp only [Act.put, List.setIfInBounds_toArray, List.set_cons_zero, List.set_cons_succ]
        refine sch_one (by rfl) (fun K hK => ?_)
        have q1 := HQ.out _ HB.out.hg
        go_simp
        refine hK _ _ HB.out.box ?_
        try simp only [Act.put, List.setIfInBounds_toArray, List.set_cons_zero, List.set_cons_succ]
        clear q1
        refine sch_one (by rfl) (fun K hK => ?_)
        obtain ⟨vx, nx, hvx, hox⟩ := HB.out.own.own 1 h1
        rw [hv1] at hvx; injection hvx with hvx; subst hvx
        have hn1 := HB.out.sz _ (List.getElem_mem h1)
        have hnx : nx ≤ 7 := by have := hox.1; rw [rcs_length] at this; omega
        have hm1 := HB.out.mild _ (List.getElem_mem h1)
        have hgz := heap_lt HB.out.hg
        refine wp_append_o (.tmp 28) (.tmp 31) 29 rfl (g + 1) 34 i0 (rv (0, 0, 0, 0)) 4 32 Try.underlying29 hi hz hsz hby rfl (by decide) v1 nx _ rfl hox ⟨w4.heap.size, 0, none⟩ 1 1 (rc r) rfl rfl (rc_new r) (rc_one r) (by unfold maxLen; omega) (by omega) hgz (by omega) ?_
        intro v2 w5 hown2 hgrow2 hwh
        have keep : ∀ {b : Nat} {cs : Array Value} {T' : TypeId}, 34 ≠ T' → (w4.alloc (.cells #[.int .i64 r.1, .int .i64 r.2.1, .int .i64 r.2.2.1, .int .i64 r.2.2.2] 34)).heap[b]? = some (.cells cs T' (0, 0)) → w5.heap[b]? = some (.cells cs T' (0, 0)) := fun hT hh => (hgrow2.block _ (heap_lt hh) (fun e => own_ne hox hh hT e.symm)).trans hh
        have hg5 := keep (by decide) HB.out.hg
        have hb5 := keep (by decide) HB.out.box
        have hr5 := keep (by decide) HB.out.res
        have hl0 := HB.out.gl
        have hd5 := HB.out.drawn.grown hgrow2 (fun g' hg' => by have := own_base' hox hg'; omega) hls
        have own5 := HB.out.own.step h1 hv1 (l' := ls[1] ++ [r]) (n := nx + 1) (by rw [rcs_append]; exact hown2) hgrow2 hwh
        obtain ⟨gv, cv, hv2⟩ : ∃ g cap, v2 = .slice (some ⟨g, 0, none⟩) (nx + 1) cap := by
          rcases hown2.2 with ⟨_, h⟩ | ⟨g, cap, cur, h, _⟩
          · omega
          · exact ⟨g, cap, h⟩
        subst hv2
        have hL := HB.out.put (j := 1) (n' := 8) (by omega) hg5 own5 hb5 hr5 hd5 (fun x hx => by
          rcases List.mem_append.1 hx with hx | hx
          · exact hm1 x hx
          · simp at hx; exact hx ▸ HMR.out) (by rw [List.length_append]; simp; omega)
        have HL := Lib.hid hL
        have q5 := HQ.out _ hg5
        have qf5 : w5.frozen? ⟨g, 1, none⟩ = false := frozen_of_heap hg5
        have qz5 := heap_lt hg5
        have HB5 := Lib.hid hb5
        clear hL own5 hr5 hd5 hb5 hg5 hown2 hgrow2 hwh hox hm1 keep
        refine hK _ _ HB5.out ?_
        try simp only [Act.put, List.setIfInBounds_toArray, List.set_cons_zero, List.set_cons_succ]
        refine sch_run (v := ?_) (by rfl) ?_ ?_
        rotate_left
        · (intro w' hS'; have l0 := HLD.out w' hS'; go_simp; try with_reducible rfl)
        try simp only [Act.put, List.setIfInBounds_toArray, List.set_cons_zero, List.set_cons_succ]
        refine sch_one (by rfl) (fun K hK => ?_)
        go_simp
        refine hK _ _ HL.out.box (sch_done ?_)
        obtain ⟨c0, c1, f0, f1, hz0⟩ := two_at HL.out.box
        obtain ⟨y0, y1, z0, z1, zz⟩ := two_at HL.out.res
        clear q5 qf5 qz5
        go_wp2_with fail
        refine bodyPost_ret (v := plv q (.slice (some ⟨g, 0, none⟩) 4 4)) (by simp [results, Try.results65, go_sem, c0, c1, y0, y1, hz0, zz, hne, hne2, hne3, hne4]) rfl ?_
        exact HL.out.fin (by omega) (by omega) (by omega) (by omega) _ _
  by_cases e3 : x = 3
  · subst e3
    have HLD : Hid (∀ w' : World, w'.heap[p]? = some (.cells #[.slice (some ⟨g, 0, none⟩) 4 4, .int .i64 q] 26 (0, 0)) → w'.cell? ⟨p, 0, none⟩ = some (.slice (some ⟨g, 0, none⟩) 4 4)) := fun w' h => cell_of_heap h
    go_wp2_with fail
    go_loopw [4] (fun i wr => ∃ (j : Nat) (vs' : List Value) (ls' : List (List R)), j ≤ 12 ∧ i = .int .i64 ((j : Int) + 1) ∧ Hid (LB w s zs a (0 + d + 1) g p (7 + j) 0 vs' ls' q wr) ∧ Hid (∀ l ∈ ls', ∀ r ∈ l, Fit r)) (fun i _ => 20 - (intOf i).toNat)
    case atStart => exact ⟨0, vs, ls, by omega, rfl, HL3, HFT⟩
    case round =>
      clear HL3 HFT
      obtain ⟨j, vs', ls', hj, rfl, HW, HF⟩ := hrel
      by_cases hj2 : j < 12
      · have h3 : 3 < ls'.length := by rw [HW.out.l4]; omega
        go_wp2_with fail
        refine wp_region_stps (fun w' => w'.heap[p]? = some (.cells #[.slice (some ⟨g, 0, none⟩) 4 4, .int .i64 q] 26 (0, 0))) [.run 0, .run 1, .run 2, .run 3, .run 4, .run 6, .run 7, .one 5, .one 8, .run 9, .one 10] (by kernel_rfl) (by kernel_rfl) (by kernel_rfl) (by kernel_rfl) (fun _ _ d _ _ h => by cases d <;> exact h) HW.out.box ?_
        simp only [stpsOf, stpOf, List.filterMap_cons, List.filterMap_nil, Option.map_some, Option.bind_some, List.getElem?_toArray, List.getElem?_cons_zero, List.getElem?_cons_succ]
        generalize hW0 : ({ heap := wr.heap, tape := wr.tape, drawn := wr.drawn + 1, os := wr.os, output := wr.output } : World) = v0
        have HW0 : Hid (LB w s zs a (0 + d + 1) g p (7 + j) 0 vs' ls' q v0) := by rw [← hW0]; exact HW.out.below (Below.refl _ _).drew
        clear hW0 HW
        refine stp_run (v := ?_) (by rfl) ?_ ?_
        rotate_left
        · (intro w' hS'; have l0 := HLD.out w' hS'; go_simp; try with_reducible rfl)
        try simp only [Act.put, List.setIfInBounds_toArray, List.set_cons_zero, List.set_cons_succ]
        refine stp_run (v := ?_) (by rfl) ?_ ?_
        rotate_left
        · (intro w' hS'; have l0 := HLD.out w' hS'; go_simp; try with_reducible rfl)
        try simp only [Act.put, List.setIfInBounds_toArray, List.set_cons_zero, List.set_cons_succ]
        refine stp_run (v := ?_) (by rfl) ?_ ?_
        rotate_left
        · (intro w' hS'; have l0 := HLD.out w' hS'; go_simp; try with_reducible rfl)
        try simp only [Act.put, List.setIfInBounds_toArray, List.set_cons_zero, List.set_cons_succ]
        refine stp_run (v := ?_) (by rfl) ?_ ?_
        rotate_left
        · (intro w' hS'; have l0 := HLD.out w' hS'; go_simp; try with_reducible rfl)
        try simp only [Act.put, List.setIfInBounds_toArray, List.set_cons_zero, List.set_cons_succ]
        refine stp_run (v := ?_) (by rfl) ?_ ?_
        rotate_left
        · (intro w' hS'; have l0 := HLD.out w' hS'; go_simp; try with_reducible rfl)
        try simp only [Act.put, List.setIfInBounds_toArray, List.set_cons_zero, List.set_cons_succ]
        refine stp_run (v := ?_) (by rfl) ?_ ?_
        rotate_left
        · (intro w' hS'; have l0 := HLD.out w' hS'; go_simp; try with_reducible rfl)
        try simp only [Act.put, List.setIfInBounds_toArray, List.set_cons_zero, List.set_cons_succ]
        refine stp_run (v := ?_) (by rfl) ?_ ?_
        rotate_left
        · (intro w' hS'; have l0 := HLD.out w' hS'; go_simp; try with_reducible rfl)
        try simp only [Act.put, List.setIfInBounds_toArray, List.set_cons_zero, List.set_cons_succ]
        obtain ⟨v3, n3, hv3, hown3⟩ := HW0.out.own.own 3 h3
        obtain ⟨f3, hr3, _, _⟩ := Rd.of_own hown3
        obtain ⟨A3, c3, rfl⟩ := hr3.rows_form
        have q3 : v0.cell? ⟨g, 3, none⟩ = some (.slice A3 ls'[3].length c3) := by rw [cell_of_heap HW0.out.hg, List.getElem?_toArray]; exact hv3
        have hn3 := HW0.out.sz _ (List.getElem_mem h3)
        have hm3 := HW0.out.mild _ (List.getElem_mem h3)
        have hf3 := HF.out _ (List.getElem_mem h3)
        have HR3 := Lib.hid hr3; have HM3 := Lib.hid hm3; have HF3 := Lib.hid hf3
        clear hr3 hm3 hf3 hown3 hv3
        refine stp_one (by rfl) (fun K hK => ?_)
        go_simp
        refine hK _ _ HW0.out.box ?_
        try simp only [Act.put, List.setIfInBounds_toArray, List.set_cons_zero, List.set_cons_succ]
        clear q3
        refine stp_one (by rfl) (fun K2 hK2 => ?_)
        go_simp
        refine (l2Set_c A3 c3 ls'[3] (3, (j : Int) + 1, 1, 0) v0 f3 (by omega) (fits_iff.2 fun x hx => HF3.out x hx) (by unfold Fit; simp only; omega) HR3.out).mono ?_
        rintro e x1 ⟨v', f', rfl, hr', _, _, hb', n', B', hB', ho'⟩
        obtain ⟨A', c', rfl⟩ := hr'.rows_form
        have hlen := setR_length ls'[3] (3, (j : Int) + 1, 1, 0)
        have hmem : ∀ r ∈ setR ls'[3] (3, (j : Int) + 1, 1, 0), Fit r ∧ Mild r := fun r hr => by
          rcases setR_mem hr with rfl | hr
          · unfold Fit Mild; simp only; omega
          · exact ⟨HF3.out r hr, HM3.out r hr⟩
        generalize setR ls'[3] (3, (j : Int) + 1, 1, 0) = l' at *
        have hX := HW0.out.below hb'
        have hgz := heap_lt HW0.out.hg
        have own2 := HW0.out.own.put h3 (own_lower ho' (by omega)) hb' (fun g' hg' => by have := own_base' ho' hg'; omega)
        have hL := HW0.out.put (j := 3) (n' := 7 + (j + 1)) (by omega) hX.hg own2 hX.box hX.res hX.drawn (fun r hr => (hmem r hr).2) (by omega)
        have hF' : ∀ l ∈ ls'.set 3 l', ∀ r ∈ l, Fit r := fun l hl2 => by
          rcases List.mem_or_eq_of_mem_set hl2 with h' | rfl
          · exact HF.out l h'
          · exact fun r hr => (hmem r hr).1
        have q4 : ∃ u, x1.cell? ⟨g, 3, none⟩ = some u := by
          rw [cell_of_heap hX.hg, List.getElem?_toArray, List.getElem?_eq_getElem (by rw [HW0.out.own.len]; exact h3)]
          exact ⟨_, rfl⟩
        obtain ⟨u4, q4⟩ := q4
        have qf4 : x1.frozen? ⟨g, 3, none⟩ = false := frozen_of_heap hX.hg
        have qz4 := heap_lt hX.hg
        have HX := Lib.hid hX; have HL := Lib.hid hL; have HFF := Lib.hid hF'
        clear hX hL hF' own2 hb' ho' hr' hlen hmem hn3 hB'
        refine hK2 _ _ HX.out.box ?_
        try simp only [Act.put, List.setIfInBounds_toArray, List.set_cons_zero, List.set_cons_succ]
        refine stp_run (v := ?_) (by rfl) ?_ ?_
        rotate_left
        · (intro w' hS'; have l0 := HLD.out w' hS'; go_simp; try with_reducible rfl)
        try simp only [Act.put, List.setIfInBounds_toArray, List.set_cons_zero, List.set_cons_succ]
        refine stp_one (by rfl) (fun K3 hK3 => ?_)
        go_simp
        refine hK3 _ _ HL.out.box ?_
        refine stp_done ?_
        clear q4 qf4 qz4
        go_wp2_with fail
        exact ⟨⟨j + 1, _, _, by omega, by go_num, HL, HFF⟩, by simp [intOf]; omega⟩
      · obtain ⟨c0, c1, f0, f1, hz⟩ := two_at HW.out.box
        obtain ⟨y0, y1, z0, z1, zz⟩ := two_at HW.out.res
        go_wp2_with fail
        refine bodyPost_ret (v := plv q (.slice (some ⟨g, 0, none⟩) 4 4)) (by simp [results, Try.results65, go_sem, c0, c1, y0, y1, hz, zz, hne, hne2, hne3, hne4]) rfl ?_
        exact HW.out.fin (by omega) (by omega) (by omega) (by omega) _ _
  have b0 : (x == 0) = false := by simp [e0]
  have b1 : (x == 1) = false := by simp [e1]
  have b2 : (x == 2) = false := by simp [e2]
  have b3 : (x == 3) = false := by simp [e3]
  clear e0 e1 e2 e3
  obtain ⟨c0, c1, f0, f1, hz⟩ := two_at HL3.out.box
  obtain ⟨y0, y1, z0, z1, zz⟩ := two_at HL3.out.res
  go_wp2_with fail
  refine bodyPost_ret (v := plv q (.slice (some ⟨g, 0, none⟩) 4 4)) (by simp [results, Try.results65, go_sem, c0, c1, y0, y1, hz, zz, hne, hne2, hne3, hne4]) rfl ?_
  exact HL3.out.fin (by omega) (by omega) (by omega) (by omega) _ _
end Go.Proofs.Ytoabohllphoioaa
