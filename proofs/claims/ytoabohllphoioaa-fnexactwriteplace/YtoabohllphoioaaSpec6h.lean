/-
  The model's functions of chapter 6, eighth part: places copied, by a maker (mkcopy.py).
-/
import Derived.Test.YtoabohllphoioaaSpec6e
import Derived.Test.YtoabohllphoioaaCop6
import Derived.Test.YtoabohllphoioaaSched3
namespace Go.Proofs.Ytoabohllphoioaa
open Go.RowKit

set_option maxRecDepth 100000 in
set_option maxHeartbeats 8000000 in
theorem l6Copy_c (p : Pl) (vf : Value) (w : World) (fp : List Nat) (hs : plsz p ≤ 1048576) (h : PlAt w p vf fp) :
    Calls Try.prog 87 #[plv p.mark vf] w (CopyPlaces w p) := by
  obtain ⟨A, c, rfl⟩ := h.form
  obtain ⟨l, m⟩ := p
  simp only at *
  obtain ⟨i0, hi, hz, hsz, hby⟩ := infoRow
  obtain ⟨i1, hi1, hz1, hsz1, hby1⟩ := infoRowS
  have HS : Hid (∀ k (h : k < l.length), l[k].length ≤ 1048576 ∧ k ≤ 1048576) := fun k h => by have := len_of_tot l k h; unfold plsz fsz at hs; simp only at hs; omega
  have HF := Lib.hid h.f
  have hmax := h.f.len_le.2
  clear h hs
  simp only at HF hmax
  go_enter Try.func87, Try.ntmps87
  go_wp2_with fail
  have HBW := Lib.hid (below_more (below_more (below_new (w := w) (.cells #[.slice A l.length c, .int .i64 m] 26)) (.cells #[.slice none 0 0, .int .i64 0] 26)) (.cells #[.slice none 0 0, .int .i64 m] 26))
  have G0 := Lib.hid (heap_old (o' := .cells #[.slice none 0 0, .int .i64 m] 26) (heap_old (o' := .cells #[.slice none 0 0, .int .i64 0] 26) (heap_new w (.cells #[.slice A l.length c, .int .i64 m] 26) rfl)))
  have G1 := Lib.hid (heap_old (o' := .cells #[.slice none 0 0, .int .i64 m] 26) (heap_new (w.alloc (.cells #[.slice A l.length c, .int .i64 m] 26)) (.cells #[.slice none 0 0, .int .i64 0] 26) (g := w.heap.size + 1) (by simp)))
  have G2 := Lib.hid (heap_new ((w.alloc (.cells #[.slice A l.length c, .int .i64 m] 26)).alloc (.cells #[.slice none 0 0, .int .i64 0] 26)) (.cells #[.slice none 0 0, .int .i64 m] 26) (g := w.heap.size + 1 + 1) (by simp))
  have HZ : Hid (w.heap.size + 1 + 1 < (((w.alloc (.cells #[.slice A l.length c, .int .i64 m] 26)).alloc (.cells #[.slice none 0 0, .int .i64 0] 26)).alloc (.cells #[.slice none 0 0, .int .i64 m] 26)).heap.size) := heap_lt G2.out
  generalize (((w.alloc (.cells #[.slice A l.length c, .int .i64 m] 26)).alloc (.cells #[.slice none 0 0, .int .i64 0] 26)).alloc (.cells #[.slice none 0 0, .int .i64 m] 26)) = W at *
  have HFW := Lib.hid (HF.out.below' HBW.out)
  have HFL : Hid (∀ x ∈ fp, x ∉ [w.heap.size + 1 + 1]) := fun x hx he => by have := Sl.lt HF.out x hx; simp at he; omega
  go_loopw [4] (fun i wr => ∃ k : Nat, k ≤ l.length ∧ i = .int .i64 k ∧ ∃ vo us fs, Hid (CopF wr W.heap.size vo us fs (l.take k) 29) ∧ Hid (us.length = k) ∧ Hid (wr.heap[w.heap.size + 1 + 1]? = some (.cells #[vo, .int .i64 m] 26 (0, 0))) ∧ Hid (But [w.heap.size + 1 + 1] W wr)) (fun i _ => l.length - (intOf i).toNat)
  case atStart => exact ⟨0, Nat.zero_le _, rfl, .slice none 0 0, [], [], Lib.hid (CopF.nil _ _ _), Lib.hid rfl, G2, Lib.hid (But.refl _ _)⟩
  case round =>
    obtain ⟨k, hk, rfl, vo, us, fs, HCI, HU1, HOI, HBI⟩ := hrel
    have HP := Lib.hid (HBI.out.heap G0.out (by simp <;> omega))
    by_cases hlt : k < l.length
    · obtain ⟨b, off, B, d, f, hA, _, hbl, hc, hr, _⟩ := rowsAt (HFW.out.but HBI.out HFL.out) hlt
      subst hA
      have hcall : ∀ w', But [w.heap.size + 1 + 1] W w' → w'.cell? ⟨b, off + k, none⟩ = some (.slice B l[k].length d) := fun w' h => by
        obtain ⟨b', off', B', d', f', e, _, _, hc', _⟩ := rowsAt (HFW.out.but h HFL.out) hlt
        injection e with e; injection e with e1 e2 _; subst e1 e2
        have hx : ∀ {x y}, W.cell? ⟨b, off + k, none⟩ = x → W.cell? ⟨b, off + k, none⟩ = y → x = y := fun h1 h2 => h1.symm.trans h2
        obtain ⟨b3, off3, B3, d3, f3, e3, hb3, hl3, hc3, _⟩ := rowsAt HFW.out hlt
        injection e3 with e3; injection e3 with e4 e5 _; subst e4 e5
        have h1 := (h.cell (p := ⟨b, off + k, none⟩) hl3 (HFL.out b hb3))
        have h2 := (HBI.out.cell (p := ⟨b, off + k, none⟩) hl3 (HFL.out b hb3))
        rw [h1, ← h2]; exact hc
      have HNN := HS.out k hlt
      have HN : Hid (l[k].length ≤ 1048576) := HNN.1
      have HU : Hid (us.length ≤ 1048576) := by rw [HU1.out]; exact HNN.2
      have HT : Hid (l.take (k + 1) = l.take k ++ [l[k]]) := List.take_succ_eq_append_getElem hlt
      have HCL := Lib.hid hcall
      clear hcall HNN
      generalize l[k] = rs at *
      obtain ⟨p0, p1, _, _, pz⟩ := two_at HP.out
      go_wp2_with fail
      have hld : ∀ w', But [w.heap.size + 1 + 1] W w' → w'.cell? ⟨w.heap.size, 0, none⟩ = some (.slice (some ⟨b, off, none⟩) l.length c) ∧ w'.cell? ⟨b, off + k, none⟩ = some (.slice B rs.length d) := fun w' h =>
        ⟨cell_of_heap (h.heap G0.out (by simp <;> omega)), HCL.out w' h⟩
      have HLD := Lib.hid hld
      have HRI := Lib.hid hr
      have i0k : (0 : Int) ≤ (k : Int) := by omega
      have i1k : (k : Int) < (l.length : Int) := by omega
      clear hld p0 p1 pz hc hbl hr
      refine wp_region_sch (fun w' => But [w.heap.size + 1 + 1] W w') (.run 0 (.run 3 (.run 4 (.run 5 (.run 6 (.run 7 (.fork 1 2 (.one 2 (.one 8 (.one 9 (.one 10 (.run 11 (.one 12 .done)))))) (.fork 1 8 (.one 8 (.one 9 (.one 10 (.run 11 (.one 12 .done))))) (.fork 1 9 (.one 9 (.one 10 (.run 11 (.one 12 .done)))) (.one 1 (.one 10 (.run 11 (.one 12 .done))))))))))))) (by kernel_rfl) (by kernel_rfl) (by kernel_rfl) (by kernel_rfl) (fun _ _ d _ _ h => by cases d <;> exact h) (HBI.out.drewN 1) ?_
      simp only [Sch.res, List.getElem?_toArray, List.getElem?_cons_zero, List.getElem?_cons_succ, Option.bind_some, Option.map_some, wpSchR_some]
      generalize hW0 : ({ heap := wr.heap, tape := wr.tape, drawn := wr.drawn + 1, os := wr.os, output := wr.output } : World) = v0
      have HBII : Hid (But [w.heap.size + 1 + 1] W v0) := by rw [← hW0]; exact HBI.out.drewN 1
      have HOII : Hid (v0.heap[w.heap.size + 1 + 1]? = some (.cells #[vo, .int .i64 m] 26 (0, 0))) := by rw [← hW0]; exact HOI.out
      have HCII : Hid (CopF v0 W.heap.size vo us fs (l.take k) 29) := by rw [← hW0]; exact HCI.out.drewN 1
      have HRII : Hid (Rd v0 4 (.slice B rs.length d) (rcs rs) f) := by rw [← hW0]; exact HRI.out.drewN 1
      clear hW0 HBI HOI HCI HRI HP
      have HBI := HBII; have HOI := HOII; have HCI := HCII; have HRI := HRII
      clear HBII HOII HCII HRII
      refine sch_run (v := ?_) (by rfl) ?_ ?_
      rotate_left
      · (intro w' hS'; go_simp; try with_reducible rfl)
      try simp only [Act.put, List.setIfInBounds_toArray, List.set_cons_zero, List.set_cons_succ]
      refine sch_run (v := ?_) (by rfl) ?_ ?_
      rotate_left
      · (intro w' hS'; go_simp; try with_reducible rfl)
      try simp only [Act.put, List.setIfInBounds_toArray, List.set_cons_zero, List.set_cons_succ]
      refine sch_run (v := ?_) (by rfl) ?_ ?_
      rotate_left
      · (intro w' hS'; obtain ⟨l0, l1⟩ := HLD.out w' hS'; go_simp; try with_reducible rfl)
      try simp only [Act.put, List.setIfInBounds_toArray, List.set_cons_zero, List.set_cons_succ]
      refine sch_run (v := ?_) (by rfl) ?_ ?_
      rotate_left
      · (intro w' hS'; go_simp; try with_reducible rfl)
      try simp only [Act.put, List.setIfInBounds_toArray, List.set_cons_zero, List.set_cons_succ]
      refine sch_run (v := ?_) (by rfl) ?_ ?_
      rotate_left
      · (intro w' hS'; go_simp; try with_reducible rfl)
      try simp only [Act.put, List.setIfInBounds_toArray, List.set_cons_zero, List.set_cons_succ]
      refine sch_run (v := ?_) (by rfl) ?_ ?_
      rotate_left
      · (intro w' hS'; obtain ⟨l0, l1⟩ := HLD.out w' hS'; go_simp; try with_reducible rfl)
      try simp only [Act.put, List.setIfInBounds_toArray, List.set_cons_zero, List.set_cons_succ]
      refine sch_fork (by rfl) (by rfl) (fun K hK => ?_) (fun K hK => ?_)
      · skip
        obtain ⟨q0, q1, qf, _, qz⟩ := two_at HOI.out
        go_simp
        refine hK _ _ HBI.out ?_
        try simp only [Act.put, List.setIfInBounds_toArray, List.set_cons_zero, List.set_cons_succ]
        clear q0 q1 qf qz
        refine sch_one (by rfl) (fun K hK => ?_)
        go_simp
        have HC0_1 := Lib.hid (HCI.out.alloc (.cells #[] 34)); have HO0_1 := Lib.hid (heap_old (o' := (.cells #[] 34)) HOI.out); have HB0_1 := Lib.hid (HBI.out.alloc (.cells #[] 34))
        have HE0_1 := Lib.hid (own_emptyR (w := v0) (t := 34) (Nat.le_refl v0.heap.size))
        have HR0_1 := Lib.hid (HRI.out.alloc (.cells #[] 34))
        refine hK _ _ HB0_1.out ?_
        try simp only [Act.put, List.setIfInBounds_toArray, List.set_cons_zero, List.set_cons_succ]
        refine sch_one (by rfl) (fun K hK => ?_)
        refine wp_append_rd (.tmp 17) (.tmp 22) 29 rfl (v0.heap.size) 34 i0 (rv (0, 0, 0, 0)) 4 32 Try.underlying29 hi hz hsz hby rfl (by decide) _ 0 [] rfl HE0_1.out B rs.length d (rcs rs) f rfl HR0_1.out (rcs_one rs) ?a1 ?a2 ?a3 ?_
        case a1 => have := HN.out; unfold maxLen; omega
        case a2 => have := HN.out; omega
        case a3 => simp
        intro v1_2 x1_2 hown hgrow
        simp only [Nat.zero_add, List.nil_append] at hown
        have hgrow : World.grownBy (v0.alloc (.cells #[] 34)) x1_2 (some (v0.heap.size)) := hgrow
        obtain ⟨fv, r1, r2, r3, r4⟩ := Rd.of_own6 hown
        obtain ⟨Av, cv, rfl⟩ := r1.rows_form
        have hlt := HCI.out.lt
        have hzo := heap_lt HOI.out
        have HC1_2 := Lib.hid (HC0_1.out.grown hgrow (fun g hg hm => by injection hg with hg; have := hlt g hm; omega) (fun g hg hv => by injection hg with hg; have := own_lt6 HCI.out.own hv; omega))
        have HO1_2 := Lib.hid ((hgrow.block _ (heap_lt HO0_1.out) (fun h => by injection h with h; omega)).trans HO0_1.out)
        have HB1_2 := Lib.hid (but_grown HB0_1.out hgrow (fun g hg => by injection hg with hg; have := HBI.out.size; omega))
        have HV1_2 : Hid (Rd x1_2 4 (.slice Av rs.length cv) (rcs rs) fv ∧ NF x1_2 fv ∧ From (v0.heap.size) fv ∧ (∀ x ∈ fs.flatten, x < v0.heap.size) ∧ (∀ g, vo.ownBlock = some g → g < v0.heap.size) ∧ W.heap.size ≤ v0.heap.size) := ⟨r1, r2, r3, hlt, fun g hg => own_lt6 HCI.out.own hg, HBI.out.size⟩
        clear hown hgrow r1 r2 r3 r4 hlt hzo
        refine hK _ _ HB1_2.out ?_
        try simp only [Act.put, List.setIfInBounds_toArray, List.set_cons_zero, List.set_cons_succ]
        refine sch_one (by rfl) (fun K hK => ?_)
        go_simp
        have HC2_3 := Lib.hid (HC1_2.out.alloc (.cells #[.slice Av rs.length cv] 29)); have HO2_3 := Lib.hid (heap_old (o' := (.cells #[.slice Av rs.length cv] 29)) HO1_2.out); have HB2_3 := Lib.hid (HB1_2.out.alloc (.cells #[.slice Av rs.length cv] 29))
        have HV2_3 : Hid (Rd (x1_2.alloc (.cells #[.slice Av rs.length cv] 29)) 4 (.slice Av rs.length cv) (rcs rs) fv ∧ NF (x1_2.alloc (.cells #[.slice Av rs.length cv] 29)) fv ∧ From (v0.heap.size) fv ∧ (∀ x ∈ fs.flatten, x < v0.heap.size) ∧ (∀ g, vo.ownBlock = some g → g < v0.heap.size) ∧ W.heap.size ≤ v0.heap.size) := ⟨HV1_2.out.1.alloc _, HV1_2.out.2.1.keep fun x hx => Below.heap_alloc _ _ _ (HV1_2.out.1.lt x hx), HV1_2.out.2.2⟩
        refine hK _ _ HB2_3.out ?_
        try simp only [Act.put, List.setIfInBounds_toArray, List.set_cons_zero, List.set_cons_succ]
        refine sch_one (by rfl) (fun K hK => ?_)
        refine wp_append_o (.tmp 16) (.tmp 24) 24 rfl W.heap.size 29 i1 (.slice none 0 0) 1 24 Try.underlying24 hi1 hz1 hsz1 hby1 rfl (by decide) vo us.length us rfl HC2_3.out.own ⟨x1_2.heap.size, 0, none⟩ 1 1 [.slice Av rs.length cv] rfl rfl rd1_new (by simp [Value.oneCell']) ?a1 ?a2 ?a3 (by omega) ?_
        case a1 => have := HU.out; unfold maxLen; omega
        case a2 => have := HU.out; omega
        case a3 => exact HB2_3.out.size
        intro v3_4 x3_4 hown hgrow hwh
        have hcp := HC2_3.out.push HV2_3.out.1 HV2_3.out.2.1 (HV2_3.out.2.2.1.mono HV2_3.out.2.2.2.2.2) (fun x hx hm => by have := HV2_3.out.2.2.1 x hx; have := HV2_3.out.2.2.2.1 x hm; omega) (fun g hg hm => by have := HV2_3.out.2.2.1 g hm; have := HV2_3.out.2.2.2.2.1 g hg; omega) hown hgrow hwh
        rw [← HT.out] at hcp
        have hou := (hgrow.block _ (heap_lt HO2_3.out) (fun h => by have := own_base' HC2_3.out.own h.symm; have := HZ.out; omega)).trans HO2_3.out
        have hbt := but_grown HB2_3.out hgrow (fun g hg => own_base' HC2_3.out.own hg)
        obtain ⟨gv, cw, hv2⟩ : ∃ g cap, v3_4 = .slice (some ⟨g, 0, none⟩) (us.length + 1) cap := by
          rcases hown.2 with ⟨_, h⟩ | ⟨g, cap, cur, h, _⟩
          · omega
          · exact ⟨g, cap, h⟩
        subst hv2
        have HCP := Lib.hid hcp; have HOU := Lib.hid hou; have HBT := Lib.hid hbt
        clear hcp hou hbt hown hgrow hwh
        refine hK _ _ HBT.out ?_
        try simp only [Act.put, List.setIfInBounds_toArray, List.set_cons_zero, List.set_cons_succ]
        refine sch_run (v := ?_) (by rfl) ?_ ?_
        rotate_left
        · (intro w' hS'; go_simp; try with_reducible rfl)
        try simp only [Act.put, List.setIfInBounds_toArray, List.set_cons_zero, List.set_cons_succ]
        obtain ⟨q0, q1, qf, _, qz⟩ := two_at HOU.out
        refine sch_one (by rfl) (fun K2 hK2 => ?_)
        go_simp
        have hb3 := HBT.out.setCell (p := ⟨w.heap.size + 1 + 1, 0, none⟩) (by simp) (.slice (some ⟨gv, 0, none⟩) (us.length + 1) cw)
        refine hK2 _ _ hb3 (sch_done ?_)
        have HO3 := Lib.hid (heap_set1 (i := 0) (v := .slice (some ⟨gv, 0, none⟩) (us.length + 1) cw) HOU.out)
        have HC3 := Lib.hid (HCP.out.grown (row := some (w.heap.size + 1 + 1)) (w' := x3_4.setCell ⟨w.heap.size + 1 + 1, 0, none⟩ (.slice (some ⟨gv, 0, none⟩) (us.length + 1) cw)) ⟨rfl, rfl, rfl, by simp [World.setCell], fun x _ hx => Below.heap_setCell _ _ _ _ (fun h => hx (by rw [h]))⟩ (fun g hg hm => by injection hg with hg; have := HCP.out.fr g hm; have := HZ.out; omega) (fun g hg hv => by injection hg with hg; have := own_base' HCP.out.own hv; have := HZ.out; omega))
        have HB3 := Lib.hid hb3
        clear hb3 q0 q1 qf qz
        go_wp2_with fail
        exact ⟨⟨k + 1, by omega, by go_num, _, _, _, HC3, Lib.hid (by simp [HU1.out]), HO3, HB3⟩, by simp [intOf]; omega⟩
      · skip
        go_simp
        have HC0_5 := Lib.hid (HCI.out.alloc (.cells #[] 34)); have HO0_5 := Lib.hid (heap_old (o' := (.cells #[] 34)) HOI.out); have HB0_5 := Lib.hid (HBI.out.alloc (.cells #[] 34))
        have HE0_5 := Lib.hid (own_emptyR (w := v0) (t := 34) (Nat.le_refl v0.heap.size))
        have HR0_5 := Lib.hid (HRI.out.alloc (.cells #[] 34))
        refine hK _ _ HB0_5.out ?_
        try simp only [Act.put, List.setIfInBounds_toArray, List.set_cons_zero, List.set_cons_succ]
        refine sch_fork (by rfl) (by rfl) (fun K hK => ?_) (fun K hK => ?_)
        · skip
          obtain ⟨q0, q1, qf, _, qz⟩ := two_at HO0_5.out
          go_simp
          refine hK _ _ HB0_5.out ?_
          try simp only [Act.put, List.setIfInBounds_toArray, List.set_cons_zero, List.set_cons_succ]
          clear q0 q1 qf qz
          refine sch_one (by rfl) (fun K hK => ?_)
          refine wp_append_rd (.tmp 17) (.tmp 22) 29 rfl (v0.heap.size) 34 i0 (rv (0, 0, 0, 0)) 4 32 Try.underlying29 hi hz hsz hby rfl (by decide) _ 0 [] rfl HE0_5.out B rs.length d (rcs rs) f rfl HR0_5.out (rcs_one rs) ?a1 ?a2 ?a3 ?_
          case a1 => have := HN.out; unfold maxLen; omega
          case a2 => have := HN.out; omega
          case a3 => simp
          intro v1_6 x1_6 hown hgrow
          simp only [Nat.zero_add, List.nil_append] at hown
          have hgrow : World.grownBy (v0.alloc (.cells #[] 34)) x1_6 (some (v0.heap.size)) := hgrow
          obtain ⟨fv, r1, r2, r3, r4⟩ := Rd.of_own6 hown
          obtain ⟨Av, cv, rfl⟩ := r1.rows_form
          have hlt := HCI.out.lt
          have hzo := heap_lt HOI.out
          have HC1_6 := Lib.hid (HC0_5.out.grown hgrow (fun g hg hm => by injection hg with hg; have := hlt g hm; omega) (fun g hg hv => by injection hg with hg; have := own_lt6 HCI.out.own hv; omega))
          have HO1_6 := Lib.hid ((hgrow.block _ (heap_lt HO0_5.out) (fun h => by injection h with h; omega)).trans HO0_5.out)
          have HB1_6 := Lib.hid (but_grown HB0_5.out hgrow (fun g hg => by injection hg with hg; have := HBI.out.size; omega))
          have HV1_6 : Hid (Rd x1_6 4 (.slice Av rs.length cv) (rcs rs) fv ∧ NF x1_6 fv ∧ From (v0.heap.size) fv ∧ (∀ x ∈ fs.flatten, x < v0.heap.size) ∧ (∀ g, vo.ownBlock = some g → g < v0.heap.size) ∧ W.heap.size ≤ v0.heap.size) := ⟨r1, r2, r3, hlt, fun g hg => own_lt6 HCI.out.own hg, HBI.out.size⟩
          clear hown hgrow r1 r2 r3 r4 hlt hzo
          refine hK _ _ HB1_6.out ?_
          try simp only [Act.put, List.setIfInBounds_toArray, List.set_cons_zero, List.set_cons_succ]
          refine sch_one (by rfl) (fun K hK => ?_)
          go_simp
          have HC2_7 := Lib.hid (HC1_6.out.alloc (.cells #[.slice Av rs.length cv] 29)); have HO2_7 := Lib.hid (heap_old (o' := (.cells #[.slice Av rs.length cv] 29)) HO1_6.out); have HB2_7 := Lib.hid (HB1_6.out.alloc (.cells #[.slice Av rs.length cv] 29))
          have HV2_7 : Hid (Rd (x1_6.alloc (.cells #[.slice Av rs.length cv] 29)) 4 (.slice Av rs.length cv) (rcs rs) fv ∧ NF (x1_6.alloc (.cells #[.slice Av rs.length cv] 29)) fv ∧ From (v0.heap.size) fv ∧ (∀ x ∈ fs.flatten, x < v0.heap.size) ∧ (∀ g, vo.ownBlock = some g → g < v0.heap.size) ∧ W.heap.size ≤ v0.heap.size) := ⟨HV1_6.out.1.alloc _, HV1_6.out.2.1.keep fun x hx => Below.heap_alloc _ _ _ (HV1_6.out.1.lt x hx), HV1_6.out.2.2⟩
          refine hK _ _ HB2_7.out ?_
          try simp only [Act.put, List.setIfInBounds_toArray, List.set_cons_zero, List.set_cons_succ]
          refine sch_one (by rfl) (fun K hK => ?_)
          refine wp_append_o (.tmp 16) (.tmp 24) 24 rfl W.heap.size 29 i1 (.slice none 0 0) 1 24 Try.underlying24 hi1 hz1 hsz1 hby1 rfl (by decide) vo us.length us rfl HC2_7.out.own ⟨x1_6.heap.size, 0, none⟩ 1 1 [.slice Av rs.length cv] rfl rfl rd1_new (by simp [Value.oneCell']) ?a1 ?a2 ?a3 (by omega) ?_
          case a1 => have := HU.out; unfold maxLen; omega
          case a2 => have := HU.out; omega
          case a3 => exact HB2_7.out.size
          intro v3_8 x3_8 hown hgrow hwh
          have hcp := HC2_7.out.push HV2_7.out.1 HV2_7.out.2.1 (HV2_7.out.2.2.1.mono HV2_7.out.2.2.2.2.2) (fun x hx hm => by have := HV2_7.out.2.2.1 x hx; have := HV2_7.out.2.2.2.1 x hm; omega) (fun g hg hm => by have := HV2_7.out.2.2.1 g hm; have := HV2_7.out.2.2.2.2.1 g hg; omega) hown hgrow hwh
          rw [← HT.out] at hcp
          have hou := (hgrow.block _ (heap_lt HO2_7.out) (fun h => by have := own_base' HC2_7.out.own h.symm; have := HZ.out; omega)).trans HO2_7.out
          have hbt := but_grown HB2_7.out hgrow (fun g hg => own_base' HC2_7.out.own hg)
          obtain ⟨gv, cw, hv2⟩ : ∃ g cap, v3_8 = .slice (some ⟨g, 0, none⟩) (us.length + 1) cap := by
            rcases hown.2 with ⟨_, h⟩ | ⟨g, cap, cur, h, _⟩
            · omega
            · exact ⟨g, cap, h⟩
          subst hv2
          have HCP := Lib.hid hcp; have HOU := Lib.hid hou; have HBT := Lib.hid hbt
          clear hcp hou hbt hown hgrow hwh
          refine hK _ _ HBT.out ?_
          try simp only [Act.put, List.setIfInBounds_toArray, List.set_cons_zero, List.set_cons_succ]
          refine sch_run (v := ?_) (by rfl) ?_ ?_
          rotate_left
          · (intro w' hS'; go_simp; try with_reducible rfl)
          try simp only [Act.put, List.setIfInBounds_toArray, List.set_cons_zero, List.set_cons_succ]
          obtain ⟨q0, q1, qf, _, qz⟩ := two_at HOU.out
          refine sch_one (by rfl) (fun K2 hK2 => ?_)
          go_simp
          have hb3 := HBT.out.setCell (p := ⟨w.heap.size + 1 + 1, 0, none⟩) (by simp) (.slice (some ⟨gv, 0, none⟩) (us.length + 1) cw)
          refine hK2 _ _ hb3 (sch_done ?_)
          have HO3 := Lib.hid (heap_set1 (i := 0) (v := .slice (some ⟨gv, 0, none⟩) (us.length + 1) cw) HOU.out)
          have HC3 := Lib.hid (HCP.out.grown (row := some (w.heap.size + 1 + 1)) (w' := x3_8.setCell ⟨w.heap.size + 1 + 1, 0, none⟩ (.slice (some ⟨gv, 0, none⟩) (us.length + 1) cw)) ⟨rfl, rfl, rfl, by simp [World.setCell], fun x _ hx => Below.heap_setCell _ _ _ _ (fun h => hx (by rw [h]))⟩ (fun g hg hm => by injection hg with hg; have := HCP.out.fr g hm; have := HZ.out; omega) (fun g hg hv => by injection hg with hg; have := own_base' HCP.out.own hv; have := HZ.out; omega))
          have HB3 := Lib.hid hb3
          clear hb3 q0 q1 qf qz
          go_wp2_with fail
          exact ⟨⟨k + 1, by omega, by go_num, _, _, _, HC3, Lib.hid (by simp [HU1.out]), HO3, HB3⟩, by simp [intOf]; omega⟩
        · skip
          refine wp_append_rd (.tmp 17) (.tmp 22) 29 rfl (v0.heap.size) 34 i0 (rv (0, 0, 0, 0)) 4 32 Try.underlying29 hi hz hsz hby rfl (by decide) _ 0 [] rfl HE0_5.out B rs.length d (rcs rs) f rfl HR0_5.out (rcs_one rs) ?a1 ?a2 ?a3 ?_
          case a1 => have := HN.out; unfold maxLen; omega
          case a2 => have := HN.out; omega
          case a3 => simp
          intro v1_9 x1_9 hown hgrow
          simp only [Nat.zero_add, List.nil_append] at hown
          have hgrow : World.grownBy (v0.alloc (.cells #[] 34)) x1_9 (some (v0.heap.size)) := hgrow
          obtain ⟨fv, r1, r2, r3, r4⟩ := Rd.of_own6 hown
          obtain ⟨Av, cv, rfl⟩ := r1.rows_form
          have hlt := HCI.out.lt
          have hzo := heap_lt HOI.out
          have HC1_9 := Lib.hid (HC0_5.out.grown hgrow (fun g hg hm => by injection hg with hg; have := hlt g hm; omega) (fun g hg hv => by injection hg with hg; have := own_lt6 HCI.out.own hv; omega))
          have HO1_9 := Lib.hid ((hgrow.block _ (heap_lt HO0_5.out) (fun h => by injection h with h; omega)).trans HO0_5.out)
          have HB1_9 := Lib.hid (but_grown HB0_5.out hgrow (fun g hg => by injection hg with hg; have := HBI.out.size; omega))
          have HV1_9 : Hid (Rd x1_9 4 (.slice Av rs.length cv) (rcs rs) fv ∧ NF x1_9 fv ∧ From (v0.heap.size) fv ∧ (∀ x ∈ fs.flatten, x < v0.heap.size) ∧ (∀ g, vo.ownBlock = some g → g < v0.heap.size) ∧ W.heap.size ≤ v0.heap.size) := ⟨r1, r2, r3, hlt, fun g hg => own_lt6 HCI.out.own hg, HBI.out.size⟩
          clear hown hgrow r1 r2 r3 r4 hlt hzo
          refine hK _ _ HB1_9.out ?_
          try simp only [Act.put, List.setIfInBounds_toArray, List.set_cons_zero, List.set_cons_succ]
          refine sch_fork (by rfl) (by rfl) (fun K hK => ?_) (fun K hK => ?_)
          · skip
            obtain ⟨q0, q1, qf, _, qz⟩ := two_at HO1_9.out
            go_simp
            refine hK _ _ HB1_9.out ?_
            try simp only [Act.put, List.setIfInBounds_toArray, List.set_cons_zero, List.set_cons_succ]
            clear q0 q1 qf qz
            refine sch_one (by rfl) (fun K hK => ?_)
            go_simp
            have HC2_10 := Lib.hid (HC1_9.out.alloc (.cells #[.slice Av rs.length cv] 29)); have HO2_10 := Lib.hid (heap_old (o' := (.cells #[.slice Av rs.length cv] 29)) HO1_9.out); have HB2_10 := Lib.hid (HB1_9.out.alloc (.cells #[.slice Av rs.length cv] 29))
            have HV2_10 : Hid (Rd (x1_9.alloc (.cells #[.slice Av rs.length cv] 29)) 4 (.slice Av rs.length cv) (rcs rs) fv ∧ NF (x1_9.alloc (.cells #[.slice Av rs.length cv] 29)) fv ∧ From (v0.heap.size) fv ∧ (∀ x ∈ fs.flatten, x < v0.heap.size) ∧ (∀ g, vo.ownBlock = some g → g < v0.heap.size) ∧ W.heap.size ≤ v0.heap.size) := ⟨HV1_9.out.1.alloc _, HV1_9.out.2.1.keep fun x hx => Below.heap_alloc _ _ _ (HV1_9.out.1.lt x hx), HV1_9.out.2.2⟩
            refine hK _ _ HB2_10.out ?_
            try simp only [Act.put, List.setIfInBounds_toArray, List.set_cons_zero, List.set_cons_succ]
            refine sch_one (by rfl) (fun K hK => ?_)
            refine wp_append_o (.tmp 16) (.tmp 24) 24 rfl W.heap.size 29 i1 (.slice none 0 0) 1 24 Try.underlying24 hi1 hz1 hsz1 hby1 rfl (by decide) vo us.length us rfl HC2_10.out.own ⟨x1_9.heap.size, 0, none⟩ 1 1 [.slice Av rs.length cv] rfl rfl rd1_new (by simp [Value.oneCell']) ?a1 ?a2 ?a3 (by omega) ?_
            case a1 => have := HU.out; unfold maxLen; omega
            case a2 => have := HU.out; omega
            case a3 => exact HB2_10.out.size
            intro v3_11 x3_11 hown hgrow hwh
            have hcp := HC2_10.out.push HV2_10.out.1 HV2_10.out.2.1 (HV2_10.out.2.2.1.mono HV2_10.out.2.2.2.2.2) (fun x hx hm => by have := HV2_10.out.2.2.1 x hx; have := HV2_10.out.2.2.2.1 x hm; omega) (fun g hg hm => by have := HV2_10.out.2.2.1 g hm; have := HV2_10.out.2.2.2.2.1 g hg; omega) hown hgrow hwh
            rw [← HT.out] at hcp
            have hou := (hgrow.block _ (heap_lt HO2_10.out) (fun h => by have := own_base' HC2_10.out.own h.symm; have := HZ.out; omega)).trans HO2_10.out
            have hbt := but_grown HB2_10.out hgrow (fun g hg => own_base' HC2_10.out.own hg)
            obtain ⟨gv, cw, hv2⟩ : ∃ g cap, v3_11 = .slice (some ⟨g, 0, none⟩) (us.length + 1) cap := by
              rcases hown.2 with ⟨_, h⟩ | ⟨g, cap, cur, h, _⟩
              · omega
              · exact ⟨g, cap, h⟩
            subst hv2
            have HCP := Lib.hid hcp; have HOU := Lib.hid hou; have HBT := Lib.hid hbt
            clear hcp hou hbt hown hgrow hwh
            refine hK _ _ HBT.out ?_
            try simp only [Act.put, List.setIfInBounds_toArray, List.set_cons_zero, List.set_cons_succ]
            refine sch_run (v := ?_) (by rfl) ?_ ?_
            rotate_left
            · (intro w' hS'; go_simp; try with_reducible rfl)
            try simp only [Act.put, List.setIfInBounds_toArray, List.set_cons_zero, List.set_cons_succ]
            obtain ⟨q0, q1, qf, _, qz⟩ := two_at HOU.out
            refine sch_one (by rfl) (fun K2 hK2 => ?_)
            go_simp
            have hb3 := HBT.out.setCell (p := ⟨w.heap.size + 1 + 1, 0, none⟩) (by simp) (.slice (some ⟨gv, 0, none⟩) (us.length + 1) cw)
            refine hK2 _ _ hb3 (sch_done ?_)
            have HO3 := Lib.hid (heap_set1 (i := 0) (v := .slice (some ⟨gv, 0, none⟩) (us.length + 1) cw) HOU.out)
            have HC3 := Lib.hid (HCP.out.grown (row := some (w.heap.size + 1 + 1)) (w' := x3_11.setCell ⟨w.heap.size + 1 + 1, 0, none⟩ (.slice (some ⟨gv, 0, none⟩) (us.length + 1) cw)) ⟨rfl, rfl, rfl, by simp [World.setCell], fun x _ hx => Below.heap_setCell _ _ _ _ (fun h => hx (by rw [h]))⟩ (fun g hg hm => by injection hg with hg; have := HCP.out.fr g hm; have := HZ.out; omega) (fun g hg hv => by injection hg with hg; have := own_base' HCP.out.own hv; have := HZ.out; omega))
            have HB3 := Lib.hid hb3
            clear hb3 q0 q1 qf qz
            go_wp2_with fail
            exact ⟨⟨k + 1, by omega, by go_num, _, _, _, HC3, Lib.hid (by simp [HU1.out]), HO3, HB3⟩, by simp [intOf]; omega⟩
          · skip
            go_simp
            have HC2_12 := Lib.hid (HC1_9.out.alloc (.cells #[.slice Av rs.length cv] 29)); have HO2_12 := Lib.hid (heap_old (o' := (.cells #[.slice Av rs.length cv] 29)) HO1_9.out); have HB2_12 := Lib.hid (HB1_9.out.alloc (.cells #[.slice Av rs.length cv] 29))
            have HV2_12 : Hid (Rd (x1_9.alloc (.cells #[.slice Av rs.length cv] 29)) 4 (.slice Av rs.length cv) (rcs rs) fv ∧ NF (x1_9.alloc (.cells #[.slice Av rs.length cv] 29)) fv ∧ From (v0.heap.size) fv ∧ (∀ x ∈ fs.flatten, x < v0.heap.size) ∧ (∀ g, vo.ownBlock = some g → g < v0.heap.size) ∧ W.heap.size ≤ v0.heap.size) := ⟨HV1_9.out.1.alloc _, HV1_9.out.2.1.keep fun x hx => Below.heap_alloc _ _ _ (HV1_9.out.1.lt x hx), HV1_9.out.2.2⟩
            refine hK _ _ HB2_12.out ?_
            try simp only [Act.put, List.setIfInBounds_toArray, List.set_cons_zero, List.set_cons_succ]
            refine sch_one (by rfl) (fun K hK => ?_)
            obtain ⟨q0, q1, qf, _, qz⟩ := two_at HO2_12.out
            go_simp
            refine hK _ _ HB2_12.out ?_
            try simp only [Act.put, List.setIfInBounds_toArray, List.set_cons_zero, List.set_cons_succ]
            clear q0 q1 qf qz
            refine sch_one (by rfl) (fun K hK => ?_)
            refine wp_append_o (.tmp 16) (.tmp 24) 24 rfl W.heap.size 29 i1 (.slice none 0 0) 1 24 Try.underlying24 hi1 hz1 hsz1 hby1 rfl (by decide) vo us.length us rfl HC2_12.out.own ⟨x1_9.heap.size, 0, none⟩ 1 1 [.slice Av rs.length cv] rfl rfl rd1_new (by simp [Value.oneCell']) ?a1 ?a2 ?a3 (by omega) ?_
            case a1 => have := HU.out; unfold maxLen; omega
            case a2 => have := HU.out; omega
            case a3 => exact HB2_12.out.size
            intro v3_13 x3_13 hown hgrow hwh
            have hcp := HC2_12.out.push HV2_12.out.1 HV2_12.out.2.1 (HV2_12.out.2.2.1.mono HV2_12.out.2.2.2.2.2) (fun x hx hm => by have := HV2_12.out.2.2.1 x hx; have := HV2_12.out.2.2.2.1 x hm; omega) (fun g hg hm => by have := HV2_12.out.2.2.1 g hm; have := HV2_12.out.2.2.2.2.1 g hg; omega) hown hgrow hwh
            rw [← HT.out] at hcp
            have hou := (hgrow.block _ (heap_lt HO2_12.out) (fun h => by have := own_base' HC2_12.out.own h.symm; have := HZ.out; omega)).trans HO2_12.out
            have hbt := but_grown HB2_12.out hgrow (fun g hg => own_base' HC2_12.out.own hg)
            obtain ⟨gv, cw, hv2⟩ : ∃ g cap, v3_13 = .slice (some ⟨g, 0, none⟩) (us.length + 1) cap := by
              rcases hown.2 with ⟨_, h⟩ | ⟨g, cap, cur, h, _⟩
              · omega
              · exact ⟨g, cap, h⟩
            subst hv2
            have HCP := Lib.hid hcp; have HOU := Lib.hid hou; have HBT := Lib.hid hbt
            clear hcp hou hbt hown hgrow hwh
            refine hK _ _ HBT.out ?_
            try simp only [Act.put, List.setIfInBounds_toArray, List.set_cons_zero, List.set_cons_succ]
            refine sch_run (v := ?_) (by rfl) ?_ ?_
            rotate_left
            · (intro w' hS'; go_simp; try with_reducible rfl)
            try simp only [Act.put, List.setIfInBounds_toArray, List.set_cons_zero, List.set_cons_succ]
            obtain ⟨q0, q1, qf, _, qz⟩ := two_at HOU.out
            refine sch_one (by rfl) (fun K2 hK2 => ?_)
            go_simp
            have hb3 := HBT.out.setCell (p := ⟨w.heap.size + 1 + 1, 0, none⟩) (by simp) (.slice (some ⟨gv, 0, none⟩) (us.length + 1) cw)
            refine hK2 _ _ hb3 (sch_done ?_)
            have HO3 := Lib.hid (heap_set1 (i := 0) (v := .slice (some ⟨gv, 0, none⟩) (us.length + 1) cw) HOU.out)
            have HC3 := Lib.hid (HCP.out.grown (row := some (w.heap.size + 1 + 1)) (w' := x3_13.setCell ⟨w.heap.size + 1 + 1, 0, none⟩ (.slice (some ⟨gv, 0, none⟩) (us.length + 1) cw)) ⟨rfl, rfl, rfl, by simp [World.setCell], fun x _ hx => Below.heap_setCell _ _ _ _ (fun h => hx (by rw [h]))⟩ (fun g hg hm => by injection hg with hg; have := HCP.out.fr g hm; have := HZ.out; omega) (fun g hg hv => by injection hg with hg; have := own_base' HCP.out.own hv; have := HZ.out; omega))
            have HB3 := Lib.hid hb3
            clear hb3 q0 q1 qf qz
            go_wp2_with fail
            exact ⟨⟨k + 1, by omega, by go_num, _, _, _, HC3, Lib.hid (by simp [HU1.out]), HO3, HB3⟩, by simp [intOf]; omega⟩
    · obtain rfl : k = l.length := by omega
      have hcp := HCI.out
      rw [List.take_length] at hcp
      obtain ⟨f4, h1, h2, h3, h4⟩ := hcp.done
      obtain ⟨A4, c4, rfl⟩ : ∃ A c, vo = .slice A l.length c := by obtain ⟨A, c, e, _⟩ := Sl.form h1; exact ⟨A, c, e⟩
      have hg1 := HBI.out.heap G1.out (by simp <;> omega)
      obtain ⟨y0, y1, z0, z1, yz⟩ := two_at hg1
      obtain ⟨q0, q1, _, _, qz⟩ := two_at HOI.out
      obtain ⟨p0, p1, _, _, pz⟩ := two_at HP.out
      have hb4 : Below w.heap.size w wr := HBW.out.trans (HBI.out.below HBW.out.size (by intro x hx; simp at hx; omega))
      have HX := Lib.hid (And.intro h1 (And.intro h2 (And.intro h3 (And.intro h4 hb4))))
      clear hcp h1 h2 h3 h4 hb4 hg1
      go_wp2_with fail
      refine bodyPost_ret (v := plv m (.slice A4 l.length c4)) (by simp [results, Try.results87, go_sem, y0, y1]) rfl ?_
      obtain ⟨k1, k2, k3, k4, k5⟩ := HX.out
      have hzz := HZ.out
      have hbut := ((But.refl [w.heap.size + 1] wr).setCell (p := ⟨w.heap.size + 1, 0, none⟩) (by simp) (.slice A4 l.length c4)).setCell (p := ⟨w.heap.size + 1, 1, none⟩) (by simp) (.int .i64 m)
      have a1 : ∀ x ∈ f4, x ∉ [w.heap.size + 1] := fun x hx he => by have := k3 x hx; simp at he; omega
      exact ⟨_, f4, rfl, ⟨k1.but hbut a1⟩, k2.but hbut (Sl.lt k1) a1, ⟨k3.mono (by omega), k4⟩, k5.trans (hbut.below k5.size (fun x hx => by simp at hx; omega))⟩
end Go.Proofs.Ytoabohllphoioaa
