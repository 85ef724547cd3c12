/-
  The model's functions of chapter 6, seventh part: what is answered of rows laid into files.
-/
import Derived.Test.YtldimfmhbdhbnaaSpec6f
import Derived.Test.YtldimfmhbdhbnaaSpec6e
import Derived.Test.YtldimfmhbdhbnaaG34
import Derived.Test.YtldimfmhbdhbnaaG23
import Derived.Test.YtldimfmhbdhbnaaWrite6
import Derived.Test.YtldimfmhbdhbnaaG11
import Derived.Test.YtldimfmhbdhbnaaG14
namespace Go.Proofs.Ytldimfmhbdhbnaa
open Go.RowKit

set_option maxRecDepth 100000 in
set_option maxHeartbeats 4000000 in
theorem specPlacesOf_r (A : Option Addr) (c : Nat) (rs : List R) (m : Int) (w : World) (fp : List Nat) (_hs : rs.length ≤ 1048576) (ha : Rd w 4 (.slice A rs.length c) (rcs rs) fp) :
    Calls Try.prog 21 #[.slice A rs.length c, .int .i64 m] w (PResPost w (poC rs m) (poL rs m)) := by
  have HB0 := Lib.hid (below_new (w := w) (.cells #[.int .i64 0, .slice none 0 0, .int .i64 0] 31))
  have HG0 := Lib.hid (heap_new w (.cells #[.int .i64 0, .slice none 0 0, .int .i64 0] 31) rfl)
  have HA := Lib.hid (ha.alloc (.cells #[.int .i64 0, .slice none 0 0, .int .i64 0] 31))
  clear ha
  by_cases h0 : rowsF rs = 0
  case neg =>
    have hC : poC rs m = rowsF rs := by unfold poC; rw [if_neg h0]
    have hL : poL rs m = ⟨[], 0⟩ := by unfold poL; rw [if_neg (by rw [hC]; exact h0)]
    rw [hC, hL]
    generalize hV : rowsF rs = V at h0 ⊢
    have HV := Lib.hid hV
    have t1 : (V != 0) = true := by simpa using h0
    clear h0 hC hL hV
    go_enter Try.func21, Try.ntmps21
    go_wp2_with fail
    refine (l2Fault_c A c rs _ fp HA.out).mono ?_
    rw [HV.out]
    rintro e w1 ⟨rfl, hq⟩
    have hb1 : Below _ _ w1 := Qt.below hq
    have HB1 := Lib.hid (HB0.out.trans (hb1.mono HB0.out.size))
    obtain ⟨y0, y1, y2, z0, z1, z2, yz⟩ := three_at6 ((hb1.block _ (heap_lt HG0.out)).trans HG0.out)
    clear hb1 hq
    go_wp2_with fail
    refine bodyPost_ret (v := plrv V 0 (.slice none 0 0)) (by simp [results, Try.results21, go_sem, y0, y1, y2]) rfl (pres_none ?_)
    exact HB1.out.trans (((((But.refl [w.heap.size] w1).setCell (p := ⟨w.heap.size, 0, none⟩) (by simp) _).setCell (p := ⟨w.heap.size, 1, none⟩) (by simp) _).setCell (p := ⟨w.heap.size, 2, none⟩) (by simp) _).below HB1.out.size (by intro b hb; simp at hb; omega))
  cases h1 : inB m 0 999
  case false =>
    have hC : poC rs m = 3 := by unfold poC; rw [if_pos h0, h1]; rfl
    have hL : poL rs m = ⟨[], 0⟩ := by unfold poL; rw [if_neg (by rw [hC]; decide)]
    rw [hC, hL]
    have H0 := Lib.hid h0; have H1 := Lib.hid h1
    clear h0 hC hL h1
    go_enter Try.func21, Try.ntmps21
    go_wp2_with fail
    refine (l2Fault_c A c rs _ fp HA.out).mono ?_
    rw [H0.out]
    rintro e w1 ⟨rfl, hq⟩
    have hb1 : Below _ _ w1 := Qt.below hq
    have HB1 := Lib.hid (HB0.out.trans (hb1.mono HB0.out.size))
    obtain ⟨y0, y1, y2, z0, z1, z2, yz⟩ := three_at6 ((hb1.block _ (heap_lt HG0.out)).trans HG0.out)
    clear hb1 hq
    go_wp2_with fail
    refine (l1In_c m 0 999 _).mono ?_
    rw [H1.out]
    rintro e w' ⟨rfl, hw⟩
    subst hw
    go_wp2_with fail
    refine bodyPost_ret (v := plrv 3 0 (.slice none 0 0)) (by simp [results, Try.results21, go_sem, y0, y1, y2]) rfl (pres_none ?_)
    exact HB1.out.trans (((((But.refl [w.heap.size] w1).setCell (p := ⟨w.heap.size, 0, none⟩) (by simp) _).setCell (p := ⟨w.heap.size, 1, none⟩) (by simp) _).setCell (p := ⟨w.heap.size, 2, none⟩) (by simp) _).below HB1.out.size (by intro b hb; simp at hb; omega))
  have hC : poC rs m = 0 := by unfold poC; rw [if_pos h0, h1]; rfl
  have hL : poL rs m = ⟨filesOf rs, m⟩ := by unfold poL; rw [if_pos hC]
  rw [hC, hL]
  obtain ⟨hfit, h12⟩ := rowsF_fits h0
  have H0 := Lib.hid h0; have H1 := Lib.hid h1; have HFIT := Lib.hid hfit
  have hcall := fun W f (h : Rd W 4 (.slice A rs.length c) (rcs rs) f) => l6Of_c A c rs m W f h12 hfit h
  have HCALL := Lib.hid hcall
  generalize filesOf rs = l at *
  clear h0 hC hL h1 hfit hcall
  go_enter Try.func21, Try.ntmps21
  go_wp2_with fail
  refine (l2Fault_c A c rs _ fp HA.out).mono ?_
  rw [H0.out]
  rintro e w1 ⟨rfl, hq⟩
  have hb1 : Below _ _ w1 := Qt.below hq
  have HB1 := Lib.hid (HB0.out.trans (hb1.mono HB0.out.size))
  have HG1 := Lib.hid ((hb1.block _ (heap_lt HG0.out)).trans HG0.out)
  have HA1 := Lib.hid (HA.out.below' hb1)
  clear hb1 hq
  go_wp2_with fail
  refine (l1In_c m 0 999 _).mono ?_
  rw [H1.out]
  rintro e w' ⟨rfl, hw⟩
  subst hw
  go_wp2_with fail
  refine (HCALL.out _ fp HA1.out).mono ?_
  rintro e w2 ⟨v2, f2, rfl, hr2, hn2, ⟨hf2, hd2⟩, hb2⟩
  obtain ⟨A2, c2, rfl⟩ := hr2.form
  have hz1 := heap_lt HG1.out
  obtain ⟨y0, y1, y2, z0, z1, z2, yz⟩ := three_at6 ((hb2.block _ hz1).trans HG1.out)
  have HX := Lib.hid (pres_stored (code := 0) (HB1.out.trans (hb2.mono HB1.out.size)) (Nat.le_refl _) hr2 hn2 (hf2.mono hz1) hd2)
  clear hr2 hn2 hf2 hd2 hb2 hz1
  go_wp2_with fail
  exact bodyPost_ret (v := plrv 0 m (.slice A2 l.length c2)) (by simp [results, Try.results21, go_sem, y0, y1, y2]) rfl HX.out
end Go.Proofs.Ytldimfmhbdhbnaa

/-
  The model's functions of chapter 6, eighth part: places copied, by a maker (mkcopy.py).
-/
namespace Go.Proofs.Ytldimfmhbdhbnaa
open Go.RowKit

set_option maxRecDepth 100000 in
set_option maxHeartbeats 8000000 in
theorem l6Copy_c (p : Pl) (vf : Value) (w : World) (fp : List Nat) (hs : plsz p ≤ 1048576) (h : PlAt w p vf fp) :
    Calls Try.prog 59 #[plv p.mark vf] w (CopyPlaces w p) := by
  obtain ⟨A, c, rfl⟩ := h.form
  obtain ⟨l, m⟩ := p
  simp only at *
  obtain ⟨i0, hi, hz, hsz, hby⟩ := infoRow
  obtain ⟨i1, hi1, hz1, hsz1, hby1⟩ := infoRowS
  have HS : Hid (∀ k (h : k < l.length), l[k].length ≤ 1048576 ∧ k ≤ 1048576) := fun k h => by have := len_of_tot l k h; unfold plsz fsz at hs; simp only at hs; omega
  have HF := Lib.hid h.f
  have hmax := h.f.len_le.2
  clear h hs
  simp only at HF hmax
  go_enter Try.func59, Try.ntmps59
  go_wp2_with fail
  have HBW := Lib.hid (below_more (below_more (below_new (w := w) (.cells #[.slice A l.length c, .int .i64 m] 29)) (.cells #[.slice none 0 0, .int .i64 0] 29)) (.cells #[.slice none 0 0, .int .i64 m] 29))
  have G0 := Lib.hid (heap_old (o' := .cells #[.slice none 0 0, .int .i64 m] 29) (heap_old (o' := .cells #[.slice none 0 0, .int .i64 0] 29) (heap_new w (.cells #[.slice A l.length c, .int .i64 m] 29) rfl)))
  have G1 := Lib.hid (heap_old (o' := .cells #[.slice none 0 0, .int .i64 m] 29) (heap_new (w.alloc (.cells #[.slice A l.length c, .int .i64 m] 29)) (.cells #[.slice none 0 0, .int .i64 0] 29) (g := w.heap.size + 1) (by simp)))
  have G2 := Lib.hid (heap_new ((w.alloc (.cells #[.slice A l.length c, .int .i64 m] 29)).alloc (.cells #[.slice none 0 0, .int .i64 0] 29)) (.cells #[.slice none 0 0, .int .i64 m] 29) (g := w.heap.size + 1 + 1) (by simp))
  have HZ : Hid (w.heap.size + 1 + 1 < (((w.alloc (.cells #[.slice A l.length c, .int .i64 m] 29)).alloc (.cells #[.slice none 0 0, .int .i64 0] 29)).alloc (.cells #[.slice none 0 0, .int .i64 m] 29)).heap.size) := heap_lt G2.out
  generalize (((w.alloc (.cells #[.slice A l.length c, .int .i64 m] 29)).alloc (.cells #[.slice none 0 0, .int .i64 0] 29)).alloc (.cells #[.slice none 0 0, .int .i64 m] 29)) = W at *
  have HFW := Lib.hid (HF.out.below' HBW.out)
  have HFL : Hid (∀ x ∈ fp, x ∉ [w.heap.size + 1 + 1]) := fun x hx he => by have := Sl.lt HF.out x hx; simp at he; omega
  go_loopw [4] (fun i wr => ∃ k : Nat, k ≤ l.length ∧ i = .int .i64 k ∧ ∃ vo us fs, Hid (CopF wr W.heap.size vo us fs (l.take k) 24) ∧ Hid (us.length = k) ∧ Hid (wr.heap[w.heap.size + 1 + 1]? = some (.cells #[vo, .int .i64 m] 29 (0, 0))) ∧ Hid (But [w.heap.size + 1 + 1] W wr)) (fun i _ => l.length - (intOf i).toNat)
  case atStart => exact ⟨0, Nat.zero_le _, rfl, .slice none 0 0, [], [], Lib.hid (CopF.nil _ _ _), Lib.hid rfl, G2, Lib.hid (But.refl _ _)⟩
  case round =>
    obtain ⟨k, hk, rfl, vo, us, fs, HCI, HU1, HOI, HBI⟩ := hrel
    have HP := Lib.hid (HBI.out.heap G0.out (by simp <;> omega))
    by_cases hlt : k < l.length
    · obtain ⟨b, off, B, d, f, hA, _, hbl, hc, hr, _⟩ := rowsAt (HFW.out.but HBI.out HFL.out) hlt
      subst hA
      have hcall : ∀ w', But [w.heap.size + 1 + 1] W w' → w'.cell? ⟨b, off + k, none⟩ = some (.slice B l[k].length d) := fun w' h => by
        obtain ⟨b', off', B', d', f', e, _, _, hc', _⟩ := rowsAt (HFW.out.but h HFL.out) hlt
        injection e with e; injection e with e1 e2 _; subst e1 e2
        have hx : ∀ {x y}, W.cell? ⟨b, off + k, none⟩ = x → W.cell? ⟨b, off + k, none⟩ = y → x = y := fun h1 h2 => h1.symm.trans h2
        obtain ⟨b3, off3, B3, d3, f3, e3, hb3, hl3, hc3, _⟩ := rowsAt HFW.out hlt
        injection e3 with e3; injection e3 with e4 e5 _; subst e4 e5
        have h1 := (h.cell (p := ⟨b, off + k, none⟩) hl3 (HFL.out b hb3))
        have h2 := (HBI.out.cell (p := ⟨b, off + k, none⟩) hl3 (HFL.out b hb3))
        rw [h1, ← h2]; exact hc
      have HNN := HS.out k hlt
      have HN : Hid (l[k].length ≤ 1048576) := HNN.1
      have HU : Hid (us.length ≤ 1048576) := by rw [HU1.out]; exact HNN.2
      have HT : Hid (l.take (k + 1) = l.take k ++ [l[k]]) := List.take_succ_eq_append_getElem hlt
      have HCL := Lib.hid hcall
      clear hcall HNN
      generalize l[k] = rs at *
      obtain ⟨p0, p1, _, _, pz⟩ := two_at HP.out
      go_wp2_with fail
      have hld : ∀ w', But [w.heap.size + 1 + 1] W w' → w'.cell? ⟨w.heap.size, 0, none⟩ = some (.slice (some ⟨b, off, none⟩) l.length c) ∧ w'.cell? ⟨b, off + k, none⟩ = some (.slice B rs.length d) := fun w' h =>
        ⟨cell_of_heap (h.heap G0.out (by simp <;> omega)), HCL.out w' h⟩
      have HLD := Lib.hid hld
      have HRI := Lib.hid hr
      have i0k : (0 : Int) ≤ (k : Int) := by omega
      have i1k : (k : Int) < (l.length : Int) := by omega
      clear hld p0 p1 pz hc hbl hr
      refine wp_region_sch (fun w' => But [w.heap.size + 1 + 1] W w') (.run 0 (.run 3 (.run 4 (.run 5 (.run 6 (.run 7 (.fork 1 2 (.one 2 (.one 8 (.one 9 (.one 10 (.run 11 (.one 12 .done)))))) (.fork 1 8 (.one 8 (.one 9 (.one 10 (.run 11 (.one 12 .done))))) (.fork 1 9 (.one 9 (.one 10 (.run 11 (.one 12 .done)))) (.one 1 (.one 10 (.run 11 (.one 12 .done))))))))))))) (by kernel_rfl) (by kernel_rfl) (by kernel_rfl) (by kernel_rfl) (fun _ _ d _ _ h => by cases d <;> exact h) (HBI.out.drewN 1) ?_
      simp only [Sch.res, List.getElem?_toArray, List.getElem?_cons_zero, List.getElem?_cons_succ, Option.bind_some, Option.map_some, wpSchR_some]
      generalize hW0 : ({ heap := wr.heap, tape := wr.tape, drawn := wr.drawn + 1, os := wr.os, output := wr.output } : World) = v0
      have HBII : Hid (But [w.heap.size + 1 + 1] W v0) := by rw [← hW0]; exact HBI.out.drewN 1
      have HOII : Hid (v0.heap[w.heap.size + 1 + 1]? = some (.cells #[vo, .int .i64 m] 29 (0, 0))) := by rw [← hW0]; exact HOI.out
      have HCII : Hid (CopF v0 W.heap.size vo us fs (l.take k) 24) := by rw [← hW0]; exact HCI.out.drewN 1
      have HRII : Hid (Rd v0 4 (.slice B rs.length d) (rcs rs) f) := by rw [← hW0]; exact HRI.out.drewN 1
      clear hW0 HBI HOI HCI HRI HP
      have HBI := HBII; have HOI := HOII; have HCI := HCII; have HRI := HRII
      clear HBII HOII HCII HRII
      refine sch_run (v := ?_) (by rfl) ?_ ?_
      rotate_left
      · (intro w' hS'; go_simp; try with_reducible rfl)
      try simp only [Act.put, List.setIfInBounds_toArray, List.set_cons_zero, List.set_cons_succ]
      refine sch_run (v := ?_) (by rfl) ?_ ?_
      rotate_left
      · (intro w' hS'; go_simp; try with_reducible rfl)
      try simp only [Act.put, List.setIfInBounds_toArray, List.set_cons_zero, List.set_cons_succ]
      refine sch_run (v := ?_) (by rfl) ?_ ?_
      rotate_left
      · (intro w' hS'; obtain ⟨l0, l1⟩ := HLD.out w' hS'; go_simp; try with_reducible rfl)
      try simp only [Act.put, List.setIfInBounds_toArray, List.set_cons_zero, List.set_cons_succ]
      refine sch_run (v := ?_) (by rfl) ?_ ?_
      rotate_left
      · (intro w' hS'; go_simp; try with_reducible rfl)
      try simp only [Act.put, List.setIfInBounds_toArray, List.set_cons_zero, List.set_cons_succ]
      refine sch_run (v := ?_) (by rfl) ?_ ?_
      rotate_left
      · (intro w' hS'; go_simp; try with_reducible rfl)
      try simp only [Act.put, List.setIfInBounds_toArray, List.set_cons_zero, List.set_cons_succ]
      refine sch_run (v := ?_) (by rfl) ?_ ?_
      rotate_left
      · (intro w' hS'; obtain ⟨l0, l1⟩ := HLD.out w' hS'; go_simp; try with_reducible rfl)
      try simp only [Act.put, List.setIfInBounds_toArray, List.set_cons_zero, List.set_cons_succ]
      refine sch_fork (by rfl) (by rfl) (fun K hK => ?_) (fun K hK => ?_)
      · skip
        obtain ⟨q0, q1, qf, _, qz⟩ := two_at HOI.out
        go_simp
        refine hK _ _ HBI.out ?_
        try simp only [Act.put, List.setIfInBounds_toArray, List.set_cons_zero, List.set_cons_succ]
        clear q0 q1 qf qz
        refine sch_one (by rfl) (fun K hK => ?_)
        go_simp
        have HC0_1 := Lib.hid (HCI.out.alloc (.cells #[] 34)); have HO0_1 := Lib.hid (heap_old (o' := (.cells #[] 34)) HOI.out); have HB0_1 := Lib.hid (HBI.out.alloc (.cells #[] 34))
        have HE0_1 := Lib.hid (own_emptyR (w := v0) (t := 34) (Nat.le_refl v0.heap.size))
        have HR0_1 := Lib.hid (HRI.out.alloc (.cells #[] 34))
        refine hK _ _ HB0_1.out ?_
        try simp only [Act.put, List.setIfInBounds_toArray, List.set_cons_zero, List.set_cons_succ]
        refine sch_one (by rfl) (fun K hK => ?_)
        refine wp_append_rd (.tmp 17) (.tmp 22) 24 rfl (v0.heap.size) 34 i0 (rv (0, 0, 0, 0)) 4 32 Try.underlying24 hi hz hsz hby rfl (by decide) _ 0 [] rfl HE0_1.out B rs.length d (rcs rs) f rfl HR0_1.out (rcs_one rs) ?a1 ?a2 ?a3 ?_
        case a1 => have := HN.out; unfold maxLen; omega
        case a2 => have := HN.out; omega
        case a3 => simp
        intro v1_2 x1_2 hown hgrow
        simp only [Nat.zero_add, List.nil_append] at hown
        have hgrow : World.grownBy (v0.alloc (.cells #[] 34)) x1_2 (some (v0.heap.size)) := hgrow
        obtain ⟨fv, r1, r2, r3, r4⟩ := Rd.of_own6 hown
        obtain ⟨Av, cv, rfl⟩ := r1.rows_form
        have hlt := HCI.out.lt
        have hzo := heap_lt HOI.out
        have HC1_2 := Lib.hid (HC0_1.out.grown hgrow (fun g hg hm => by injection hg with hg; have := hlt g hm; omega) (fun g hg hv => by injection hg with hg; have := own_lt6 HCI.out.own hv; omega))
        have HO1_2 := Lib.hid ((hgrow.block _ (heap_lt HO0_1.out) (fun h => by injection h with h; omega)).trans HO0_1.out)
        have HB1_2 := Lib.hid (but_grown HB0_1.out hgrow (fun g hg => by injection hg with hg; have := HBI.out.size; omega))
        have HV1_2 : Hid (Rd x1_2 4 (.slice Av rs.length cv) (rcs rs) fv ∧ NF x1_2 fv ∧ From (v0.heap.size) fv ∧ (∀ x ∈ fs.flatten, x < v0.heap.size) ∧ (∀ g, vo.ownBlock = some g → g < v0.heap.size) ∧ W.heap.size ≤ v0.heap.size) := ⟨r1, r2, r3, hlt, fun g hg => own_lt6 HCI.out.own hg, HBI.out.size⟩
        clear hown hgrow r1 r2 r3 r4 hlt hzo
        refine hK _ _ HB1_2.out ?_
        try simp only [Act.put, List.setIfInBounds_toArray, List.set_cons_zero, List.set_cons_succ]
        refine sch_one (by rfl) (fun K hK => ?_)
        go_simp
        have HC2_3 := Lib.hid (HC1_2.out.alloc (.cells #[.slice Av rs.length cv] 24)); have HO2_3 := Lib.hid (heap_old (o' := (.cells #[.slice Av rs.length cv] 24)) HO1_2.out); have HB2_3 := Lib.hid (HB1_2.out.alloc (.cells #[.slice Av rs.length cv] 24))
        have HV2_3 : Hid (Rd (x1_2.alloc (.cells #[.slice Av rs.length cv] 24)) 4 (.slice Av rs.length cv) (rcs rs) fv ∧ NF (x1_2.alloc (.cells #[.slice Av rs.length cv] 24)) fv ∧ From (v0.heap.size) fv ∧ (∀ x ∈ fs.flatten, x < v0.heap.size) ∧ (∀ g, vo.ownBlock = some g → g < v0.heap.size) ∧ W.heap.size ≤ v0.heap.size) := ⟨HV1_2.out.1.alloc _, HV1_2.out.2.1.keep fun x hx => Below.heap_alloc _ _ _ (HV1_2.out.1.lt x hx), HV1_2.out.2.2⟩
        refine hK _ _ HB2_3.out ?_
        try simp only [Act.put, List.setIfInBounds_toArray, List.set_cons_zero, List.set_cons_succ]
        refine sch_one (by rfl) (fun K hK => ?_)
        refine wp_append_o (.tmp 16) (.tmp 24) 27 rfl W.heap.size 24 i1 (.slice none 0 0) 1 24 Try.underlying27 hi1 hz1 hsz1 hby1 rfl (by decide) vo us.length us rfl HC2_3.out.own ⟨x1_2.heap.size, 0, none⟩ 1 1 [.slice Av rs.length cv] rfl rfl rd1_new (by simp [Value.oneCell']) ?a1 ?a2 ?a3 (by omega) ?_
        case a1 => have := HU.out; unfold maxLen; omega
        case a2 => have := HU.out; omega
        case a3 => exact HB2_3.out.size
        intro v3_4 x3_4 hown hgrow hwh
        have hcp := HC2_3.out.push HV2_3.out.1 HV2_3.out.2.1 (HV2_3.out.2.2.1.mono HV2_3.out.2.2.2.2.2) (fun x hx hm => by have := HV2_3.out.2.2.1 x hx; have := HV2_3.out.2.2.2.1 x hm; omega) (fun g hg hm => by have := HV2_3.out.2.2.1 g hm; have := HV2_3.out.2.2.2.2.1 g hg; omega) hown hgrow hwh
        rw [← HT.out] at hcp
        have hou := (hgrow.block _ (heap_lt HO2_3.out) (fun h => by have := own_base' HC2_3.out.own h.symm; have := HZ.out; omega)).trans HO2_3.out
        have hbt := but_grown HB2_3.out hgrow (fun g hg => own_base' HC2_3.out.own hg)
        obtain ⟨gv, cw, hv2⟩ : ∃ g cap, v3_4 = .slice (some ⟨g, 0, none⟩) (us.length + 1) cap := by
          rcases hown.2 with ⟨_, h⟩ | ⟨g, cap, cur, h, _⟩
          · omega
          · exact ⟨g, cap, h⟩
        subst hv2
        have HCP := Lib.hid hcp; have HOU := Lib.hid hou; have HBT := Lib.hid hbt
        clear hcp hou hbt hown hgrow hwh
        refine hK _ _ HBT.out ?_
        try simp only [Act.put, List.setIfInBounds_toArray, List.set_cons_zero, List.set_cons_succ]
        refine sch_run (v := ?_) (by rfl) ?_ ?_
        rotate_left
        · (intro w' hS'; go_simp; try with_reducible rfl)
        try simp only [Act.put, List.setIfInBounds_toArray, List.set_cons_zero, List.set_cons_succ]
        obtain ⟨q0, q1, qf, _, qz⟩ := two_at HOU.out
        refine sch_one (by rfl) (fun K2 hK2 => ?_)
        go_simp
        have hb3 := HBT.out.setCell (p := ⟨w.heap.size + 1 + 1, 0, none⟩) (by simp) (.slice (some ⟨gv, 0, none⟩) (us.length + 1) cw)
        refine hK2 _ _ hb3 (sch_done ?_)
        have HO3 := Lib.hid (heap_set1 (i := 0) (v := .slice (some ⟨gv, 0, none⟩) (us.length + 1) cw) HOU.out)
        have HC3 := Lib.hid (HCP.out.grown (row := some (w.heap.size + 1 + 1)) (w' := x3_4.setCell ⟨w.heap.size + 1 + 1, 0, none⟩ (.slice (some ⟨gv, 0, none⟩) (us.length + 1) cw)) ⟨rfl, rfl, rfl, by simp [World.setCell], fun x _ hx => Below.heap_setCell _ _ _ _ (fun h => hx (by rw [h]))⟩ (fun g hg hm => by injection hg with hg; have := HCP.out.fr g hm; have := HZ.out; omega) (fun g hg hv => by injection hg with hg; have := own_base' HCP.out.own hv; have := HZ.out; omega))
        have HB3 := Lib.hid hb3
        clear hb3 q0 q1 qf qz
        go_wp2_with fail
        exact ⟨⟨k + 1, by omega, by go_num, _, _, _, HC3, Lib.hid (by simp [HU1.out]), HO3, HB3⟩, by simp [intOf]; omega⟩
      · skip
        go_simp
        have HC0_5 := Lib.hid (HCI.out.alloc (.cells #[] 34)); have HO0_5 := Lib.hid (heap_old (o' := (.cells #[] 34)) HOI.out); have HB0_5 := Lib.hid (HBI.out.alloc (.cells #[] 34))
        have HE0_5 := Lib.hid (own_emptyR (w := v0) (t := 34) (Nat.le_refl v0.heap.size))
        have HR0_5 := Lib.hid (HRI.out.alloc (.cells #[] 34))
        refine hK _ _ HB0_5.out ?_
        try simp only [Act.put, List.setIfInBounds_toArray, List.set_cons_zero, List.set_cons_succ]
        refine sch_fork (by rfl) (by rfl) (fun K hK => ?_) (fun K hK => ?_)
        · skip
          obtain ⟨q0, q1, qf, _, qz⟩ := two_at HO0_5.out
          go_simp
          refine hK _ _ HB0_5.out ?_
          try simp only [Act.put, List.setIfInBounds_toArray, List.set_cons_zero, List.set_cons_succ]
          clear q0 q1 qf qz
          refine sch_one (by rfl) (fun K hK => ?_)
          refine wp_append_rd (.tmp 17) (.tmp 22) 24 rfl (v0.heap.size) 34 i0 (rv (0, 0, 0, 0)) 4 32 Try.underlying24 hi hz hsz hby rfl (by decide) _ 0 [] rfl HE0_5.out B rs.length d (rcs rs) f rfl HR0_5.out (rcs_one rs) ?a1 ?a2 ?a3 ?_
          case a1 => have := HN.out; unfold maxLen; omega
          case a2 => have := HN.out; omega
          case a3 => simp
          intro v1_6 x1_6 hown hgrow
          simp only [Nat.zero_add, List.nil_append] at hown
          have hgrow : World.grownBy (v0.alloc (.cells #[] 34)) x1_6 (some (v0.heap.size)) := hgrow
          obtain ⟨fv, r1, r2, r3, r4⟩ := Rd.of_own6 hown
          obtain ⟨Av, cv, rfl⟩ := r1.rows_form
          have hlt := HCI.out.lt
          have hzo := heap_lt HOI.out
          have HC1_6 := Lib.hid (HC0_5.out.grown hgrow (fun g hg hm => by injection hg with hg; have := hlt g hm; omega) (fun g hg hv => by injection hg with hg; have := own_lt6 HCI.out.own hv; omega))
          have HO1_6 := Lib.hid ((hgrow.block _ (heap_lt HO0_5.out) (fun h => by injection h with h; omega)).trans HO0_5.out)
          have HB1_6 := Lib.hid (but_grown HB0_5.out hgrow (fun g hg => by injection hg with hg; have := HBI.out.size; omega))
          have HV1_6 : Hid (Rd x1_6 4 (.slice Av rs.length cv) (rcs rs) fv ∧ NF x1_6 fv ∧ From (v0.heap.size) fv ∧ (∀ x ∈ fs.flatten, x < v0.heap.size) ∧ (∀ g, vo.ownBlock = some g → g < v0.heap.size) ∧ W.heap.size ≤ v0.heap.size) := ⟨r1, r2, r3, hlt, fun g hg => own_lt6 HCI.out.own hg, HBI.out.size⟩
          clear hown hgrow r1 r2 r3 r4 hlt hzo
          refine hK _ _ HB1_6.out ?_
          try simp only [Act.put, List.setIfInBounds_toArray, List.set_cons_zero, List.set_cons_succ]
          refine sch_one (by rfl) (fun K hK => ?_)
          go_simp
          have HC2_7 := Lib.hid (HC1_6.out.alloc (.cells #[.slice Av rs.length cv] 24)); have HO2_7 := Lib.hid (heap_old (o' := (.cells #[.slice Av rs.length cv] 24)) HO1_6.out); have HB2_7 := Lib.hid (HB1_6.out.alloc (.cells #[.slice Av rs.length cv] 24))
          have HV2_7 : Hid (Rd (x1_6.alloc (.cells #[.slice Av rs.length cv] 24)) 4 (.slice Av rs.length cv) (rcs rs) fv ∧ NF (x1_6.alloc (.cells #[.slice Av rs.length cv] 24)) fv ∧ From (v0.heap.size) fv ∧ (∀ x ∈ fs.flatten, x < v0.heap.size) ∧ (∀ g, vo.ownBlock = some g → g < v0.heap.size) ∧ W.heap.size ≤ v0.heap.size) := ⟨HV1_6.out.1.alloc _, HV1_6.out.2.1.keep fun x hx => Below.heap_alloc _ _ _ (HV1_6.out.1.lt x hx), HV1_6.out.2.2⟩
          refine hK _ _ HB2_7.out ?_
          try simp only [Act.put, List.setIfInBounds_toArray, List.set_cons_zero, List.set_cons_succ]
          refine sch_one (by rfl) (fun K hK => ?_)
          refine wp_append_o (.tmp 16) (.tmp 24) 27 rfl W.heap.size 24 i1 (.slice none 0 0) 1 24 Try.underlying27 hi1 hz1 hsz1 hby1 rfl (by decide) vo us.length us rfl HC2_7.out.own ⟨x1_6.heap.size, 0, none⟩ 1 1 [.slice Av rs.length cv] rfl rfl rd1_new (by simp [Value.oneCell']) ?a1 ?a2 ?a3 (by omega) ?_
          case a1 => have := HU.out; unfold maxLen; omega
          case a2 => have := HU.out; omega
          case a3 => exact HB2_7.out.size
          intro v3_8 x3_8 hown hgrow hwh
          have hcp := HC2_7.out.push HV2_7.out.1 HV2_7.out.2.1 (HV2_7.out.2.2.1.mono HV2_7.out.2.2.2.2.2) (fun x hx hm => by have := HV2_7.out.2.2.1 x hx; have := HV2_7.out.2.2.2.1 x hm; omega) (fun g hg hm => by have := HV2_7.out.2.2.1 g hm; have := HV2_7.out.2.2.2.2.1 g hg; omega) hown hgrow hwh
          rw [← HT.out] at hcp
          have hou := (hgrow.block _ (heap_lt HO2_7.out) (fun h => by have := own_base' HC2_7.out.own h.symm; have := HZ.out; omega)).trans HO2_7.out
          have hbt := but_grown HB2_7.out hgrow (fun g hg => own_base' HC2_7.out.own hg)
          obtain ⟨gv, cw, hv2⟩ : ∃ g cap, v3_8 = .slice (some ⟨g, 0, none⟩) (us.length + 1) cap := by
            rcases hown.2 with ⟨_, h⟩ | ⟨g, cap, cur, h, _⟩
            · omega
            · exact ⟨g, cap, h⟩
          subst hv2
          have HCP := Lib.hid hcp; have HOU := Lib.hid hou; have HBT := Lib.hid hbt
          clear hcp hou hbt hown hgrow hwh
          refine hK _ _ HBT.out ?_
          try simp only [Act.put, List.setIfInBounds_toArray, List.set_cons_zero, List.set_cons_succ]
          refine sch_run (v := ?_) (by rfl) ?_ ?_
          rotate_left
          · (intro w' hS'; go_simp; try with_reducible rfl)
          try simp only [Act.put, List.setIfInBounds_toArray, List.set_cons_zero, List.set_cons_succ]
          obtain ⟨q0, q1, qf, _, qz⟩ := two_at HOU.out
          refine sch_one (by rfl) (fun K2 hK2 => ?_)
          go_simp
          have hb3 := HBT.out.setCell (p := ⟨w.heap.size + 1 + 1, 0, none⟩) (by simp) (.slice (some ⟨gv, 0, none⟩) (us.length + 1) cw)
          refine hK2 _ _ hb3 (sch_done ?_)
          have HO3 := Lib.hid (heap_set1 (i := 0) (v := .slice (some ⟨gv, 0, none⟩) (us.length + 1) cw) HOU.out)
          have HC3 := Lib.hid (HCP.out.grown (row := some (w.heap.size + 1 + 1)) (w' := x3_8.setCell ⟨w.heap.size + 1 + 1, 0, none⟩ (.slice (some ⟨gv, 0, none⟩) (us.length + 1) cw)) ⟨rfl, rfl, rfl, by simp [World.setCell], fun x _ hx => Below.heap_setCell _ _ _ _ (fun h => hx (by rw [h]))⟩ (fun g hg hm => by injection hg with hg; have := HCP.out.fr g hm; have := HZ.out; omega) (fun g hg hv => by injection hg with hg; have := own_base' HCP.out.own hv; have := HZ.out; omega))
          have HB3 := Lib.hid hb3
          clear hb3 q0 q1 qf qz
          go_wp2_with fail
          exact ⟨⟨k + 1, by omega, by go_num, _, _, _, HC3, Lib.hid (by simp [HU1.out]), HO3, HB3⟩, by simp [intOf]; omega⟩
        · skip
          refine wp_append_rd (.tmp 17) (.tmp 22) 24 rfl (v0.heap.size) 34 i0 (rv (0, 0, 0, 0)) 4 32 Try.underlying24 hi hz hsz hby rfl (by decide) _ 0 [] rfl HE0_5.out B rs.length d (rcs rs) f rfl HR0_5.out (rcs_one rs) ?a1 ?a2 ?a3 ?_
          case a1 => have := HN.out; unfold maxLen; omega
          case a2 => have := HN.out; omega
          case a3 => simp
          intro v1_9 x1_9 hown hgrow
          simp only [Nat.zero_add, List.nil_append] at hown
          have hgrow : World.grownBy (v0.alloc (.cells #[] 34)) x1_9 (some (v0.heap.size)) := hgrow
          obtain ⟨fv, r1, r2, r3, r4⟩ := Rd.of_own6 hown
          obtain ⟨Av, cv, rfl⟩ := r1.rows_form
          have hlt := HCI.out.lt
          have hzo := heap_lt HOI.out
          have HC1_9 := Lib.hid (HC0_5.out.grown hgrow (fun g hg hm => by injection hg with hg; have := hlt g hm; omega) (fun g hg hv => by injection hg with hg; have := own_lt6 HCI.out.own hv; omega))
          have HO1_9 := Lib.hid ((hgrow.block _ (heap_lt HO0_5.out) (fun h => by injection h with h; omega)).trans HO0_5.out)
          have HB1_9 := Lib.hid (but_grown HB0_5.out hgrow (fun g hg => by injection hg with hg; have := HBI.out.size; omega))
          have HV1_9 : Hid (Rd x1_9 4 (.slice Av rs.length cv) (rcs rs) fv ∧ NF x1_9 fv ∧ From (v0.heap.size) fv ∧ (∀ x ∈ fs.flatten, x < v0.heap.size) ∧ (∀ g, vo.ownBlock = some g → g < v0.heap.size) ∧ W.heap.size ≤ v0.heap.size) := ⟨r1, r2, r3, hlt, fun g hg => own_lt6 HCI.out.own hg, HBI.out.size⟩
          clear hown hgrow r1 r2 r3 r4 hlt hzo
          refine hK _ _ HB1_9.out ?_
          try simp only [Act.put, List.setIfInBounds_toArray, List.set_cons_zero, List.set_cons_succ]
          refine sch_fork (by rfl) (by rfl) (fun K hK => ?_) (fun K hK => ?_)
          · skip
            obtain ⟨q0, q1, qf, _, qz⟩ := two_at HO1_9.out
            go_simp
            refine hK _ _ HB1_9.out ?_
            try simp only [Act.put, List.setIfInBounds_toArray, List.set_cons_zero, List.set_cons_succ]
            clear q0 q1 qf qz
            refine sch_one (by rfl) (fun K hK => ?_)
            go_simp
            have HC2_10 := Lib.hid (HC1_9.out.alloc (.cells #[.slice Av rs.length cv] 24)); have HO2_10 := Lib.hid (heap_old (o' := (.cells #[.slice Av rs.length cv] 24)) HO1_9.out); have HB2_10 := Lib.hid (HB1_9.out.alloc (.cells #[.slice Av rs.length cv] 24))
            have HV2_10 : Hid (Rd (x1_9.alloc (.cells #[.slice Av rs.length cv] 24)) 4 (.slice Av rs.length cv) (rcs rs) fv ∧ NF (x1_9.alloc (.cells #[.slice Av rs.length cv] 24)) fv ∧ From (v0.heap.size) fv ∧ (∀ x ∈ fs.flatten, x < v0.heap.size) ∧ (∀ g, vo.ownBlock = some g → g < v0.heap.size) ∧ W.heap.size ≤ v0.heap.size) := ⟨HV1_9.out.1.alloc _, HV1_9.out.2.1.keep fun x hx => Below.heap_alloc _ _ _ (HV1_9.out.1.lt x hx), HV1_9.out.2.2⟩
            refine hK _ _ HB2_10.out ?_
            try simp only [Act.put, List.setIfInBounds_toArray, List.set_cons_zero, List.set_cons_succ]
            refine sch_one (by rfl) (fun K hK => ?_)
            refine wp_append_o (.tmp 16) (.tmp 24) 27 rfl W.heap.size 24 i1 (.slice none 0 0) 1 24 Try.underlying27 hi1 hz1 hsz1 hby1 rfl (by decide) vo us.length us rfl HC2_10.out.own ⟨x1_9.heap.size, 0, none⟩ 1 1 [.slice Av rs.length cv] rfl rfl rd1_new (by simp [Value.oneCell']) ?a1 ?a2 ?a3 (by omega) ?_
            case a1 => have := HU.out; unfold maxLen; omega
            case a2 => have := HU.out; omega
            case a3 => exact HB2_10.out.size
            intro v3_11 x3_11 hown hgrow hwh
            have hcp := HC2_10.out.push HV2_10.out.1 HV2_10.out.2.1 (HV2_10.out.2.2.1.mono HV2_10.out.2.2.2.2.2) (fun x hx hm => by have := HV2_10.out.2.2.1 x hx; have := HV2_10.out.2.2.2.1 x hm; omega) (fun g hg hm => by have := HV2_10.out.2.2.1 g hm; have := HV2_10.out.2.2.2.2.1 g hg; omega) hown hgrow hwh
            rw [← HT.out] at hcp
            have hou := (hgrow.block _ (heap_lt HO2_10.out) (fun h => by have := own_base' HC2_10.out.own h.symm; have := HZ.out; omega)).trans HO2_10.out
            have hbt := but_grown HB2_10.out hgrow (fun g hg => own_base' HC2_10.out.own hg)
            obtain ⟨gv, cw, hv2⟩ : ∃ g cap, v3_11 = .slice (some ⟨g, 0, none⟩) (us.length + 1) cap := by
              rcases hown.2 with ⟨_, h⟩ | ⟨g, cap, cur, h, _⟩
              · omega
              · exact ⟨g, cap, h⟩
            subst hv2
            have HCP := Lib.hid hcp; have HOU := Lib.hid hou; have HBT := Lib.hid hbt
            clear hcp hou hbt hown hgrow hwh
            refine hK _ _ HBT.out ?_
            try simp only [Act.put, List.setIfInBounds_toArray, List.set_cons_zero, List.set_cons_succ]
            refine sch_run (v := ?_) (by rfl) ?_ ?_
            rotate_left
            · (intro w' hS'; go_simp; try with_reducible rfl)
            try simp only [Act.put, List.setIfInBounds_toArray, List.set_cons_zero, List.set_cons_succ]
            obtain ⟨q0, q1, qf, _, qz⟩ := two_at HOU.out
            refine sch_one (by rfl) (fun K2 hK2 => ?_)
            go_simp
            have hb3 := HBT.out.setCell (p := ⟨w.heap.size + 1 + 1, 0, none⟩) (by simp) (.slice (some ⟨gv, 0, none⟩) (us.length + 1) cw)
            refine hK2 _ _ hb3 (sch_done ?_)
            have HO3 := Lib.hid (heap_set1 (i := 0) (v := .slice (some ⟨gv, 0, none⟩) (us.length + 1) cw) HOU.out)
            have HC3 := Lib.hid (HCP.out.grown (row := some (w.heap.size + 1 + 1)) (w' := x3_11.setCell ⟨w.heap.size + 1 + 1, 0, none⟩ (.slice (some ⟨gv, 0, none⟩) (us.length + 1) cw)) ⟨rfl, rfl, rfl, by simp [World.setCell], fun x _ hx => Below.heap_setCell _ _ _ _ (fun h => hx (by rw [h]))⟩ (fun g hg hm => by injection hg with hg; have := HCP.out.fr g hm; have := HZ.out; omega) (fun g hg hv => by injection hg with hg; have := own_base' HCP.out.own hv; have := HZ.out; omega))
            have HB3 := Lib.hid hb3
            clear hb3 q0 q1 qf qz
            go_wp2_with fail
            exact ⟨⟨k + 1, by omega, by go_num, _, _, _, HC3, Lib.hid (by simp [HU1.out]), HO3, HB3⟩, by simp [intOf]; omega⟩
          · skip
            go_simp
            have HC2_12 := Lib.hid (HC1_9.out.alloc (.cells #[.slice Av rs.length cv] 24)); have HO2_12 := Lib.hid (heap_old (o' := (.cells #[.slice Av rs.length cv] 24)) HO1_9.out); have HB2_12 := Lib.hid (HB1_9.out.alloc (.cells #[.slice Av rs.length cv] 24))
            have HV2_12 : Hid (Rd (x1_9.alloc (.cells #[.slice Av rs.length cv] 24)) 4 (.slice Av rs.length cv) (rcs rs) fv ∧ NF (x1_9.alloc (.cells #[.slice Av rs.length cv] 24)) fv ∧ From (v0.heap.size) fv ∧ (∀ x ∈ fs.flatten, x < v0.heap.size) ∧ (∀ g, vo.ownBlock = some g → g < v0.heap.size) ∧ W.heap.size ≤ v0.heap.size) := ⟨HV1_9.out.1.alloc _, HV1_9.out.2.1.keep fun x hx => Below.heap_alloc _ _ _ (HV1_9.out.1.lt x hx), HV1_9.out.2.2⟩
            refine hK _ _ HB2_12.out ?_
            try simp only [Act.put, List.setIfInBounds_toArray, List.set_cons_zero, List.set_cons_succ]
            refine sch_one (by rfl) (fun K hK => ?_)
            obtain ⟨q0, q1, qf, _, qz⟩ := two_at HO2_12.out
            go_simp
            refine hK _ _ HB2_12.out ?_
            try simp only [Act.put, List.setIfInBounds_toArray, List.set_cons_zero, List.set_cons_succ]
            clear q0 q1 qf qz
            refine sch_one (by rfl) (fun K hK => ?_)
            refine wp_append_o (.tmp 16) (.tmp 24) 27 rfl W.heap.size 24 i1 (.slice none 0 0) 1 24 Try.underlying27 hi1 hz1 hsz1 hby1 rfl (by decide) vo us.length us rfl HC2_12.out.own ⟨x1_9.heap.size, 0, none⟩ 1 1 [.slice Av rs.length cv] rfl rfl rd1_new (by simp [Value.oneCell']) ?a1 ?a2 ?a3 (by omega) ?_
            case a1 => have := HU.out; unfold maxLen; omega
            case a2 => have := HU.out; omega
            case a3 => exact HB2_12.out.size
            intro v3_13 x3_13 hown hgrow hwh
            have hcp := HC2_12.out.push HV2_12.out.1 HV2_12.out.2.1 (HV2_12.out.2.2.1.mono HV2_12.out.2.2.2.2.2) (fun x hx hm => by have := HV2_12.out.2.2.1 x hx; have := HV2_12.out.2.2.2.1 x hm; omega) (fun g hg hm => by have := HV2_12.out.2.2.1 g hm; have := HV2_12.out.2.2.2.2.1 g hg; omega) hown hgrow hwh
            rw [← HT.out] at hcp
            have hou := (hgrow.block _ (heap_lt HO2_12.out) (fun h => by have := own_base' HC2_12.out.own h.symm; have := HZ.out; omega)).trans HO2_12.out
            have hbt := but_grown HB2_12.out hgrow (fun g hg => own_base' HC2_12.out.own hg)
            obtain ⟨gv, cw, hv2⟩ : ∃ g cap, v3_13 = .slice (some ⟨g, 0, none⟩) (us.length + 1) cap := by
              rcases hown.2 with ⟨_, h⟩ | ⟨g, cap, cur, h, _⟩
              · omega
              · exact ⟨g, cap, h⟩
            subst hv2
            have HCP := Lib.hid hcp; have HOU := Lib.hid hou; have HBT := Lib.hid hbt
            clear hcp hou hbt hown hgrow hwh
            refine hK _ _ HBT.out ?_
            try simp only [Act.put, List.setIfInBounds_toArray, List.set_cons_zero, List.set_cons_succ]
            refine sch_run (v := ?_) (by rfl) ?_ ?_
            rotate_left
            · (intro w' hS'; go_simp; try with_reducible rfl)
            try simp only [Act.put, List.setIfInBounds_toArray, List.set_cons_zero, List.set_cons_succ]
            obtain ⟨q0, q1, qf, _, qz⟩ := two_at HOU.out
            refine sch_one (by rfl) (fun K2 hK2 => ?_)
            go_simp
            have hb3 := HBT.out.setCell (p := ⟨w.heap.size + 1 + 1, 0, none⟩) (by simp) (.slice (some ⟨gv, 0, none⟩) (us.length + 1) cw)
            refine hK2 _ _ hb3 (sch_done ?_)
            have HO3 := Lib.hid (heap_set1 (i := 0) (v := .slice (some ⟨gv, 0, none⟩) (us.length + 1) cw) HOU.out)
            have HC3 := Lib.hid (HCP.out.grown (row := some (w.heap.size + 1 + 1)) (w' := x3_13.setCell ⟨w.heap.size + 1 + 1, 0, none⟩ (.slice (some ⟨gv, 0, none⟩) (us.length + 1) cw)) ⟨rfl, rfl, rfl, by simp [World.setCell], fun x _ hx => Below.heap_setCell _ _ _ _ (fun h => hx (by rw [h]))⟩ (fun g hg hm => by injection hg with hg; have := HCP.out.fr g hm; have := HZ.out; omega) (fun g hg hv => by injection hg with hg; have := own_base' HCP.out.own hv; have := HZ.out; omega))
            have HB3 := Lib.hid hb3
            clear hb3 q0 q1 qf qz
            go_wp2_with fail
            exact ⟨⟨k + 1, by omega, by go_num, _, _, _, HC3, Lib.hid (by simp [HU1.out]), HO3, HB3⟩, by simp [intOf]; omega⟩
    · obtain rfl : k = l.length := by omega
      have hcp := HCI.out
      rw [List.take_length] at hcp
      obtain ⟨f4, h1, h2, h3, h4⟩ := hcp.done
      obtain ⟨A4, c4, rfl⟩ : ∃ A c, vo = .slice A l.length c := by obtain ⟨A, c, e, _⟩ := Sl.form h1; exact ⟨A, c, e⟩
      have hg1 := HBI.out.heap G1.out (by simp <;> omega)
      obtain ⟨y0, y1, z0, z1, yz⟩ := two_at hg1
      obtain ⟨q0, q1, _, _, qz⟩ := two_at HOI.out
      obtain ⟨p0, p1, _, _, pz⟩ := two_at HP.out
      have hb4 : Below w.heap.size w wr := HBW.out.trans (HBI.out.below HBW.out.size (by intro x hx; simp at hx; omega))
      have HX := Lib.hid (And.intro h1 (And.intro h2 (And.intro h3 (And.intro h4 hb4))))
      clear hcp h1 h2 h3 h4 hb4 hg1
      go_wp2_with fail
      refine bodyPost_ret (v := plv m (.slice A4 l.length c4)) (by simp [results, Try.results59, go_sem, y0, y1]) rfl ?_
      obtain ⟨k1, k2, k3, k4, k5⟩ := HX.out
      have hzz := HZ.out
      have hbut := ((But.refl [w.heap.size + 1] wr).setCell (p := ⟨w.heap.size + 1, 0, none⟩) (by simp) (.slice A4 l.length c4)).setCell (p := ⟨w.heap.size + 1, 1, none⟩) (by simp) (.int .i64 m)
      have a1 : ∀ x ∈ f4, x ∉ [w.heap.size + 1] := fun x hx he => by have := k3 x hx; simp at he; omega
      exact ⟨_, f4, rfl, ⟨k1.but hbut a1⟩, k2.but hbut (Sl.lt k1) a1, ⟨k3.mono (by omega), k4⟩, k5.trans (hbut.below k5.size (fun x hx => by simp at hx; omega))⟩
end Go.Proofs.Ytldimfmhbdhbnaa

/-
  The model's functions of chapter 6, ninth part: a row written into places, by a maker (mkwrite.py).
-/
namespace Go.Proofs.Ytldimfmhbdhbnaa
open Go.RowKit

set_option maxRecDepth 100000 in
set_option maxHeartbeats 8000000 in
theorem specWritePlace_r (p : Pl) (vf : Value) (r : R) (m : Int) (w : World) (fp : List Nat) (hs : plsz p ≤ 1048576) (h : PlAt w p vf fp) :
    Calls Try.prog 15 #[plv p.mark vf, rv r, .int .i64 m] w (PResPost w (wpC p r m) (wpL p r m)) := by
  obtain ⟨A, c, rfl⟩ := h.form
  have h0p := h.f
  obtain ⟨tb, t1, t2, t3⟩ := three_new6 w (.cells #[.slice A p.fs.length c, .int .i64 p.mark] 29) (.cells #[.int .i64 r.1, .int .i64 r.2.1, .int .i64 r.2.2.1, .int .i64 r.2.2.2] 34) (.cells #[.int .i64 0, .slice none 0 0, .int .i64 0] 31)
  have HF := Lib.hid (h.f.below' tb); have HB := Lib.hid tb; have GP := Lib.hid t1; have GR := Lib.hid t2; have GZ := Lib.hid t3; have HSZ : Hid (fsz p.fs ≤ 1048576) := hs
  have ⟨W0, hW0⟩ : ∃ x, x = ((w.alloc (.cells #[.slice A p.fs.length c, .int .i64 p.mark] 29)).alloc (.cells #[.int .i64 r.1, .int .i64 r.2.1, .int .i64 r.2.2.1, .int .i64 r.2.2.2] 34)).alloc (.cells #[.int .i64 0, .slice none 0 0, .int .i64 0] 31) := ⟨_, rfl⟩
  rw [← hW0] at HF HB GP GR GZ
  have HW0 := Lib.hid hW0; clear hW0
  have HLTP := Lib.hid (Sl.lt h0p); clear h0p
  clear h tb t1 t2 t3 hs
  by_cases h0 : placesF p = 0
  case neg =>
    rw [wpC_a h0, wpL_no (by rw [wpC_a h0]; exact h0)]
    obtain ⟨V, hV⟩ : ∃ V, V = placesF p := ⟨_, rfl⟩
    have HV : Hid (placesF ⟨p.fs, p.mark⟩ = V) := hV.symm
    rw [← hV] at h0 ⊢
    have t1 : (V != 0) = true := by simpa using h0
    clear h0 hV
    go_enter Try.func15, Try.ntmps15
    go_wp2_with fail
    rw [← HW0.out]
    refine (l6Fault_c w.heap.size p.mark A c p.fs W0 fp (by have := HSZ.out; omega) ⟨cell_of_heap GP.out, cell_of_heap GP.out, heap_lt GP.out⟩ HF.out).mono ?_
    rw [HV.out]
    rintro e w1 ⟨rfl, hq⟩
    have hb1 : Below W0.heap.size W0 w1 := hq.below
    clear hq
    replace GP := Lib.hid ((hb1.block _ (heap_lt GP.out)).trans GP.out)
    replace GR := Lib.hid ((hb1.block _ (heap_lt GR.out)).trans GR.out)
    replace GZ := Lib.hid ((hb1.block _ (heap_lt GZ.out)).trans GZ.out)
    replace HF := Lib.hid (HF.out.below' hb1)
    replace HB := Lib.hid (HB.out.trans (hb1.mono HB.out.size))
    clear hb1
    obtain ⟨y0, y1, y2, z0, z1, z2, yz⟩ := three_at6 GZ.out
    go_wp2_with fail
    refine bodyPost_ret (v := plrv (V) 0 (.slice none 0 0)) (by simp [results, Try.results15, go_sem, y0, y1, y2]) rfl (pres_none ?_)
    exact HB.out.trans (((((But.refl [w.heap.size + 2] _).setCell (p := ⟨w.heap.size + 2, 0, none⟩) (by simp) _).setCell (p := ⟨w.heap.size + 2, 1, none⟩) (by simp) _).setCell (p := ⟨w.heap.size + 2, 2, none⟩) (by simp) _).below HB.out.size (by intro b hb; simp at hb; omega))
  have H0 : Hid (placesF ⟨p.fs, p.mark⟩ = 0) := h0
  by_cases h1 : rowF r = 0
  case neg =>
    rw [wpC_b h0 h1, wpL_no (by rw [wpC_b h0 h1]; exact h1)]
    obtain ⟨V, hV⟩ : ∃ V, V = rowF r := ⟨_, rfl⟩
    have HV := Lib.hid hV.symm
    rw [← hV] at h1 ⊢
    have t1 : (V != 0) = true := by simpa using h1
    clear h0 h1 hV
    go_enter Try.func15, Try.ntmps15
    go_wp2_with fail
    rw [← HW0.out]
    refine (l6Fault_c w.heap.size p.mark A c p.fs W0 fp (by have := HSZ.out; omega) ⟨cell_of_heap GP.out, cell_of_heap GP.out, heap_lt GP.out⟩ HF.out).mono ?_
    rw [H0.out]
    rintro e w1 ⟨rfl, hq⟩
    have hb1 : Below W0.heap.size W0 w1 := hq.below
    clear hq
    replace GP := Lib.hid ((hb1.block _ (heap_lt GP.out)).trans GP.out)
    replace GR := Lib.hid ((hb1.block _ (heap_lt GR.out)).trans GR.out)
    replace GZ := Lib.hid ((hb1.block _ (heap_lt GZ.out)).trans GZ.out)
    replace HF := Lib.hid (HF.out.below' hb1)
    replace HB := Lib.hid (HB.out.trans (hb1.mono HB.out.size))
    clear hb1
    obtain ⟨r0, r1, r2, r3, _, _, _, _, rz⟩ := four_at GR.out
    go_wp2_with fail
    refine (l2Row_c (w.heap.size + 1) 0 r w1 ⟨r0, r1, r2, r3⟩).mono ?_
    rw [HV.out]
    rintro e w2 ⟨rfl, hq⟩
    have hb2 : Below w1.heap.size w1 w2 := Qt.below hq
    clear hq r0 r1 r2 r3 rz
    replace GP := Lib.hid ((hb2.block _ (heap_lt GP.out)).trans GP.out)
    replace GR := Lib.hid ((hb2.block _ (heap_lt GR.out)).trans GR.out)
    replace GZ := Lib.hid ((hb2.block _ (heap_lt GZ.out)).trans GZ.out)
    replace HF := Lib.hid (HF.out.below' hb2)
    replace HB := Lib.hid (HB.out.trans (hb2.mono HB.out.size))
    clear hb2
    obtain ⟨y0, y1, y2, z0, z1, z2, yz⟩ := three_at6 GZ.out
    go_wp2_with fail
    refine bodyPost_ret (v := plrv (V) 0 (.slice none 0 0)) (by simp [results, Try.results15, go_sem, y0, y1, y2]) rfl (pres_none ?_)
    exact HB.out.trans (((((But.refl [w.heap.size + 2] _).setCell (p := ⟨w.heap.size + 2, 0, none⟩) (by simp) _).setCell (p := ⟨w.heap.size + 2, 1, none⟩) (by simp) _).setCell (p := ⟨w.heap.size + 2, 2, none⟩) (by simp) _).below HB.out.size (by intro b hb; simp at hb; omega))
  have H1 := Lib.hid h1
  have hmk : 0 ≤ p.mark ∧ p.mark ≤ 999 := ⟨(placesF_zero h0).2.1, (placesF_zero h0).2.2.1⟩
  by_cases h2 : m = p.mark + 1
  case neg =>
    rw [wpC_c h0 h1 (fun x => h2 x.1), wpL_no (by rw [wpC_c h0 h1 (fun x => h2 x.1)]; decide)]
    have t1 : (m != p.mark + 1) = true := by simpa using h2
    have HM := Lib.hid hmk
    clear h0 h1 h2
    go_enter Try.func15, Try.ntmps15
    go_wp2_with fail
    rw [← HW0.out]
    refine (l6Fault_c w.heap.size p.mark A c p.fs W0 fp (by have := HSZ.out; omega) ⟨cell_of_heap GP.out, cell_of_heap GP.out, heap_lt GP.out⟩ HF.out).mono ?_
    rw [H0.out]
    rintro e w1 ⟨rfl, hq⟩
    have hb1 : Below W0.heap.size W0 w1 := hq.below
    clear hq
    replace GP := Lib.hid ((hb1.block _ (heap_lt GP.out)).trans GP.out)
    replace GR := Lib.hid ((hb1.block _ (heap_lt GR.out)).trans GR.out)
    replace GZ := Lib.hid ((hb1.block _ (heap_lt GZ.out)).trans GZ.out)
    replace HF := Lib.hid (HF.out.below' hb1)
    replace HB := Lib.hid (HB.out.trans (hb1.mono HB.out.size))
    clear hb1
    obtain ⟨r0, r1, r2, r3, _, _, _, _, rz⟩ := four_at GR.out
    go_wp2_with fail
    refine (l2Row_c (w.heap.size + 1) 0 r w1 ⟨r0, r1, r2, r3⟩).mono ?_
    rw [H1.out]
    rintro e w2 ⟨rfl, hq⟩
    have hb2 : Below w1.heap.size w1 w2 := Qt.below hq
    clear hq r0 r1 r2 r3 rz
    replace GP := Lib.hid ((hb2.block _ (heap_lt GP.out)).trans GP.out)
    replace GR := Lib.hid ((hb2.block _ (heap_lt GR.out)).trans GR.out)
    replace GZ := Lib.hid ((hb2.block _ (heap_lt GZ.out)).trans GZ.out)
    replace HF := Lib.hid (HF.out.below' hb2)
    replace HB := Lib.hid (HB.out.trans (hb2.mono HB.out.size))
    clear hb2
    obtain ⟨p0, p1, _, _, pz⟩ := two_at GP.out
    obtain ⟨y0, y1, y2, z0, z1, z2, yz⟩ := three_at6 GZ.out
    go_wp2_with fail
    refine bodyPost_ret (v := plrv (9) 0 (.slice none 0 0)) (by simp [results, Try.results15, go_sem, y0, y1, y2]) rfl (pres_none ?_)
    exact HB.out.trans (((((But.refl [w.heap.size + 2] _).setCell (p := ⟨w.heap.size + 2, 0, none⟩) (by simp) _).setCell (p := ⟨w.heap.size + 2, 1, none⟩) (by simp) _).setCell (p := ⟨w.heap.size + 2, 2, none⟩) (by simp) _).below HB.out.size (by intro b hb; simp at hb; omega))
  by_cases h3 : m ≤ 999
  case neg =>
    rw [wpC_c h0 h1 (fun x => h3 x.2), wpL_no (by rw [wpC_c h0 h1 (fun x => h3 x.2)]; decide)]
    have t1 : (m != p.mark + 1) = false := by simpa using h2
    have HM := Lib.hid hmk
    clear h0 h1 h2
    go_enter Try.func15, Try.ntmps15
    go_wp2_with fail
    rw [← HW0.out]
    refine (l6Fault_c w.heap.size p.mark A c p.fs W0 fp (by have := HSZ.out; omega) ⟨cell_of_heap GP.out, cell_of_heap GP.out, heap_lt GP.out⟩ HF.out).mono ?_
    rw [H0.out]
    rintro e w1 ⟨rfl, hq⟩
    have hb1 : Below W0.heap.size W0 w1 := hq.below
    clear hq
    replace GP := Lib.hid ((hb1.block _ (heap_lt GP.out)).trans GP.out)
    replace GR := Lib.hid ((hb1.block _ (heap_lt GR.out)).trans GR.out)
    replace GZ := Lib.hid ((hb1.block _ (heap_lt GZ.out)).trans GZ.out)
    replace HF := Lib.hid (HF.out.below' hb1)
    replace HB := Lib.hid (HB.out.trans (hb1.mono HB.out.size))
    clear hb1
    obtain ⟨r0, r1, r2, r3, _, _, _, _, rz⟩ := four_at GR.out
    go_wp2_with fail
    refine (l2Row_c (w.heap.size + 1) 0 r w1 ⟨r0, r1, r2, r3⟩).mono ?_
    rw [H1.out]
    rintro e w2 ⟨rfl, hq⟩
    have hb2 : Below w1.heap.size w1 w2 := Qt.below hq
    clear hq r0 r1 r2 r3 rz
    replace GP := Lib.hid ((hb2.block _ (heap_lt GP.out)).trans GP.out)
    replace GR := Lib.hid ((hb2.block _ (heap_lt GR.out)).trans GR.out)
    replace GZ := Lib.hid ((hb2.block _ (heap_lt GZ.out)).trans GZ.out)
    replace HF := Lib.hid (HF.out.below' hb2)
    replace HB := Lib.hid (HB.out.trans (hb2.mono HB.out.size))
    clear hb2
    obtain ⟨p0, p1, _, _, pz⟩ := two_at GP.out
    obtain ⟨y0, y1, y2, z0, z1, z2, yz⟩ := three_at6 GZ.out
    go_wp2_with fail
    refine bodyPost_ret (v := plrv (9) 0 (.slice none 0 0)) (by simp [results, Try.results15, go_sem, y0, y1, y2]) rfl (pres_none ?_)
    exact HB.out.trans (((((But.refl [w.heap.size + 2] _).setCell (p := ⟨w.heap.size + 2, 0, none⟩) (by simp) _).setCell (p := ⟨w.heap.size + 2, 1, none⟩) (by simp) _).setCell (p := ⟨w.heap.size + 2, 2, none⟩) (by simp) _).below HB.out.size (by intro b hb; simp at hb; omega))
  have hC := wpC_d h0 h1 h2 h3
  have hlen := (placesF_zero h0).1
  obtain ⟨jj, hj4, hje⟩ : ∃ j : Nat, j < 4 ∧ r.1 = (j : Int) := by
    have := rowF_zero h1
    exact ⟨r.1.toNat, by omega, by omega⟩
  have hjl : jj < p.fs.length := by omega
  have hrz := ((placesF_zero h0).2.2.2.1 jj hjl).1
  have hfit := rowsF_fits hrz
  have HFIT := Lib.hid hfit.1; have H12 := Lib.hid hfit.2; have HRZ := Lib.hid hrz; have HFR := Lib.hid (fit_of_rowF h1)
  have HW : Hid (wpF p r = p.fs.set jj (setR p.fs[jj] r)) := wpF_at hje hjl
  have HT : Hid (totS p.fs ≤ 12) := (placesF_zero h0).2.2.2.2
  have HLEN := Lib.hid hlen; have HC := Lib.hid hC; have HJE := Lib.hid hje
  have t1 : (m != p.mark + 1) = false := by simpa using h2
  clear h0 h1 h2 hC hlen hrz hfit hje
  have hje : r = ((jj : Int), r.2) := by rw [← HJE.out]
  obtain ⟨ra, rb⟩ := r
  simp only at hje HJE
  have e1 : ra = (jj : Int) := HJE.out
  subst e1
  clear hje HJE
  obtain ⟨rb, rc', rd⟩ := rb
  generalize hQ : wpC p ((jj : Int), rb, rc', rd) m = Q at *
  have HQ := Lib.hid hQ; clear hQ
  generalize hS : setR p.fs[jj] ((jj : Int), rb, rc', rd) = S at *
  have HS := Lib.hid hS; clear hS
  have hl4 : wpL p ((jj : Int), rb, rc', rd) m = if Q = 0 then ⟨p.fs.set jj S, m⟩ else ⟨[], 0⟩ := by unfold wpL; rw [HQ.out, HW.out]
  generalize hL4 : wpL p ((jj : Int), rb, rc', rd) m = L4 at *
  have HL4 := Lib.hid hl4; clear hL4
  have htot : Hid (totS (p.fs.set jj S) ≤ 100) := wp_tot HT.out hjl (by rw [← HS.out]; exact setR_len6 H12.out)
  have hCC : Q = if 12 < totS (p.fs.set jj S) then 8 else 0 := by rw [HC.out, HW.out]
  obtain ⟨T, hT⟩ : ∃ T, T = totS (p.fs.set jj S) := ⟨_, rfl⟩
  rw [← hT] at hCC
  have HCC := Lib.hid hCC; have HTT := Lib.hid hT.symm
  have hT100 : T ≤ 100 := by rw [hT]; exact htot.out
  clear hl4 hCC hT HC HW HQ
  obtain ⟨b0, off0, B0, d0, f0, hA0, _, hbl0, hc0, hr0, _⟩ := rowsAt HF.out hjl
  have HM := Lib.hid hmk; clear hmk hA0 hbl0 hc0 hr0
  simp only at GR HW0
  go_enter Try.func15, Try.ntmps15
  go_wp2_with fail
  rw [← HW0.out]
  refine (l6Fault_c w.heap.size p.mark A c p.fs W0 fp (by have := HSZ.out; omega) ⟨cell_of_heap GP.out, cell_of_heap GP.out, heap_lt GP.out⟩ HF.out).mono ?_
  rw [H0.out]
  rintro e w1 ⟨rfl, hq⟩
  have hb1 : Below W0.heap.size W0 w1 := hq.below
  clear hq
  replace GP := Lib.hid ((hb1.block _ (heap_lt GP.out)).trans GP.out)
  replace GR := Lib.hid ((hb1.block _ (heap_lt GR.out)).trans GR.out)
  replace GZ := Lib.hid ((hb1.block _ (heap_lt GZ.out)).trans GZ.out)
  replace HF := Lib.hid (HF.out.below' hb1)
  replace HB := Lib.hid (HB.out.trans (hb1.mono HB.out.size))
  clear hb1
  obtain ⟨r0, r1, r2, r3, _, _, _, _, rz⟩ := four_at GR.out
  go_wp2_with fail
  refine (l2Row_c (w.heap.size + 1) 0 ((jj : Int), rb, rc', rd) w1 ⟨r0, r1, r2, r3⟩).mono ?_
  rw [H1.out]
  rintro e w2 ⟨rfl, hq⟩
  have hb2 : Below w1.heap.size w1 w2 := Qt.below hq
  clear hq r0 r1 r2 r3 rz
  replace GP := Lib.hid ((hb2.block _ (heap_lt GP.out)).trans GP.out)
  replace GR := Lib.hid ((hb2.block _ (heap_lt GR.out)).trans GR.out)
  replace GZ := Lib.hid ((hb2.block _ (heap_lt GZ.out)).trans GZ.out)
  replace HF := Lib.hid (HF.out.below' hb2)
  replace HB := Lib.hid (HB.out.trans (hb2.mono HB.out.size))
  clear hb2
  obtain ⟨p0, p1, _, _, pz⟩ := two_at GP.out
  have hm0 := HM.out
  go_wp2_with fail
  clear p0 p1 pz hm0
  refine (l6Copy_c p (.slice A p.fs.length c) w2 fp HSZ.out ⟨HF.out⟩).mono ?_
  rintro e w3 ⟨v3, f3, rfl, hr3, hn3, ⟨hf3, hd3⟩, hb3⟩
  have sz2 := HB.out.size
  have sz2 := heap_lt GZ.out
  have GZ2 := GZ; have HB2 := HB
  have hb32 := hb3
  replace GP := Lib.hid ((hb3.block _ (heap_lt GP.out)).trans GP.out)
  replace GR := Lib.hid ((hb3.block _ (heap_lt GR.out)).trans GR.out)
  replace GZ := Lib.hid ((hb3.block _ (heap_lt GZ.out)).trans GZ.out)
  replace HF := Lib.hid (HF.out.below' hb3)
  replace HB := Lib.hid (HB.out.trans (hb3.mono HB.out.size))
  obtain ⟨co, bo, oo, old, ev, hbo, hbl, hco, hput⟩ := Sl.put hr3.f hd3 hjl
  subst ev
  have hz3 := hb3.size
  have hb4 := below_new (w := w3) (.cells #[.slice (some ⟨bo, oo, none⟩) p.fs.length co, .int .i64 p.mark] 29)
  have G4 := Lib.hid (heap_new w3 (.cells #[.slice (some ⟨bo, oo, none⟩) p.fs.length co, .int .i64 p.mark] 29) rfl)
  have hcell : ∀ w', Below w3.heap.size w3 w' → w'.cell? ⟨bo, oo + jj, none⟩ = some old := fun w' h => (h.cell (p := ⟨bo, oo + jj, none⟩) hbl).trans hco
  have HP := Lib.hid hput; have HN3 := Lib.hid hn3; have HF3 := Lib.hid hf3; have HL3 := Lib.hid hr3.lt; have HR3 := Lib.hid hr3; have HCE := Lib.hid hcell
  have HBO := Lib.hid (And.intro hbo hbl)
  clear hput hn3 hf3 hr3 hd3 hcell hbo hbl hco hb3
  replace GP := Lib.hid ((hb4.block _ (heap_lt GP.out)).trans GP.out)
  replace GR := Lib.hid ((hb4.block _ (heap_lt GR.out)).trans GR.out)
  replace GZ := Lib.hid ((hb4.block _ (heap_lt GZ.out)).trans GZ.out)
  replace HF := Lib.hid (HF.out.below' hb4)
  replace HB := Lib.hid (HB.out.trans (hb4.mono HB.out.size))
  obtain ⟨bf, off, B, d, f, hA, hbfp, hbl, hc, hr, hfsub⟩ := rowsAt HF.out hjl
  subst hA
  obtain ⟨p0, p1, _, _, pz⟩ := two_at GP.out
  obtain ⟨r0, r1, r2, r3, _, _, _, _, rz⟩ := four_at GR.out
  obtain ⟨g0, g1, _, _, gz⟩ := two_at G4.out
  have hlr := hr.lt
  have HRD := Lib.hid hr
  have i0j : (0 : Int) ≤ (jj : Int) := by omega
  have i1j : (jj : Int) < (p.fs.length : Int) := by omega
  clear hr
  go_wp2_with fail
  generalize w3.alloc (.cells #[.slice (some ⟨bo, oo, none⟩) p.fs.length co, .int .i64 p.mark] 29) = w4 at *
  have n1 : w.heap.size + 2 < bo := by have h1 := HF3.out bo HBO.out.1; have h2 := sz2; omega
  have n2 : bo < w3.heap.size := HBO.out.2
  have n3 : bf < w.heap.size := HLTP.out bf hbfp
  have b4 := hb4.size
  have b4z : Hid (w3.heap.size < w4.heap.size) := heap_lt G4.out
  have N := Lib.hid (And.intro n1 (And.intro n2 n3)); clear n1 n2 n3
  go_region_held3 (fun w' => w'.cell? ⟨w.heap.size, 0, none⟩ = some (.slice (some ⟨bf, off, none⟩) p.fs.length c) ∧ w'.cell? ⟨w.heap.size + 1, 0, none⟩ = some (.int .i64 (jj : Int)) ∧ w'.cell? ⟨w.heap.size + 1, 1, none⟩ = some (.int .i64 rb) ∧ w'.cell? ⟨w.heap.size + 1, 2, none⟩ = some (.int .i64 rc') ∧ w'.cell? ⟨w.heap.size + 1, 3, none⟩ = some (.int .i64 rd) ∧ w'.cell? ⟨w3.heap.size, 0, none⟩ = some (.slice (some ⟨bo, oo, none⟩) p.fs.length co) ∧ w'.cell? ⟨bf, off + jj, none⟩ = some (.slice B p.fs[jj].length d))
    (first
      | go_keep
      | exact HS5.out
      | (obtain ⟨s0, s1, s2, s3, s4, s5, s6⟩ := HS5.out
         obtain ⟨n1, n2, n3⟩ := N.out
         refine ⟨(World.cell?_setCell_other _ _ _ _ ?_).trans s0, (World.cell?_setCell_other _ _ _ _ ?_).trans s1, (World.cell?_setCell_other _ _ _ _ ?_).trans s2, (World.cell?_setCell_other _ _ _ _ ?_).trans s3, (World.cell?_setCell_other _ _ _ _ ?_).trans s4, (World.cell?_setCell_other _ _ _ _ ?_).trans s5, (World.cell?_setCell_other _ _ _ _ ?_).trans s6⟩ <;> (intro h; injection h with h1 h2 _; omega)))
    (first
      | (go_at_call 60
         refine (l2Set_c B d p.fs[jj] ((jj : Int), rb, rc', rd) _ f (by have := H12.out; omega) HFIT.out HFR.out (HRD.out.drew)).mono ?_
         rw [HS.out]
         rintro e w5 ⟨v5, f5, rfl, hr5, hn5, hf5, hb5, _⟩
         obtain ⟨A5, c5, rfl⟩ := hr5.rows_form
         have hq5 : Below w4.heap.size w4 w5 := (Below.refl _ _).drew.trans hb5
         have HS5 : Hid (w5.cell? ⟨w.heap.size, 0, none⟩ = some (.slice (some ⟨bf, off, none⟩) p.fs.length c) ∧ w5.cell? ⟨w.heap.size + 1, 0, none⟩ = some (.int .i64 (jj : Int)) ∧ w5.cell? ⟨w.heap.size + 1, 1, none⟩ = some (.int .i64 rb) ∧ w5.cell? ⟨w.heap.size + 1, 2, none⟩ = some (.int .i64 rc') ∧ w5.cell? ⟨w.heap.size + 1, 3, none⟩ = some (.int .i64 rd) ∧ w5.cell? ⟨w3.heap.size, 0, none⟩ = some (.slice (some ⟨bo, oo, none⟩) p.fs.length co) ∧ w5.cell? ⟨bf, off + jj, none⟩ = some (.slice B p.fs[jj].length d)) :=
           ⟨(hq5.cell (p := ⟨w.heap.size, 0, none⟩) pz).trans p0, (hq5.cell (p := ⟨w.heap.size + 1, 0, none⟩) rz).trans r0, (hq5.cell (p := ⟨w.heap.size + 1, 1, none⟩) rz).trans r1, (hq5.cell (p := ⟨w.heap.size + 1, 2, none⟩) rz).trans r2, (hq5.cell (p := ⟨w.heap.size + 1, 3, none⟩) rz).trans r3, (hq5.cell (p := ⟨w3.heap.size, 0, none⟩) gz).trans g0, (hq5.cell (p := ⟨bf, off + jj, none⟩) hbl).trans hc⟩
         have o0 : w5.cell? ⟨bo, oo + jj, none⟩ = some old := HCE.out _ (hb4.trans (hq5.mono hb4.size))
         have of : w5.frozen? ⟨bo, oo + jj, none⟩ = false := (Below.frozen (w := w3) (p := ⟨bo, oo + jj, none⟩) (hb4.trans (hq5.mono hb4.size)) HBO.out.2).trans (HN3.out bo HBO.out.1 _)
         have oz : bo < w5.heap.size := Nat.lt_of_lt_of_le HBO.out.2 (hb4.trans (hq5.mono hb4.size)).size
         have HR5 := Lib.hid hr5; have HN5 := Lib.hid hn5; have HF5 := Lib.hid hf5; have HQ5 := Lib.hid hq5
         clear hr5 hn5 hf5 hb5 hq5))
  obtain ⟨n1, n2, n3⟩ := N.out
  have hb5 := hb4.trans (HQ5.out.mono hb4.size)
  have hbut := (But.of_below hb5 [bo]).setCell (p := ⟨bo, oo + jj, none⟩) (by simp) (.slice A5 S.length c5)
  have hb6 : Below w2.heap.size w2 (w5.setCell ⟨bo, oo + jj, none⟩ (.slice A5 S.length c5)) := (hb32.trans (hb5.mono hb32.size)).setCell (HF3.out bo HBO.out.1) _
  have hcu : (w5.setCell ⟨bo, oo + jj, none⟩ (.slice A5 S.length c5)).cell? ⟨bo, oo + jj, none⟩ = some (.slice A5 S.length c5) := World.cell?_setCell_same _ _ _ o0
  have hco : ∀ j, j ≠ jj → (w5.setCell ⟨bo, oo + jj, none⟩ (.slice A5 S.length c5)).cell? ⟨bo, oo + j, none⟩ = w3.cell? ⟨bo, oo + j, none⟩ := fun j hj =>
    (World.cell?_setCell_other _ _ _ _ (by intro h; injection h with _ h2 _; omega)).trans (hb5.cell (p := ⟨bo, oo + j, none⟩) n2)
  have hf5 : ∀ x ∈ f5, w3.heap.size < x := fun x hx => by have h1 := HF5.out x hx; have h2 : w4.heap.size = w4.drew.heap.size := rfl; have := b4z.out; omega
  have hrd : Rd (w5.setCell ⟨bo, oo + jj, none⟩ (.slice A5 S.length c5)) 4 (.slice A5 S.length c5) (rcs S) f5 := HR5.out.but ((But.refl [bo] w5).setCell (p := ⟨bo, oo + jj, none⟩) (by simp) _) (fun x hx he => by have := hf5 x hx; simp at he; omega)
  obtain ⟨fq, hRF, hndq, hsub⟩ := HP.out _ _ S f5 hbut hcu hco hrd (fun x hx he => by have := hf5 x hx; have := HL3.out x he; omega)
  have hnfq : NF (w5.setCell ⟨bo, oo + jj, none⟩ (.slice A5 S.length c5)) fq := fun x hx i => by
    rw [World.frozen?_setCell]
    rcases hsub x hx with h | h
    · exact (hb5.frozen (p := ⟨x, i, none⟩) (HL3.out x h)).trans (HN3.out x h i)
    · exact HN5.out x h i
  have HFQ : Hid (w3.heap.size ∉ fq) := fun hx => by
    rcases hsub _ hx with h | h
    · have := HL3.out _ h; omega
    · have := hf5 _ h; omega
  have hfrq : From w2.heap.size fq := fun x hx => by
    rcases hsub x hx with h | h
    · exact HF3.out x h
    · have := hf5 x h; have := hb32.size; omega
  have HG9 := Lib.hid ((Below.heap_setCell w5 ⟨bo, oo + jj, none⟩ (.slice A5 S.length c5) w3.heap.size (by simp only; omega)).trans ((HQ5.out.block _ (heap_lt G4.out)).trans G4.out))
  have hlen6 : Hid ((p.fs.set jj S).length = p.fs.length) := List.length_set
  have hsz6 : Hid (fsz (p.fs.set jj S) ≤ 4194304) := by
    have h1 := htot.out
    have h3 : (p.fs.set jj S).length = 4 := by rw [List.length_set]; exact HLEN.out
    show fsz (p.fs.set jj S) ≤ 4194304
    unfold fsz
    omega
  generalize p.fs.set jj S = LF at *
  generalize w5.setCell ⟨bo, oo + jj, none⟩ (.slice A5 S.length c5) = X at *
  have hcnt := l6Count_q (some ⟨bo, oo, none⟩) co LF T HTT.out X fq hsz6.out (by rw [hlen6.out]; exact hRF)
  rw [hlen6.out] at hcnt
  have HX := Lib.hid (And.intro hRF (And.intro hndq (And.intro hnfq hfrq)))
  have HCNT := Lib.hid hcnt
  clear hbut hcu hco hrd hsub hnfq hfrq hndq hRF o0 of oz p0 p1 pz r0 r1 r2 r3 rz g0 g1 gz hcnt hf5 hb5 hc hbl HCE HP
  replace GZ := Lib.hid ((hb6.block _ (heap_lt GZ2.out)).trans GZ2.out)
  replace HB := Lib.hid (HB2.out.trans (hb6.mono HB2.out.size))
  obtain ⟨g0, g1, _, gf, gz⟩ := two_at HG9.out
  go_wp2_with fail
  refine HCNT.out.mono ?_
  rintro e w' ⟨rfl, hw⟩
  subst hw
  by_cases h12 : 12 < T
  · have hQ : Q = 8 := by rw [HCC.out, if_pos h12]
    have hL : L4 = ⟨[], 0⟩ := by rw [HL4.out, hQ]; rfl
    subst hQ hL
    have t12 : (12 : Int) < (T : Int) := by omega
    obtain ⟨y0, y1, y2, z0, z1, z2, yz⟩ := three_at6 GZ.out
    go_wp2_with fail
    refine bodyPost_ret (v := plrv 8 0 (.slice none 0 0)) (by simp [results, Try.results15, go_sem, y0, y1, y2]) rfl (pres_none ?_)
    exact HB.out.trans (((((But.refl [w.heap.size + 2] _).setCell (p := ⟨w.heap.size + 2, 0, none⟩) (by simp) _).setCell (p := ⟨w.heap.size + 2, 1, none⟩) (by simp) _).setCell (p := ⟨w.heap.size + 2, 2, none⟩) (by simp) _).below HB.out.size (by intro b hb; simp at hb; omega))
  · have hQ : Q = 0 := by rw [HCC.out, if_neg h12]
    have hL : L4 = ⟨LF, m⟩ := by rw [HL4.out, hQ]; rfl
    subst hQ hL
    have t12 : ¬ (12 : Int) < (T : Int) := by omega
    have hz9 := heap_lt HG9.out
    have hbut9 := (But.refl [w3.heap.size] X).setCell (p := ⟨w3.heap.size, 1, none⟩) (by simp) (.int .i64 m)
    have hz2 := heap_lt GZ2.out
    have hw23 := hb32.size
    have hg9 : ∀ x ∈ fq, x ∉ [w3.heap.size] := fun x hx he => by
      simp at he; subst he
      exact HFQ.out hx
    have hgz7 := hbut9.heap GZ.out (by simp; omega)
    obtain ⟨y0, y1, y2, z0, z1, z2, yz⟩ := three_at6 hgz7
    have hpl : PlAt (X.setCell ⟨w3.heap.size, 1, none⟩ (.int .i64 m)) ⟨LF, m⟩ (.slice (some ⟨bo, oo, none⟩) p.fs.length co) fq := ⟨HX.out.1.but hbut9 hg9⟩
    have HEND := Lib.hid (pres_stored (code := 0) (g := w.heap.size + 2) (HB.out.trans (hbut9.below HB.out.size (by intro x hx; simp at hx; omega))) (by omega) hpl (HX.out.2.2.1.but hbut9 (Sl.lt HX.out.1) hg9) (fun x hx => by have := HX.out.2.2.2 x hx; omega) HX.out.2.1)
    clear hbut9 hgz7 hpl hg9
    go_wp2_with fail
    exact bodyPost_ret (v := plrv 0 m (.slice (some ⟨bo, oo, none⟩) p.fs.length co)) (by simp [results, Try.results15, go_sem, y0, y1, y2]) rfl HEND.out
end Go.Proofs.Ytldimfmhbdhbnaa
