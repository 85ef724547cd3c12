/- The law FnScans answers true for every slice of bytes: the walk. -/
import Derived.Test.YtoabohllphoioaaDraw6d
import Derived.Test.YtoabohllphoioaaScan6
import Derived.Test.YtoabohllphoioaaImpl6c
import Derived.Test.YtoabohllphoioaaImpl2b
import Derived.Test.YtoabohllphoioaaLwBig
namespace Go.Proofs.Ytoabohllphoioaa
open Go.RowKit

theorem fldRR0 (x y : Value) (w : World) : (Instr.field 31 (.agg #[x, y]) 0).run Try.prog w = .ok x w := by kernel_rfl
theorem fldRR1 (x y : Value) (w : World) : (Instr.field 31 (.agg #[x, y]) 1).run Try.prog w = .ok y w := by kernel_rfl
theorem fldIR1 (x y : Value) (w : World) : (Instr.field 36 (.agg #[x, y]) 1).run Try.prog w = .ok y w := by kernel_rfl
/-- What stands through the law. -/
structure SC (w : World) (p : Pl) (A : Option Addr) (c : Nat) (fp : List Nat) (gp : Nat) (C : Int) (S : List R) (B : Option Addr) (d : Nat) (fq : List Nat) (gs : Nat) (W : World) : Prop where
  bel : Below w.heap.size w W
  pl : PlAt W p (.slice A p.fs.length c) fp
  bp : W.heap[gp]? = some (.cells #[.slice A p.fs.length c, .int .i64 p.mark] 26 (0, 0))
  bs : W.heap[gs]? = some (.cells #[.int .i64 C, .slice B S.length d] 31 (0, 0))
  rs : Rd W 4 (.slice B S.length d) (rcs S) fq
theorem SC.below' {w : World} {p : Pl} {A : Option Addr} {c : Nat} {fp : List Nat} {gp : Nat} {C : Int} {S : List R} {B : Option Addr} {d : Nat} {fq : List Nat} {gs : Nat} {W W' : World}
    (h : SC w p A c fp gp C S B d fq gs W) (hb : Below W.heap.size W W') : SC w p A c fp gp C S B d fq gs W' :=
  ⟨h.bel.trans (hb.mono h.bel.size), h.pl.below' hb, (hb.block _ (heap_lt h.bp)).trans h.bp, (hb.block _ (heap_lt h.bs)).trans h.bs, h.rs.below' hb⟩

theorem SC.belowM {w : World} {p : Pl} {A : Option Addr} {c : Nat} {fp : List Nat} {gp : Nat} {C : Int} {S : List R} {B : Option Addr} {d : Nat} {fq : List Nat} {gs M : Nat} {W W' : World}
    (h : SC w p A c fp gp C S B d fq gs W) (hb : Below M W W') (h1 : ∀ x ∈ fp, x < M) (h2 : ∀ x ∈ fq, x < M) (h3 : gp < M) (h4 : gs < M) (h5 : w.heap.size ≤ M) : SC w p A c fp gp C S B d fq gs W' :=
  ⟨h.bel.trans (hb.mono h5), ⟨h.pl.f.below hb h1⟩, (hb.block _ h3).trans h.bp, (hb.block _ h4).trans h.bs, h.rs.below hb h2⟩
theorem own_belowS {w w' : World} {base n : Nat} {T : TypeId} {v : Value} {xs : List Value} (hb : Below w.heap.size w w') (ho : w.ownsRow base T 4 v n xs) : w'.ownsRow base T 4 v n xs := by
  refine ⟨ho.1, ?_⟩
  rcases ho.2 with h0 | ⟨g, cap, cur, h1, h2, h3, h4⟩
  · exact .inl h0
  · exact .inr ⟨g, cap, cur, h1, h2, (hb.block _ (heap_lt h3)).trans h3, h4⟩

set_option maxRecDepth 100000 in
set_option maxHeartbeats 16000000 in
theorem lawScans_c (a : Option Addr) (len cp : Nat) (z : List Int) (w : World) (h0 : IsRow .u8 w a len cp z) :
    Calls Try.prog 3 #[.slice a len cp] w fun e w' => e = .returned (.bool true) ∧ Below w.heap.size w w' := by
  have hlen := h0.len
  have hby := h0.byt
  obtain ⟨fp, hr⟩ := h0.rd
  clear h0
  generalize z.take len = zs at *
  subst hlen
  clear z
  have hmax := hr.len_le
  by_cases hbig : 1048576 < zs.length
  · have HBD := Lib.hid (show decide (1048576 < zs.length) = true by simp [hbig])
    go_enter Try.func3, Try.ntmps3
    go_wp2_with fail
    refine (bigCode_c _ _ _ _ hmax).mono ?_
    rintro e w1 ⟨rfl, rfl⟩
    rw [HBD.out]
    go_wp2
    go_ret
    exact ⟨rfl, Below.refl _ _⟩
  · have hs : zs.length ≤ 1048576 := by omega
    have HBD := Lib.hid (show decide (1048576 < zs.length) = false by simp [hs])
    have HCR := Lib.hid hr; have HBY := Lib.hid hby
    clear hr hby hbig
    go_enter Try.func3, Try.ntmps3
    go_wp2_with fail
    refine (bigCode_c _ _ _ _ hmax).mono ?_
    rintro e w0 ⟨rfl, rfl⟩
    rw [HBD.out]
    go_wp2_with fail
    refine (drawScanPlaces_c a cp zs w fp HCR.out HBY.out hs).mono ?_
    rintro e w1 ⟨p, vf, fP, f, m, rfl, hp, _, _, hm, hmk, hsz, hf, hm2, hb1⟩
    obtain ⟨A, c, rfl⟩ := hp.form
    have HWF : Hid (WfF p.fs) := fun l hl r hr => (hm l hl r hr).wf
    have HMK := Lib.hid (wf_mild hmk)
    have hps : plsz p ≤ 1048576 := by omega
    have B1 := Lib.hid (below_more hb1 (.cells #[.slice A p.fs.length c, .int .i64 p.mark] 26))
    have P1 := Lib.hid (hp.alloc (.cells #[.slice A p.fs.length c, .int .i64 p.mark] 26))
    have G1 := Lib.hid (heap_new w1 (.cells #[.slice A p.fs.length c, .int .i64 p.mark] 26) rfl)
    clear hp hm hb1
    go_wp2_with fail
    generalize w1.alloc (.cells #[.slice A p.fs.length c, .int .i64 p.mark] 26) = W1 at *
    generalize w1.heap.size = gp at *
    have hSl := scL_len p f m
    generalize hC : scC p f m = C
    generalize hS : scL p f m = S at *
    have HC := Lib.hid hC; have HS := Lib.hid hS; clear hC hS
    refine (implScanPlaces_a p _ f m W1 fP hps HMK.out HWF.out (wf_mild hf) (wf_mild hm2) P1.out).mono ?_
    rw [HC.out, HS.out]
    rintro e w2 ⟨_, rfl, ⟨vS, fS, rfl, hrS, _, _⟩, hb2⟩
    obtain ⟨B, d, rfl⟩ := hrS.rows_form
    have HSC := Lib.hid (show SC w p A c fP gp C S B d fS w2.heap.size (w2.alloc (.cells #[.int .i64 C, .slice B S.length d] 31)) from
      ⟨below_more (B1.out.trans (hb2.mono B1.out.size)) _, (P1.out.below' hb2).alloc _, heap_old ((hb2.block _ (heap_lt G1.out)).trans G1.out), heap_new w2 _ rfl, hrS.alloc _⟩)
    clear hrS hb2 B1 P1 G1
    by_cases hC0 : C = 0
    case neg =>
      have tc : (C != 0) = true := by simpa using hC0
      have t3 : (C == C) = true := by simp
      have fr0 := fldRR0
      go_wp2_with fail
      generalize w2.alloc (.cells #[.int .i64 C, .slice B S.length d] 31) = W2 at *
      generalize w2.heap.size = gs at *
      obtain ⟨c0, c1, _, _, hzc⟩ := two_at HSC.out.bp
      obtain ⟨s0, s1, _, _, hzs⟩ := two_at HSC.out.bs
      go_region_held3 (fun w' => w'.cell? ⟨gp, 0, none⟩ = some (.slice A p.fs.length c) ∧ w'.cell? ⟨gp, 1, none⟩ = some (.int .i64 p.mark) ∧ w'.cell? ⟨gs, 0, none⟩ = some (.int .i64 C))
        (first
          | go_keep
          | exact ⟨(hq1.cell (p := ⟨gp, 0, none⟩) hzc).trans c0, (hq1.cell (p := ⟨gp, 1, none⟩) hzc).trans c1, (hq1.cell (p := ⟨gs, 0, none⟩) hzs).trans s0⟩)
        (first
          | (go_at_call 18
             refine (specScanPlaces_r p _ f m _ fP hps (HSC.out.pl.below' (Below.refl _ _).drew)).mono ?_
             rw [HC.out, HS.out]
             rintro e u1 ⟨_, rfl, ⟨vs, fs, rfl, _, _, _⟩, hbq⟩
             have hq1 : Below W2.heap.size W2 u1 := (Below.refl _ _).drew.trans hbq
             clear hbq))
      have HE := Lib.hid (HSC.out.below' hq1).bel
      clear hq1
      go_wp2_with fail
      go_ret
      exact ⟨rfl, HE.out⟩
    subst hC0
    obtain ⟨hpz, hm12⟩ : placesF p = 0 ∧ (1 ≤ m ∧ m ≤ 12) := by
      have h := HC.out
      unfold scC at h
      split at h
      · rename_i hz
        split at h
        · split at h
          · rename_i h3; exact ⟨hz, inB_true.1 h3⟩
          · cases h
        · cases h
      · rename_i hz; exact absurd h hz
    have HPZ := Lib.hid hpz
    have hRI : riC p = 0 ∧ riL p = p.fs.flatten := by unfold riC riL; rw [hpz]; exact ⟨rfl, rfl⟩
    have hL12 : p.fs.flatten.length ≤ 12 := by rw [flat_tot]; exact (placesF_zero hpz).2.2.2.2
    have hFit := files_fits hpz
    have hrow : Hid (∀ r ∈ p.fs.flatten, WfR r) := fun r hr => by
      obtain ⟨l, hl, hr⟩ := List.mem_flatten.1 hr
      exact HWF.out l hl r hr
    have hsR := fun j hj => sc_round hpz m hm12 j hj
    generalize hL : p.fs.flatten = L at *
    have HSR := Lib.hid hsR; have HRI := Lib.hid hRI; have HFit := Lib.hid hFit
    have HLE := Lib.hid hL
    clear hsR hRI hFit hpz hL
    obtain ⟨i0, hi, hz, hsz0, hbt⟩ := infoRow
    go_wp2_with fail
    have HSC0 := Lib.hid (HSC.out.below' (below_new (.cells #[] 34)))
    have hM := HSC.out.bel.size
    have hMz : (w2.alloc (.cells #[.int .i64 0, .slice B S.length d] 31)).heap.size = w2.heap.size + 1 := by simp
    have HO0 : Hid (((w2.alloc (.cells #[.int .i64 0, .slice B S.length d] 31)).alloc (.cells #[] 34)).ownsRow (w2.heap.size + 1) 34 4 (.slice (some ⟨w2.heap.size + 1, 0, none⟩) 0 0) 0 (rcs (L.take 0))) := by
      have := own_emptyR (w := w2.alloc (.cells #[.int .i64 0, .slice B S.length d] 31)) (t := 34) (base := w2.heap.size + 1) (by omega)
      rw [hMz] at this
      have e2 : rcs (L.take 0) = [] := by simp [rcs]
      rw [e2]
      exact this
    have HPl : Hid (∀ b ∈ fP, b < w2.heap.size + 1) := fun b hb => by have := HSC.out.pl.lt b hb; omega
    have HSl : Hid (∀ b ∈ fS, b < w2.heap.size + 1) := fun b hb => by have := HSC.out.rs.lt b hb; omega
    have hgpl : gp < w2.heap.size + 1 := by have := heap_lt HSC.out.bp; omega
    have hMw : w.heap.size ≤ w2.heap.size + 1 := by omega
    have hM0 : w2.heap.size + 1 ≤ ((w2.alloc (.cells #[.int .i64 0, .slice B S.length d] 31)).alloc (.cells #[] 34)).heap.size := by simp
    generalize w2.alloc (.cells #[.int .i64 0, .slice B S.length d] 31) = W2 at *
    generalize w2.heap.size = gs at *
    clear hMz hM
    go_loopw [7, 8, 9] (fun v t i wr => ∃ (k j : Nat), k ≤ j ∧ j ≤ L.length ∧ i = .int .i64 k ∧ t = .int .i64 (atK L j) ∧ gs + 1 ≤ wr.heap.size ∧ Hid (wr.ownsRow (gs + 1) 34 4 v j (rcs (L.take j))) ∧ Hid (SC w p A c fP gp 0 S B d fS gs wr)) (fun _ _ i _ => 20 - (intOf i).toNat)
    case atStart => exact ⟨0, 0, Nat.le_refl _, Nat.zero_le _, rfl, rfl, hM0, HO0, HSC0⟩
    case round =>
      clear HSC HSC0 HO0
      obtain ⟨k, j, hkj, hjL, rfl, rfl, hMr, HO, HSC⟩ := hrel
      have hk14 : (k : Int) < 14 := by omega
      obtain ⟨c0, c1, _, _, hzc⟩ := two_at HSC.out.bp
      obtain ⟨hr1, hr2⟩ := atK_range HFit.out j
      obtain ⟨e1, e2⟩ := HSR.out j hjL
      go_wp2_with fail
      refine (implScanPlaces_a p _ (atK L j) m wr fP hps HMK.out HWF.out (wf_mild (by omega)) (wf_mild hm2) HSC.out.pl).mono ?_
      rw [e1, e2]
      rintro e w3 ⟨_, rfl, ⟨vX, fX, rfl, hrX, _, hfX⟩, hb3⟩
      obtain ⟨BX, dX, rfl⟩ := hrX.rows_form
      have hcl : cap m (L.length - j) ≤ L.length - j := cap_le _ _
      have hcp : cap m (L.length - j) = 0 ↔ L.length - j = 0 := cap_pos hm12.1
      have hlen : ((L.drop j).take (cap m (L.length - j))).length = cap m (L.length - j) := by rw [List.length_take, List.length_drop]; omega
      have hmore := sc_more (L := L) (m := m) hjL
      generalize cap m (L.length - j) = q at *
      generalize hX : (L.drop j).take q = X at *
      have HX := Lib.hid hX; have HMO := Lib.hid hmore
      clear hX hmore e1 e2 c0 c1 hzc
      subst hlen
      have HS3 := Lib.hid ((HSC.out.below' hb3).below' (below_new (.cells #[.int .i64 0, .slice BX X.length dX] 31)))
      have HO3 : Hid ((w3.alloc (.cells #[.int .i64 0, .slice BX X.length dX] 31)).ownsRow (gs + 1) 34 4 u7 j (rcs (L.take j))) := own_belowS (below_more hb3 _) HO.out
      have HR3 := Lib.hid (hrX.alloc (.cells #[.int .i64 0, .slice BX X.length dX] 31))
      have GX3 := Lib.hid (heap_new w3 (.cells #[.int .i64 0, .slice BX X.length dX] 31) rfl)
      have hsz3 : wr.heap.size ≤ w3.heap.size := hb3.size
      have hap : ∀ b ∈ fX, u7.ownBlock ≠ some b := fun b hb he => by have := hfX b hb; have := own_lt6 HO.out he; omega
      have HAP := Lib.hid hap
      clear hrX hb3 HSC HO hfX hap
      by_cases hX0 : X.length = 0
      · have t0 : ((X.length : Int) == 0) = true := by simp [hX0]
        have hjE : j = L.length := by omega
        obtain ⟨x0, x1, _, _, hzx⟩ := two_at GX3.out
        clear hX0 hcp
        subst hjE
        have hall := HO3.out
        rw [List.take_length] at hall
        obtain ⟨fa, hra, _, _⟩ := Rd.of_own hall
        obtain ⟨Aa, ca, rfl⟩ := hra.rows_form
        have HRA := Lib.hid hra
        clear hra hall HO3
        have hSm : (S.length : Int) ≤ m := by
          rw [← HS.out]
          unfold scL
          split
          · rw [List.length_take]; unfold cap; split <;> omega
          · simp; omega
        have hSW : Hid (∀ r ∈ S, WfR r) := fun r hr => by
          rw [← HS.out] at hr
          unfold scL at hr
          split at hr
          · have h1 := List.mem_of_mem_take hr
            unfold cutR at h1
            have h2 := (List.mem_filter.1 h1).1
            rw [HLE.out] at h2
            exact hrow.out r h2
          · simp at hr
        have hLb : L.length ≤ 1048576 := by omega
        have hSb : S.length ≤ 1048576 := by omega
        have tL : decide (L = L) = true := by simp
        have tS : decide (S = S) = true := by simp
        have fr1 := fldRR1
        go_wp2_with fail
        generalize w3.alloc (.cells #[.int .i64 0, .slice BX X.length dX] 31) = W3 at *
        clear x0 x1 hzx GX3 HR3
        obtain ⟨c0, c1, _, _, hzc⟩ := two_at HS3.out.bp
        obtain ⟨s0, s1, _, _, hzs⟩ := two_at HS3.out.bs
        go_region_held3 (fun w' => w'.cell? ⟨gp, 0, none⟩ = some (.slice A p.fs.length c) ∧ w'.cell? ⟨gp, 1, none⟩ = some (.int .i64 p.mark) ∧ w'.cell? ⟨gs, 1, none⟩ = some (.slice B S.length d))
          (first
            | go_keep
            | (refine ⟨(Below.cell (w := W3) (p := ⟨gp, 0, none⟩) ?_ hzc).trans c0, (Below.cell (w := W3) (p := ⟨gp, 1, none⟩) ?_ hzc).trans c1, (Below.cell (w := W3) (p := ⟨gs, 1, none⟩) ?_ hzs).trans s1⟩ <;> (first | with_reducible exact hq4 | with_reducible exact hq3 | with_reducible exact hq2 | with_reducible exact hq1)))
          (first
            | (go_at_call 21
               refine (implRowsIn_a p _ _ fP hps HMK.out HWF.out (HS3.out.pl.below' (Below.refl _ _).drew)).mono ?_
               rw [HRI.out.1, HRI.out.2]
               rintro e y1 ⟨_, rfl, ⟨vy, fy, rfl, hry, _, _⟩, hbq⟩
               obtain ⟨Ay, cy, hvy⟩ := hry.rows_form
               subst hvy
               have hq1 : Below W3.heap.size W3 y1 := (Below.refl _ _).drew.trans hbq
               clear hbq)
            | (go_at_call 20
               refine (implSameRows_a B Az d cz S S _ fS fz hSb hSb hSW.out hSW.out (HS3.out.rs.below' hq3) hrz).mono ?_
               rintro e y4 ⟨rfl, hbq⟩
               have hq4 : Below W3.heap.size W3 y4 := hq3.trans (hbq.mono hq3.size)
               clear hbq)
            | (go_at_call 20
               refine (implSameRows_a Aa Ay ca cy L L _ fa fy hLb hLb hrow.out hrow.out (HRA.out.below' hq1) hry).mono ?_
               rintro e y2 ⟨rfl, hbq⟩
               have hq2 : Below W3.heap.size W3 y2 := hq1.trans (hbq.mono hq1.size)
               clear hbq)
            | (go_at_call 18
               refine (specScanPlaces_r p _ f m _ fP hps (HS3.out.pl.below' hq2)).mono ?_
               rw [HC.out, HS.out]
               rintro e y3 ⟨_, rfl, ⟨vz, fz, rfl, hrz, _, _⟩, hbq⟩
               obtain ⟨Az, cz, hvz⟩ := hrz.rows_form
               subst hvz
               have hq3 : Below W3.heap.size W3 y3 := hq2.trans (hbq.mono hq2.size)
               clear hbq))
        have HE := Lib.hid (HS3.out.below' hq4).bel
        clear hq1 hq2 hq3 hq4
        go_wp2_with fail
        go_ret
        exact ⟨rfl, HE.out⟩
      · have t0 : ((X.length : Int) == 0) = false := by simpa using hX0
        obtain ⟨x0, x1, _, _, hzx⟩ := two_at GX3.out
        have hq1 : X.length ≤ 12 := by omega
        go_wp2_with (at_builtin; refine wpList_append_rd rfl _ _ 29 rfl (gs + 1) 34 i0 (rv (0, 0, 0, 0)) 4 32 Try.underlying29 hi hz hsz0 hbt rfl (by decide) _ j _ rfl HO3.out BX X.length dX (rcs X) fX rfl HR3.out (rcs_one X) ?d1 ?d2 ?d3 ?_)
        case d1 => unfold maxLen; omega
        case d2 => omega
        case d3 => simp; omega
        intro v4 w4 hown4 hgrow4
        have hb4 : Below (gs + 1) (w3.alloc (.cells #[.int .i64 0, .slice BX X.length dX] 31)) w4 :=
          ⟨hgrow4.os, hgrow4.tape, hgrow4.output, hgrow4.size, fun k hk => hgrow4.block k (by simp; omega) (fun e => by have := own_base' HO3.out e.symm; omega)⟩
        have HS4 := Lib.hid (HS3.out.belowM hb4 HPl.out HSl.out hgpl (by omega) hMw)
        have GX4 := Lib.hid ((hgrow4.block _ (heap_lt GX3.out) (fun e => own_ne HO3.out GX3.out (by decide) e.symm)).trans GX3.out)
        have hr4 := HR3.out.keep hgrow4.size fun b hb => hgrow4.block b (HR3.out.lt b hb) (fun e => HAP.out b hb e.symm)
        rw [← rcs_append, HMO.out] at hown4
        have HO4 := Lib.hid hown4
        have hs4 : gs + 1 ≤ w4.heap.size := by have := hgrow4.size; simp at this; omega
        obtain ⟨n, hn⟩ : ∃ n : Nat, X.length = n + 1 := ⟨X.length - 1, by omega⟩
        have hnl : n < X.length := by omega
        obtain ⟨b, off, hA, _, hbl, p0, p1, p2, p3⟩ := hr4.row_at hnl
        subst hA
        have hat : atK L (j + X.length) = keyR X[n] + 1 := by
          rw [atK_pos (by omega) (by omega)]
          have : X[n] = L[j + X.length - 1]'(by omega) := by
            have hx := HX.out
            have e1 : X[n]? = L[j + n]? := by
              rw [← hx, List.getElem?_take, if_pos (by omega), List.getElem?_drop]
            rw [List.getElem?_eq_getElem hnl, List.getElem?_eq_getElem (show j + n < L.length by omega)] at e1
            injection e1 with e1
            rw [e1]
            congr 1
            omega
          rw [this]
        have hmemX : X[n] ∈ L := by
          have hx := HX.out
          have : X[n] ∈ (L.drop j).take X.length := by rw [hx]; exact List.getElem_mem hnl
          exact List.mem_of_mem_drop (List.mem_of_mem_take this)
        have hfx : Fit X[n] := by
          obtain ⟨i, hi, e⟩ := List.mem_iff_getElem.1 hmemX
          rw [← e]; exact HFit.out i hi
        have hwx := hrow.out _ hmemX
        generalize X[n] = r at *
        clear x0 x1 hzx hgrow4 hb4
        obtain ⟨x0, x1, _, _, hzx⟩ := two_at GX4.out
        have hni : (X.length : Int) = (n : Int) + 1 := by omega
        go_wp2_with fail
        have hkb : 1 ≤ keyR r ∧ keyR r ≤ 83 := by unfold Fit at hfx; unfold keyR; omega
        have hk0 : keyP r.1 r.2.1 = (0, keyR r) := by
          unfold keyP isB
          rw [inB_true.2 ⟨hfx.1, hfx.2.1⟩, inB_true.2 ⟨hfx.2.2.1, hfx.2.2.2⟩]
          rfl
        refine (implKeyOf_a r.1 r.2.1 _ hwx.1 hwx.2.1).mono ?_
        rw [hk0]
        rintro e w5 ⟨rfl, hb5⟩
        have HS5 := Lib.hid ((HS4.out.below' (below_new (.cells #[.int .i64 r.1, .int .i64 r.2.1, .int .i64 r.2.2.1, .int .i64 r.2.2.2] 34))).below' hb5)
        have HO5 := Lib.hid (own_belowS hb5 (own_belowS (below_new (.cells #[.int .i64 r.1, .int .i64 r.2.1, .int .i64 r.2.2.1, .int .i64 r.2.2.2] 34)) HO4.out))
        have hs5 : gs + 1 ≤ w5.heap.size := by have := hb5.size; simp at this; omega
        have fi1 := fldIR1
        clear hb5 x0 x1 hzx
        unfold pairV
        go_wp2_with fail
        exact ⟨⟨k + 1, j + X.length, by omega, by omega, by go_num, by rw [hat], hs5, HO5, HS5⟩, by simp [intOf]; omega⟩
end Go.Proofs.Ytoabohllphoioaa
