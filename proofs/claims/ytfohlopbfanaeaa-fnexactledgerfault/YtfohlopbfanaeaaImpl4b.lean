/-
  Contracts of the program's functions of chapter 4, second part: faults of a book, what is free, held, in total.
-/
import Derived.Test.YtfohlopbfanaeaaImpl4a
namespace Go.Proofs.Ytfohlopbfanaeaa
open Go.RowKit

theorem any_get {rs : List R} {l s : Int} (hfit : ∀ x ∈ rs, Fit x) (hf : Fit (l, s, 0, 0)) : (rs.any fun x => keyR x == keyR (l, s, 0, 0)) = (getR rs l s).isSome := by
  have key : ∀ r : R, Fit r → (keyR r == keyR (l, s, 0, 0)) = (decide (r.1 = l) && decide (r.2.1 = s)) := by
    intro r h1
    unfold Fit at h1 hf
    simp only at hf
    rw [Bool.eq_iff_iff]
    simp [keyR]
    omega
  unfold getR
  induction rs with
  | nil => rfl
  | cons r t ih =>
    have ih := ih (fun x hx => hfit x (List.mem_cons_of_mem _ hx))
    rw [List.any_cons, List.find?_cons, key r (hfit r (by simp))]
    cases (decide (r.1 = l) && decide (r.2.1 = s))
    · simpa using ih
    · rfl

set_option maxRecDepth 100000 in
set_option maxHeartbeats 4000000 in
theorem matchFault_c (A B : Option Addr) (c d : Nat) (rs : List R) (hs : List Hd) (w : World) (fa fb : List Nat) (h2 : rowsF rs = 0) (h3 : holdsF hs = 0)
    (ha : Rd w 4 (.slice A rs.length c) (rcs rs) fa) (hb : Rd w 5 (.slice B hs.length d) (ecs hc hs) fb) :
    Calls Try.prog 59 #[.slice A rs.length c, .slice B hs.length d] w fun e w' => e = .returned (.int .i64 (restR rs hs 0)) ∧ Below w.heap.size w w' := by
  have hmaxa := ha.len_le
  have hmaxb := hb.len_le
  have hfr : ∀ x ∈ rs, Fit x := fun x hx => fit_of_rowF (rowsF_mem h2 x hx)
  obtain ⟨hfh, hlh⟩ := holdsF_fits h3
  have HFR := Lib.hid hfr; have HFH := Lib.hid hfh; have H3 := Lib.hid h3; have HA := Lib.hid ha; have HBB := Lib.hid hb
  clear hfr hfh h2 h3 ha hb
  generalize hV : restR rs hs 0 = V
  have HV := Lib.hid hV; clear hV
  go_enter Try.func59, Try.ntmps59
  go_wp2
  go_loopw [11] (fun i wr => ∃ (k : Nat), k ≤ rs.length ∧ i = .int .i64 k ∧ Hid (Below w.heap.size w wr) ∧ Hid (restR rs hs k = V)) (fun i _ => rs.length - (intOf i).toNat)
  case atStart => exact ⟨0, Nat.zero_le _, rfl, Below.refl _ _, HV.out⟩
  case round =>
    clear HV
    obtain ⟨k, hk, rfl, HB, HRS⟩ := hrel
    by_cases hlt : k < rs.length
    · obtain ⟨b1, o1, hA, _, hl1, p0, p1, p2, p3⟩ := (HA.out.below' HB.out).row_at hlt
      subst hA
      have hok := @restR_ok rs hs k hlt
      have hbad := @restR_bad rs hs k hlt
      generalize rs[k] = x at *
      generalize hQ : heldS hs x.1 x.2.1 = Q at *
      generalize hD : (x.2.2.2 != Q) = D
      obtain ⟨y0, y1, y2, y3, _, _, _, _, hy⟩ := four_at (heap_new wr (rbox x) rfl)
      have HBN := Lib.hid (below_more HB.out (rbox x))
      have HBR := Lib.hid (HBB.out.below' HBN.out)
      have HQ := Lib.hid hQ; have HOK := Lib.hid hok; have HBAD := Lib.hid hbad
      have hD2 := hD
      have HD := Lib.hid hD2
      clear hQ hok hbad HB hD2
      go_wp2_with fail
      generalize wr.alloc (rbox x) = w1 at *
      go_region_held3 (fun w' => w'.cell? ⟨wr.heap.size, 0, none⟩ = some (.int .i64 x.1) ∧ w'.cell? ⟨wr.heap.size, 1, none⟩ = some (.int .i64 x.2.1) ∧ w'.cell? ⟨wr.heap.size, 2, none⟩ = some (.int .i64 x.2.2.1) ∧ w'.cell? ⟨wr.heap.size, 3, none⟩ = some (.int .i64 x.2.2.2))
        (first
          | go_keep
          | (refine ⟨(Below.cell (w := w1) (p := ⟨wr.heap.size, _, none⟩) ?_ hy).trans y0, (Below.cell (w := w1) (p := ⟨wr.heap.size, _, none⟩) ?_ hy).trans y1, (Below.cell (w := w1) (p := ⟨wr.heap.size, _, none⟩) ?_ hy).trans y2, (Below.cell (w := w1) (p := ⟨wr.heap.size, _, none⟩) ?_ hy).trans y3⟩ <;> (first | with_reducible exact hq2 | with_reducible exact hq1)))
        (first
          | (go_at_call 98
             refine (rowSpot_c x _).mono ?_
             rintro e z1 ⟨rfl, hbq⟩
             have hq1 : Below w1.heap.size w1 z1 := (Below.refl _ _).drew.trans hbq
             clear hbq)
          | (go_at_call 97
             refine (heldAt_c B d hs x.1 x.2.1 _ fb H3.out (HBR.out.below' hq1)).mono ?_
             rintro e z2 ⟨rfl, hbq⟩
             rw [HQ.out]
             have hq2 : Below w1.heap.size w1 z2 := hq1.trans (hbq.mono hq1.size)
             clear hbq))
      have HB9 := Lib.hid (HBN.out.trans (hq2.mono HBN.out.size))
      clear hq1 hq2 y0 y1 y2 y3 hD
      cases D
      · have he : x.2.2.2 = Q := by have := HD.out; simpa using this
        have HN := Lib.hid ((HOK.out he).symm.trans HRS.out)
        clear he HOK HBAD HRS HQ HD
        go_wp2_with fail
        exact ⟨⟨k + 1, by omega, by go_num, HB9.out, HN.out⟩, by simp [intOf]; omega⟩
      · have he : x.2.2.2 ≠ Q := by have := HD.out; simpa using this
        have HN := Lib.hid ((HBAD.out he).symm.trans HRS.out)
        clear he HOK HBAD HRS HQ HD
        go_wp2_with fail
        go_ret
        exact ⟨congrArg (fun z => Ending.returned (Value.int .i64 z)) HN.out, HB9.out⟩
    · obtain rfl : k = rs.length := by omega
      have HV := Lib.hid ((restR_end rs hs).symm.trans HRS.out)
      clear HRS
      go_wp2_with fail
      go_loopw [25] (fun i wr => ∃ (k : Nat), k ≤ hs.length ∧ i = .int .i64 k ∧ Hid (Below w.heap.size w wr) ∧ Hid (restH rs hs k = V)) (fun i _ => hs.length - (intOf i).toNat)
      case atStart => exact ⟨0, Nat.zero_le _, rfl, HB, HV⟩
      case round =>
        clear HB HV
        obtain ⟨k, hk, rfl, HB, HRS⟩ := hrel
        by_cases hlt : k < hs.length
        · obtain ⟨b1, o1, hA, _, hl1, p0, p1, p2, p3, p4⟩ := (HBB.out.below' HB.out).hold_at hlt
          subst hA
          have hok := @restH_ok rs hs k hlt
          have hbad := @restH_bad rs hs k hlt
          have hfx := HFH.out hs[k] (List.getElem_mem hlt)
          generalize hs[k] = x at *
          have hfit : Fit (x.lc, x.sk, 0, 0) := by unfold FitH at hfx; unfold Fit; simp only; omega
          have hany := any_get HFR.out hfit
          generalize (getR rs x.lc x.sk).isSome = D at *
          have HBN := Lib.hid (below_more HB.out (hbox x))
          have HAR := Lib.hid (HA.out.below' HBN.out)
          have HFX := Lib.hid hfit; have HANY := Lib.hid hany; have HOK := Lib.hid hok; have HBAD := Lib.hid hbad
          clear hfx hfit hany hok hbad
          go_wp2_with fail
          refine (rowKey_b (x.lc, x.sk, 0, 0) _ HFX.out).mono ?_
          rintro e z1 ⟨rfl, hb1⟩
          have HB1 := Lib.hid (HBN.out.trans (hb1.mono HBN.out.size))
          have HAR1 := Lib.hid (HAR.out.below' hb1)
          clear hb1
          go_wp2_with fail
          refine (hasKey_c A c rs (keyR (x.lc, x.sk, 0, 0)) _ fa HFR.out HAR1.out).mono ?_
          rintro e z2 ⟨rfl, hb2⟩
          rw [HANY.out]
          have HB2 := Lib.hid (HB1.out.trans (hb2.mono HB1.out.size))
          clear hb2
          cases D
          · have HN := Lib.hid ((HBAD.out rfl).symm.trans HRS.out)
            clear HOK HBAD HRS HANY
            go_wp2_with fail
            go_ret
            exact ⟨congrArg (fun z => Ending.returned (Value.int .i64 z)) HN.out, HB2.out⟩
          · have HN := Lib.hid ((HOK.out rfl).symm.trans HRS.out)
            clear HOK HBAD HRS HANY
            go_wp2_with fail
            exact ⟨⟨k + 1, by omega, by go_num, HB2.out, HN.out⟩, by simp [intOf]; omega⟩
        · obtain rfl : k = hs.length := by omega
          have HN := Lib.hid ((restH_end rs hs).symm.trans HRS.out)
          clear HRS
          go_wp2_with fail
          go_ret
          exact ⟨congrArg (fun z => Ending.returned (Value.int .i64 z)) HN.out, HB.out⟩

def AskBookFault : Prop := ∀ (b : Bk) (vr vh : Value) (fa fb : List Nat) (w : World), bsz b ≤ 1048576 → (Lit.int .i64 b.now).wf = true → (∀ r ∈ b.rs, WfR r) → (∀ h ∈ b.hs, WfH h) → BkAt w b vr vh fa fb →
  Calls Try.prog 17 #[bv b.now vr vh] w fun e w' => e = .returned (.int .i64 (bookF b)) ∧ Below w.heap.size w w'

set_option maxRecDepth 100000 in
set_option maxHeartbeats 2000000 in
theorem implBookFault_a : AskBookFault := by
  intro b vr vh fa fb w hs _ hwr _ hk
  obtain ⟨now, rs, hs'⟩ := b
  obtain ⟨A, c, B, d, rfl, rfl⟩ := hk.form
  have hs1 : rs.length ≤ 1048576 := by unfold bsz at hs; simp only at hs; omega
  have HR := Lib.hid hk.r; have HH := Lib.hid hk.h; have HWR := Lib.hid hwr
  clear hk hs hwr
  show Calls Try.prog 17 #[bv now (.slice A rs.length c) (.slice B hs'.length d)] w _
  simp only at HR HH HWR ⊢
  rcases tri now 0 9999 with u | ⟨u, u'⟩ | ⟨u, u'⟩
  · rw [bookF_now (inB_false.2 (.inl u))]
    go_enter Try.func17, Try.ntmps17
    go_wp2
    go_ret
    exact ⟨rfl, below_new _⟩
  · rw [bookF_now (inB_false.2 (.inr u'))]
    go_enter Try.func17, Try.ntmps17
    go_wp2
    go_ret
    exact ⟨rfl, below_new _⟩
  · have h1 : inB now 0 9999 = true := inB_true.2 ⟨u, u'⟩
    generalize hV : bookF ⟨now, rs, hs'⟩ = V
    have HV := Lib.hid hV; have H1 := Lib.hid h1; clear hV h1
    go_enter Try.func17, Try.ntmps17
    go_wp2_with fail
    refine (implRowsFault_a A c rs _ fa hs1 HWR.out (HR.out.alloc _)).mono ?_
    rintro e w1 ⟨rfl, hb1⟩
    have hg1 := newest hb1 (by simp)
    obtain ⟨c0, c1, c2, _, _, _, hz⟩ := three_at hg1
    have HB1 := Lib.hid ((below_new _).trans (hb1.mono (by simp)) : Below w.heap.size w w1)
    have HG1 := Lib.hid hg1
    clear hb1 hg1
    by_cases h2 : rowsF rs = 0
    case neg =>
      have hv : rowsF rs = V := (bookF_rows H1.out h2).symm.trans HV.out
      have HVV := Lib.hid hv
      have t1 : (rowsF rs != 0) = true := by simpa using h2
      clear hv h2
      go_wp2
      go_ret
      exact ⟨congrArg (fun z => Ending.returned (Value.int .i64 z)) HVV.out, HB1.out⟩
    rw [h2]
    have H2 := Lib.hid h2; clear h2
    go_wp2_with fail
    refine (holdsFault_c B d hs' _ fb (HH.out.below' HB1.out)).mono ?_
    rintro e w2 ⟨rfl, hb2⟩
    have hg2 := (hb2.block _ (heap_lt HG1.out)).trans HG1.out
    have HB2 := Lib.hid (HB1.out.trans (hb2.mono HB1.out.size))
    clear hb2 c0 c1 c2 hz
    obtain ⟨c0, c1, c2, _, _, _, hz⟩ := three_at hg2
    clear hg2
    by_cases h3 : holdsF hs' = 0
    case neg =>
      have hv : holdsF hs' = V := (bookF_holds H1.out H2.out h3).symm.trans HV.out
      have HVV := Lib.hid hv
      have t1 : (holdsF hs' != 0) = true := by simpa using h3
      clear hv h3
      go_wp2
      go_ret
      exact ⟨congrArg (fun z => Ending.returned (Value.int .i64 z)) HVV.out, HB2.out⟩
    rw [h3]
    have HVV := Lib.hid ((bookF_rest H1.out H2.out h3).symm.trans HV.out)
    have H3 := Lib.hid h3; clear h3
    go_wp2_with fail
    refine (matchFault_c A B c d rs hs' _ fa fb H2.out H3.out (HR.out.below' HB2.out) (HH.out.below' HB2.out)).mono ?_
    rintro e w3 ⟨rfl, hb3⟩
    have HB3 := Lib.hid (HB2.out.trans (hb3.mono HB2.out.size))
    clear hb3
    go_wp2
    go_ret
    exact ⟨congrArg (fun z => Ending.returned (Value.int .i64 z)) HVV.out, HB3.out⟩
end Go.Proofs.Ytfohlopbfanaeaa
