/-
  The model's functions of chapter 4, second part: the faults of a book.
-/
import Derived.Test.YtfohlopbfanaeaaSpec4a
namespace Go.Proofs.Ytfohlopbfanaeaa
open Go.RowKit

theorem l4Held_q (g : Nat) (now : Int) (vr : Value) (A : Option Addr) (c : Nat) (hs : List Hd) (l s Q : Int) (hq : heldS hs l s = Q) (w : World) (fp : List Nat) (hf : holdsF hs = 0)
    (hg : BoxAt w g (.int .i64 now) vr (.slice A hs.length c)) (ha : Rd w 5 (.slice A hs.length c) (ecs hc hs) fp) :
    Calls Try.prog 91 #[.pointer (some ⟨g, 0, none⟩), .int .i64 l, .int .i64 s] w fun e w' => e = .returned (.int .i64 Q) ∧ w' = w := by
  subst hq
  exact (l4Held_c g now vr A c hs l s w fp hf hg ha).mono fun _ _ ⟨h1, h2⟩ => ⟨h1, h2.symm⟩

/-- The first loop's rest, the second loop's rest. -/
def restR (rs : List R) (hs : List Hd) (k : Nat) : Int := if (rs.drop k).all (fun r => r.2.2.2 == heldS hs r.1 r.2.1) then (if holdsM rs hs then 0 else 4) else 7
def restH (rs : List R) (hs : List Hd) (k : Nat) : Int := if (hs.drop k).all (fun h => (getR rs h.lc h.sk).isSome) then 0 else 4
theorem restR_ok {rs : List R} {hs : List Hd} {k : Nat} (h : k < rs.length) (e : rs[k].2.2.2 = heldS hs rs[k].1 rs[k].2.1) : restR rs hs k = restR rs hs (k + 1) := by
  unfold restR; rw [all_step _ _ _ h, e, BEq.rfl, Bool.true_and]
theorem restR_bad {rs : List R} {hs : List Hd} {k : Nat} (h : k < rs.length) (e : rs[k].2.2.2 ≠ heldS hs rs[k].1 rs[k].2.1) : restR rs hs k = 7 := by
  unfold restR; rw [all_step _ _ _ h, beq_false_of_ne e]; rfl
theorem restR_end (rs : List R) (hs : List Hd) : restR rs hs rs.length = restH rs hs 0 := by
  unfold restR restH; rw [List.drop_length, List.drop_zero]; rfl
theorem restH_ok {rs : List R} {hs : List Hd} {k : Nat} (h : k < hs.length) (e : (getR rs hs[k].lc hs[k].sk).isSome = true) : restH rs hs k = restH rs hs (k + 1) := by
  unfold restH; rw [all_step _ _ _ h, e]; simp
theorem restH_bad {rs : List R} {hs : List Hd} {k : Nat} (h : k < hs.length) (e : (getR rs hs[k].lc hs[k].sk).isSome = false) : restH rs hs k = 4 := by
  unfold restH; rw [all_step _ _ _ h, e]; rfl
theorem restH_end (rs : List R) (hs : List Hd) : restH rs hs hs.length = 0 := by
  unfold restH; rw [List.drop_length]; rfl
theorem bookF_now {now : Int} {rs : List R} {hs : List Hd} (h : inB now 0 9999 = false) : bookF ⟨now, rs, hs⟩ = 3 := by simp [bookF, h]
theorem bookF_rows {now : Int} {rs : List R} {hs : List Hd} (h : inB now 0 9999 = true) (h2 : rowsF rs ≠ 0) : bookF ⟨now, rs, hs⟩ = rowsF rs := by simp [bookF, h, h2]
theorem bookF_holds {now : Int} {rs : List R} {hs : List Hd} (h : inB now 0 9999 = true) (h2 : rowsF rs = 0) (h3 : holdsF hs ≠ 0) : bookF ⟨now, rs, hs⟩ = holdsF hs := by simp [bookF, h, h2, h3]
theorem bookF_rest {now : Int} {rs : List R} {hs : List Hd} (h : inB now 0 9999 = true) (h2 : rowsF rs = 0) (h3 : holdsF hs = 0) : bookF ⟨now, rs, hs⟩ = restR rs hs 0 := by
  simp only [bookF, h, h2, h3, restR, matchF, rowsM, if_true, List.drop_zero]; rfl

set_option maxRecDepth 100000 in
set_option maxHeartbeats 4000000 in
theorem l4Fault_c (g : Nat) (now : Int) (A B : Option Addr) (c d : Nat) (rs : List R) (hs : List Hd) (w : World) (fa fb : List Nat)
    (hg : BoxAt w g (.int .i64 now) (.slice A rs.length c) (.slice B hs.length d))
    (ha : Rd w 4 (.slice A rs.length c) (rcs rs) fa) (hb : Rd w 5 (.slice B hs.length d) (ecs hc hs) fb) :
    Calls Try.prog 54 #[.pointer (some ⟨g, 0, none⟩)] w fun e w' => e = .returned (.int .i64 (bookF ⟨now, rs, hs⟩)) ∧ Below w.heap.size w w' := by
  have hmaxa := ha.len_le
  have hmaxb := hb.len_le
  obtain ⟨c0, c1, c2, _, _, _, hz⟩ := box_at hg
  have HG := Lib.hid hg; have HA := Lib.hid ha; have HB := Lib.hid hb
  clear hg ha hb
  cases h1 : inB now 0 9999
  · rw [bookF_now h1]
    go_enter Try.func54, Try.ntmps54
    go_wp2_with fail
    refine (l1In_b now 0 9999 _ h1 _).mono ?_
    rintro e w' ⟨rfl, hw⟩
    subst hw
    go_wp2
    go_ret
    exact ⟨rfl, Below.refl _ _⟩
  by_cases h2 : rowsF rs = 0
  case neg =>
    rw [bookF_rows h1 h2]
    generalize hr : rowsF rs = V at h2
    have HR := Lib.hid hr; clear hr
    go_enter Try.func54, Try.ntmps54
    go_wp2_with fail
    refine (l1In_b now 0 9999 _ h1 _).mono ?_
    rintro e w' ⟨rfl, hw⟩
    subst hw
    go_wp2_with fail
    refine (l2Fault_c A c rs _ fa HA.out).mono ?_
    rintro e w2 ⟨rfl, m, hw⟩
    rw [HR.out]
    have HW := Lib.hid hw; clear hw
    have t1 : (V != 0) = true := by simpa using h2
    go_wp2
    go_ret
    exact ⟨rfl, by rw [HW.out]; exact below_drewN' (Below.refl _ _) m⟩
  by_cases h3 : holdsF hs = 0
  case neg =>
    rw [bookF_holds h1 h2 h3]
    generalize hr : holdsF hs = V at h3
    have HR := Lib.hid hr; clear hr
    go_enter Try.func54, Try.ntmps54
    go_wp2_with fail
    refine (l1In_b now 0 9999 _ h1 _).mono ?_
    rintro e w' ⟨rfl, hw⟩
    subst hw
    go_wp2_with fail
    refine (l2Fault_c A c rs _ fa HA.out).mono ?_
    rintro e w2 ⟨rfl, m, hw⟩
    rw [h2]
    have q2 : w2.cell? ⟨g, 2, none⟩ = some (.slice B hs.length d) := by rw [hw]; exact c2
    have HB2 : Hid (Rd w2 5 (.slice B hs.length d) (ecs hc hs) fb) := by rw [hw]; exact HB.out.drewN m
    have HW := Lib.hid hw; clear hw
    go_wp2_with fail
    refine (l4Holds_c B d hs _ fb HB2.out).mono ?_
    rintro e w3 ⟨rfl, m3, hw⟩
    rw [HR.out]
    have HW3 := Lib.hid hw; clear hw
    have t1 : (V != 0) = true := by simpa using h3
    go_wp2
    go_ret
    exact ⟨rfl, by rw [HW3.out, HW.out]; exact below_drewN' (below_drewN' (Below.refl _ _) m) m3⟩
  rw [bookF_rest h1 h2 h3]
  have H1 := Lib.hid h1; have H2 := Lib.hid h2; have H3 := Lib.hid h3
  clear h1 h2 h3
  generalize hV : restR rs hs 0 = V
  have HV := Lib.hid hV; clear hV
  go_enter Try.func54, Try.ntmps54
  go_wp2_with fail
  refine (l1In_b now 0 9999 _ H1.out _).mono ?_
  rintro e w' ⟨rfl, hw⟩
  subst hw
  go_wp2_with fail
  refine (l2Fault_c A c rs _ fa HA.out).mono ?_
  rintro e w2 ⟨rfl, m, hw⟩
  rw [H2.out]
  have q2 : w2.cell? ⟨g, 2, none⟩ = some (.slice B hs.length d) := by rw [hw]; exact c2
  have HB2 : Hid (Rd w2 5 (.slice B hs.length d) (ecs hc hs) fb) := by rw [hw]; exact HB.out.drewN m
  have HW := Lib.hid hw; clear hw
  go_wp2_with fail
  refine (l4Holds_c B d hs _ fb HB2.out).mono ?_
  rintro e w3 ⟨rfl, m3, hw⟩
  rw [H3.out]
  have HW3 : Hid (∃ m, w3 = w'.drewN m) := by
    refine ⟨m + m3, ?_⟩
    rw [hw, HW.out, World.drewN_drewN]
  clear hw HW HB2 q2
  go_wp2_with fail
  go_loopw [5] (fun i wr => ∃ (k : Nat), k ≤ rs.length ∧ i = .int .i64 k ∧ Hid (∃ m, wr = w'.drewN m) ∧ Hid (restR rs hs k = V)) (fun i _ => rs.length - (intOf i).toNat)
  case atStart => exact ⟨0, Nat.zero_le _, rfl, HW3, HV⟩
  case round =>
    clear HW3 HV
    obtain ⟨k, hk, rfl, HW, HRS⟩ := hrel
    have hgr : BoxAt wr g (.int .i64 now) (.slice A rs.length c) (.slice B hs.length d) := by obtain ⟨m, hm⟩ := HW.out; rw [hm]; exact HG.out
    have har : Rd wr 4 (.slice A rs.length c) (rcs rs) fa := by obtain ⟨m, hm⟩ := HW.out; rw [hm]; exact HA.out.drewN m
    have hbr : Rd wr 5 (.slice B hs.length d) (ecs hc hs) fb := by obtain ⟨m, hm⟩ := HW.out; rw [hm]; exact HB.out.drewN m
    obtain ⟨z0, z1, z2, _, _, _, hzr⟩ := box_at hgr
    have HGR := Lib.hid hgr; have HAR := Lib.hid har; have HBR := Lib.hid hbr
    clear hgr har hbr
    by_cases hlt : k < rs.length
    · obtain ⟨b1, o1, hA, _, hl1, p0, p1, p2, p3⟩ := HAR.out.row_at hlt
      subst hA
      have hok := @restR_ok rs hs k hlt
      have hbad := @restR_bad rs hs k hlt
      generalize rs[k] = x at *
      by_cases he : x.2.2.2 = heldS hs x.1 x.2.1
      · have hv := (hok he).symm.trans HRS.out
        have HV := Lib.hid hv
        have hi0 : (0 : Int) ≤ (k : Int) := by omega
        have hi1 : (k : Int) < (rs.length : Int) := by omega
        have HE := Lib.hid he.symm
        have t1 : (x.2.2.2 != x.2.2.2) = false := by simp
        clear hok hbad hv HRS he
        go_wp2_with fail
        go_quiet ((go_at_call 91; exact Calls.quiet_of_same (l4Held_q g now (.slice (some ⟨b1, o1, none⟩) rs.length c) B d hs x.1 x.2.1 x.2.2.2 HE.out _ fb H3.out HGR.out HBR.out)))
        go_wp2_with fail
        exact ⟨⟨k + 1, by omega, by go_num, by obtain ⟨m, hm⟩ := HW.out; exact ⟨_, by rw [hm, World.drewN_drewN]⟩, HV⟩, by simp [intOf]; omega⟩
      · have hv := (hbad he).symm.trans HRS.out
        have HV := Lib.hid hv
        have hi0 : (0 : Int) ≤ (k : Int) := by omega
        have hi1 : (k : Int) < (rs.length : Int) := by omega
        generalize hq : heldS hs x.1 x.2.1 = Q at *
        have HQ := Lib.hid hq
        have t1 : (x.2.2.2 == Q) = false := by simpa using he
        have t2 : (x.2.2.2 != Q) = true := by simpa using he
        clear hok hbad hv HRS he hq
        go_wp2_with fail
        go_quiet ((go_at_call 91; exact Calls.quiet_of_same (l4Held_q g now (.slice (some ⟨b1, o1, none⟩) rs.length c) B d hs x.1 x.2.1 Q HQ.out _ fb H3.out HGR.out HBR.out)))
        go_wp2_with fail
        go_ret
        exact ⟨congrArg (fun z => Ending.returned (Value.int .i64 z)) HV.out, by obtain ⟨m, hm⟩ := HW.out; rw [hm]; exact below_drewN' (below_drewN' (Below.refl _ _) m) _⟩
    · obtain rfl : k = rs.length := by omega
      have hv := (restR_end rs hs).symm.trans HRS.out
      have HV := Lib.hid hv
      have HBL : Hid (Below w'.heap.size w' wr) := by obtain ⟨m, hm⟩ := HW.out; rw [hm]; exact below_drewN' (Below.refl _ _) m
      clear hv HRS HW HGR HAR HBR
      go_wp2_with fail
      go_loopw [6, 7, 8] (fun i _ _ wr => ∃ (k : Nat), k ≤ hs.length ∧ i = .int .i64 k ∧ Hid (Below w'.heap.size w' wr) ∧ Hid (restH rs hs k = V)) (fun i _ _ _ => hs.length - (intOf i).toNat)
      case atStart => exact ⟨0, Nat.zero_le _, rfl, HBL, HV⟩
      case round =>
        clear HBL HV z0 z1 z2 hzr
        obtain ⟨k, hk, rfl, HW, HRS⟩ := hrel
        have hgr : BoxAt wr g (.int .i64 now) (.slice A rs.length c) (.slice B hs.length d) := HG.out.same (HW.out.block g hz)
        have har : Rd wr 4 (.slice A rs.length c) (rcs rs) fa := HA.out.below' HW.out
        have hbr : Rd wr 5 (.slice B hs.length d) (ecs hc hs) fb := HB.out.below' HW.out
        obtain ⟨z0, z1, z2, _, _, _, hzr⟩ := box_at hgr
        have HAR := Lib.hid har; have HBR := Lib.hid hbr
        clear hgr har hbr
        by_cases hlt : k < hs.length
        · obtain ⟨b1, o1, hA, _, hl1, p0, p1, p2, p3, p4⟩ := HBR.out.hold_at hlt
          subst hA
          have hok := @restH_ok rs hs k hlt
          have hbad := @restH_bad rs hs k hlt
          generalize hs[k] = x at *
          cases hgt : (getR rs x.lc x.sk).isSome
          · have hv := (hbad hgt).symm.trans HRS.out
            have HV := Lib.hid hv
            have HGT := Lib.hid hgt
            clear hok hbad hv HRS hgt
            have hi0 : (0 : Int) ≤ (k : Int) := by omega
            have hi1 : (k : Int) < (hs.length : Int) := by omega
            go_wp2_with fail
            go_region_held3 (fun w' => w'.cell? ⟨g, 1, none⟩ = some (.slice A rs.length c) ∧ w'.cell? ⟨g, 2, none⟩ = some (.slice (some ⟨b1, o1, none⟩) hs.length d) ∧ w'.cell? ⟨b1, o1 + k * 5 + 1, none⟩ = some (.int .i64 x.lc) ∧ w'.cell? ⟨b1, o1 + k * 5 + 2, none⟩ = some (.int .i64 x.sk))
              (first
                | go_keep
                | (refine ⟨(Below.cell (w := wr) (p := ⟨g, _, none⟩) ?_ hzr).trans z1, (Below.cell (w := wr) (p := ⟨g, _, none⟩) ?_ hzr).trans z2, (Below.cell (w := wr) (p := ⟨b1, _, none⟩) ?_ hl1).trans p1, (Below.cell (w := wr) (p := ⟨b1, _, none⟩) ?_ hl1).trans p2⟩ <;> (repeat (first | with_reducible exact hb1 | with_reducible refine below_set ?_ _ _ | with_reducible refine below_more ?_ _))))
              (first
                | (go_at_call 65
                   refine (l2Get_c A c rs x.lc x.sk _ fa (HAR.out.below' (Below.refl _ _).drew)).mono ?_
                   rintro e w4 ⟨rfl, hb0⟩
                   rw [HGT.out]
                   generalize getV rs x.lc x.sk = V
                   have hb1 : Below wr.heap.size wr w4 := (Below.refl _ _).drew.trans hb0
                   clear hb0)
                | (go_at_call 65
                   refine (l2Get_c A c rs x.lc x.sk _ fa (HAR.out.below' ((Below.refl _ _).drew.alloc (by simp) _))).mono ?_
                   rintro e w4 ⟨rfl, hb0⟩
                   rw [HGT.out]
                   generalize getV rs x.lc x.sk = V
                   have hb1 : Below wr.heap.size wr w4 := ((Below.refl _ _).drew.alloc (by simp) _).trans (hb0.mono (by simp))
                   obtain ⟨y0, y1, y2, y3, yy0, yy1, yy2, yy3, yy4⟩ := four_at (g := wr.heap.size) ((hb0.block wr.heap.size (by simp)).trans (heap_new wr.drew _ rfl))
                   clear hb0))
            · have hb5 := below_more hb1 (.cells #[.int .i64 V.1, .int .i64 V.2.1, .int .i64 V.2.2.1, .int .i64 V.2.2.2] 92)
              generalize w4.alloc (.cells #[.int .i64 V.1, .int .i64 V.2.1, .int .i64 V.2.2.1, .int .i64 V.2.2.2] 92) = w5 at hb5 ⊢
              have HBE := Lib.hid (HW.out.trans (hb5.mono HW.out.size))
              clear hb1 hb5
              go_wp2_with fail
              go_ret
              exact ⟨congrArg (fun z => Ending.returned (Value.int .i64 z)) HV.out, HBE.out⟩
            · have hb5 := below_set (below_set (below_set (below_set hb1 0 (.int .i64 V.1)) 1 (.int .i64 V.2.1)) 2 (.int .i64 V.2.2.1)) 3 (.int .i64 V.2.2.2)
              generalize (((w4.setCell ⟨wr.heap.size, 0, none⟩ (.int .i64 V.1)).setCell ⟨wr.heap.size, 1, none⟩ (.int .i64 V.2.1)).setCell ⟨wr.heap.size, 2, none⟩ (.int .i64 V.2.2.1)).setCell ⟨wr.heap.size, 3, none⟩ (.int .i64 V.2.2.2) = w5 at hb5 ⊢
              have HBE := Lib.hid (HW.out.trans (hb5.mono HW.out.size))
              clear hb1 hb5 y0 y1 y2 y3 yy0 yy1 yy2 yy3 yy4
              go_wp2_with fail
              go_ret
              exact ⟨congrArg (fun z => Ending.returned (Value.int .i64 z)) HV.out, HBE.out⟩
          · have hv := (hok hgt).symm.trans HRS.out
            have HV := Lib.hid hv
            have HGT := Lib.hid hgt
            clear hok hbad hv HRS hgt
            have hi0 : (0 : Int) ≤ (k : Int) := by omega
            have hi1 : (k : Int) < (hs.length : Int) := by omega
            go_wp2_with fail
            go_region_held3 (fun w' => w'.cell? ⟨g, 1, none⟩ = some (.slice A rs.length c) ∧ w'.cell? ⟨g, 2, none⟩ = some (.slice (some ⟨b1, o1, none⟩) hs.length d) ∧ w'.cell? ⟨b1, o1 + k * 5 + 1, none⟩ = some (.int .i64 x.lc) ∧ w'.cell? ⟨b1, o1 + k * 5 + 2, none⟩ = some (.int .i64 x.sk))
              (first
                | go_keep
                | (refine ⟨(Below.cell (w := wr) (p := ⟨g, _, none⟩) ?_ hzr).trans z1, (Below.cell (w := wr) (p := ⟨g, _, none⟩) ?_ hzr).trans z2, (Below.cell (w := wr) (p := ⟨b1, _, none⟩) ?_ hl1).trans p1, (Below.cell (w := wr) (p := ⟨b1, _, none⟩) ?_ hl1).trans p2⟩ <;> (repeat (first | with_reducible exact hb1 | with_reducible refine below_set ?_ _ _ | with_reducible refine below_more ?_ _))))
              (first
                | (go_at_call 65
                   refine (l2Get_c A c rs x.lc x.sk _ fa (HAR.out.below' (Below.refl _ _).drew)).mono ?_
                   rintro e w4 ⟨rfl, hb0⟩
                   rw [HGT.out]
                   generalize getV rs x.lc x.sk = V
                   have hb1 : Below wr.heap.size wr w4 := (Below.refl _ _).drew.trans hb0
                   clear hb0)
                | (go_at_call 65
                   refine (l2Get_c A c rs x.lc x.sk _ fa (HAR.out.below' ((Below.refl _ _).drew.alloc (by simp) _))).mono ?_
                   rintro e w4 ⟨rfl, hb0⟩
                   rw [HGT.out]
                   generalize getV rs x.lc x.sk = V
                   have hb1 : Below wr.heap.size wr w4 := ((Below.refl _ _).drew.alloc (by simp) _).trans (hb0.mono (by simp))
                   obtain ⟨y0, y1, y2, y3, yy0, yy1, yy2, yy3, yy4⟩ := four_at (g := wr.heap.size) ((hb0.block wr.heap.size (by simp)).trans (heap_new wr.drew _ rfl))
                   clear hb0))
            · have hb5 := below_more hb1 (.cells #[.int .i64 V.1, .int .i64 V.2.1, .int .i64 V.2.2.1, .int .i64 V.2.2.2] 92)
              generalize w4.alloc (.cells #[.int .i64 V.1, .int .i64 V.2.1, .int .i64 V.2.2.1, .int .i64 V.2.2.2] 92) = w5 at hb5 ⊢
              have HBE := Lib.hid (HW.out.trans (hb5.mono HW.out.size))
              clear hb1 hb5
              go_wp2_with fail
              exact ⟨⟨k + 1, by omega, by go_num, HBE, HV⟩, by simp [intOf]; omega⟩
            · have hb5 := below_set (below_set (below_set (below_set hb1 0 (.int .i64 V.1)) 1 (.int .i64 V.2.1)) 2 (.int .i64 V.2.2.1)) 3 (.int .i64 V.2.2.2)
              generalize (((w4.setCell ⟨wr.heap.size, 0, none⟩ (.int .i64 V.1)).setCell ⟨wr.heap.size, 1, none⟩ (.int .i64 V.2.1)).setCell ⟨wr.heap.size, 2, none⟩ (.int .i64 V.2.2.1)).setCell ⟨wr.heap.size, 3, none⟩ (.int .i64 V.2.2.2) = w5 at hb5 ⊢
              have HBE := Lib.hid (HW.out.trans (hb5.mono HW.out.size))
              clear hb1 hb5 y0 y1 y2 y3 yy0 yy1 yy2 yy3 yy4
              go_wp2_with fail
              exact ⟨⟨k + 1, by omega, by go_num, HBE, HV⟩, by simp [intOf]; omega⟩
        · obtain rfl : k = hs.length := by omega
          have hv := (restH_end rs hs).symm.trans HRS.out
          have HV := Lib.hid hv
          clear hv HRS
          go_wp2_with fail
          go_ret
          exact ⟨congrArg (fun z => Ending.returned (Value.int .i64 z)) HV.out, HW.out⟩
end Go.Proofs.Ytfohlopbfanaeaa
