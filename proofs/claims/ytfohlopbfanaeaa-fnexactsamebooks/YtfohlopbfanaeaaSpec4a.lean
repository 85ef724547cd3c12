/-
  The model's functions of chapter 4, first part: what is held, faults of holds.
-/
import Derived.Test.YtfohlopbfanaeaaModel4
import Derived.Test.YtfohlopbfanaeaaHoldS
namespace Go.Proofs.Ytfohlopbfanaeaa
open Go.RowKit

/-- A book lies in block g: the time and two slices. -/
abbrev bbox (now : Int) (vr vh : Value) : Obj := .cells #[.int .i64 now, vr, vh] 31 (0, 0)
theorem three_at {w : World} {g : Nat} {u v x : Value} {t : TypeId} (h : w.heap[g]? = some (.cells #[u, v, x] t (0, 0))) :
    w.cell? ⟨g, 0, none⟩ = some u ∧ w.cell? ⟨g, 1, none⟩ = some v ∧ w.cell? ⟨g, 2, none⟩ = some x ∧ w.frozen? ⟨g, 0, none⟩ = false ∧ w.frozen? ⟨g, 1, none⟩ = false ∧ w.frozen? ⟨g, 2, none⟩ = false ∧ g < w.heap.size :=
  ⟨cell_of_heap h, cell_of_heap h, cell_of_heap h, frozen_of_heap h, frozen_of_heap h, frozen_of_heap h, heap_lt h⟩

/-- The first three cells of a block. -/
def BoxAt (w : World) (g : Nat) (u v x : Value) : Prop := ∃ cs t, w.heap[g]? = some (.cells cs t (0, 0)) ∧ cs[0]? = some u ∧ cs[1]? = some v ∧ cs[2]? = some x
theorem box_at {w : World} {g : Nat} {u v x : Value} (h : BoxAt w g u v x) :
    w.cell? ⟨g, 0, none⟩ = some u ∧ w.cell? ⟨g, 1, none⟩ = some v ∧ w.cell? ⟨g, 2, none⟩ = some x ∧ w.frozen? ⟨g, 0, none⟩ = false ∧ w.frozen? ⟨g, 1, none⟩ = false ∧ w.frozen? ⟨g, 2, none⟩ = false ∧ g < w.heap.size := by
  obtain ⟨cs, t, h, h0, h1, h2⟩ := h
  exact ⟨(cell_of_heap h).trans h0, (cell_of_heap h).trans h1, (cell_of_heap h).trans h2, frozen_of_heap h, frozen_of_heap h, frozen_of_heap h, heap_lt h⟩
theorem box_of {w : World} {g : Nat} {u v x : Value} {t : TypeId} (h : w.heap[g]? = some (.cells #[u, v, x] t (0, 0))) : BoxAt w g u v x := ⟨_, _, h, rfl, rfl, rfl⟩
theorem box_of4 {w : World} {g : Nat} {u v x y : Value} {t : TypeId} (h : w.heap[g]? = some (.cells #[u, v, x, y] t (0, 0))) : BoxAt w g u v x := ⟨_, _, h, rfl, rfl, rfl⟩
theorem BoxAt.same {w w' : World} {g : Nat} {u v x : Value} (h : BoxAt w g u v x) (he : w'.heap[g]? = w.heap[g]?) : BoxAt w' g u v x := by
  obtain ⟨cs, t, h, h0⟩ := h
  exact ⟨cs, t, he.trans h, h0⟩

set_option maxRecDepth 100000 in
set_option maxHeartbeats 2000000 in
theorem l4Held_c (g : Nat) (now : Int) (vr : Value) (A : Option Addr) (c : Nat) (hs : List Hd) (l s : Int) (w : World) (fp : List Nat) (hf : holdsF hs = 0)
    (hg : BoxAt w g (.int .i64 now) vr (.slice A hs.length c)) (ha : Rd w 5 (.slice A hs.length c) (ecs hc hs) fp) :
    Calls Try.prog 91 #[.pointer (some ⟨g, 0, none⟩), .int .i64 l, .int .i64 s] w fun e w' => e = .returned (.int .i64 (heldS hs l s)) ∧ w = w' := by
  obtain ⟨hfit, hlen⟩ := holdsF_fits hf
  obtain ⟨c0, c1, c2, _, _, _, hz⟩ := box_at hg
  have HFT := Lib.hid hfit; clear hfit hf hg
  go_enter Try.func91, Try.ntmps91
  go_wp2
  go_loop [7, 8] (fun n i => ∃ k : Nat, k ≤ hs.length ∧ i = .int .i64 k ∧ n = .int .i64 (heldS (hs.take k) l s)) (fun _ i => hs.length - (intOf i).toNat)
  case atStart => exact ⟨0, Nat.zero_le _, rfl, rfl⟩
  case round =>
    obtain ⟨k, hk, rfl, rfl⟩ := hrel
    by_cases hlt : k < hs.length
    · obtain ⟨b1, o1, rfl, _, hl1, p0, p1, p2, p3, p4⟩ := ha.hold_at hlt
      have hstep := heldS_succ hs l s k hlt
      have hbd := heldS_bd hs l s HFT.out k (by omega)
      have hft := HFT.out hs[k] (List.getElem_mem hlt)
      generalize heldS (hs.take k) l s = n at *
      generalize hs[k] = x at *
      unfold FitH at hft
      have q1 := hft.2.2.2.2.2.2.1
      have q2 := hft.2.2.2.2.2.2.2.1
      have q3 := hbd.1; have q4 := hbd.2
      have HST := Lib.hid hstep
      clear hft hbd hstep ha
      by_cases e1 : x.lc = l
      · by_cases e2 : x.sk = s
        · have hst := HST.out
          rw [if_pos ⟨e1, e2⟩] at hst
          have H := Lib.hid hst
          have t1 : (x.lc == l) = true := by simp [e1]
          have t2 : (x.sk == s) = true := by simp [e2]
          clear hst HST e1 e2
          go_wp2
          exact ⟨⟨k + 1, by omega, by go_num, by rw [H.out]⟩, by simp [intOf]; omega⟩
        · have hst := HST.out
          rw [if_neg (fun h => e2 h.2)] at hst
          have H := Lib.hid hst
          have t1 : (x.lc == l) = true := by simp [e1]
          have t2 : (x.sk == s) = false := by simp [e2]
          clear hst HST e1 e2
          go_wp2
          exact ⟨⟨k + 1, by omega, by go_num, by rw [H.out]⟩, by simp [intOf]; omega⟩
      · have hst := HST.out
        rw [if_neg (fun h => e1 h.1)] at hst
        have H := Lib.hid hst
        have t1 : (x.lc == l) = false := by simp [e1]
        clear hst HST e1
        go_wp2
        exact ⟨⟨k + 1, by omega, by go_num, by rw [H.out]⟩, by simp [intOf]; omega⟩
    · obtain rfl : k = hs.length := by omega
      rw [List.take_length]
      go_wp2
      go_ret
      exact ⟨rfl, rfl⟩

theorem holdB_parts (h : Hd) : holdB h = (inB h.id 1 50 && isB h.lc h.sk && inB h.qt 1 9999 && inB h.un 0 19998) := rfl
theorem l1In_b (v lo hi : Int) (b : Bool) (hb : inB v lo hi = b) (w : World) :
    Calls Try.prog 88 #[.int .i64 v, .int .i64 lo, .int .i64 hi] w fun e w' => e = .returned (.bool b) ∧ w' = w := by
  subst hb; exact (l1In_c v lo hi w).mono fun _ _ ⟨h1, h2⟩ => ⟨h1, h2.symm⟩

/-- Whether the k-th hold's id is not greater than the one ahead of it. -/
theorem prevH_test (hs : List Hd) (k : Nat) (hk : k < hs.length) (h0 : 0 < k) (x : Int) : (((prevH hs k).map fun q => decide (x ≤ q)) = some true) ↔ x ≤ hs[k - 1].id := by
  unfold prevH
  rw [if_neg (by omega), List.getElem?_eq_getElem (by omega)]
  simp

set_option maxRecDepth 100000 in
set_option maxHeartbeats 4000000 in
theorem l4Holds_c (A : Option Addr) (c : Nat) (hs : List Hd) (w : World) (fp : List Nat) (ha : Rd w 5 (.slice A hs.length c) (ecs hc hs) fp) :
    Calls Try.prog 90 #[.slice A hs.length c] w fun e w' => e = .returned (.int .i64 (holdsF hs)) ∧ ∃ m, w' = w.drewN m := by
  have hmax := ha.len_le
  by_cases hbig : 6 < hs.length
  · have e : holdsF hs = 2 := by simp [holdsF, hbig]
    rw [e]
    clear e
    go_enter Try.func90, Try.ntmps90
    go_wp2
    go_ret
    exact ⟨rfl, 0, rfl⟩
  · have e : holdsF hs = hscanF (prevH hs 0) (hs.drop 0) := by simp [holdsF, hbig, prevH]
    rw [e]
    clear e
    generalize hS : hscanF (prevH hs 0) (hs.drop 0) = S
    have HS := Lib.hid hS; clear hS
    go_enter Try.func90, Try.ntmps90
    go_wp2
    go_loopw [3, 4] (fun i _ wr => ∃ (k m : Nat), k ≤ hs.length ∧ i = .int .i64 k ∧ wr = w.drewN m ∧ Hid (hscanF (prevH hs k) (hs.drop k) = S)) (fun i _ _ => hs.length - (intOf i).toNat)
    case atStart => exact ⟨0, 0, Nat.zero_le _, rfl, rfl, HS.out⟩
    case round =>
      obtain ⟨k, m, hk, rfl, hw, hsc⟩ := hrel
      have ha' : Rd wr 5 (.slice A hs.length c) (ecs hc hs) fp := by rw [hw]; exact ha.drewN m
      have HW := Lib.hid hw; clear hw
      by_cases hlt : k < hs.length
      · have hst := hsc.out
        rw [hscanF_at hs k hlt] at hst
        obtain ⟨b1, o1, hA, _, hl1, p0, p1, p2, p3, p4⟩ := ha'.hold_at hlt
        subst hA
        have hpt : ∀ h0 : 0 < k, (((prevH hs k).map fun q => decide (hs[k].id ≤ q)) = some true) ↔ hs[k].id ≤ (hs[k - 1]).id := fun h0 => prevH_test hs k hlt h0 hs[k].id
        have hz : k = 0 → ((prevH hs k).map fun q => decide (hs[k].id ≤ q)) ≠ some true := fun h => by simp [prevH, h]
        have hpz : ∀ h0 : 0 < k, wr.cell? ⟨b1, o1 + (k - 1) * 5, none⟩ = some (.int .i64 (hs[k - 1]).id) := fun h0 => by
          obtain ⟨b2, o2, hA2, _, _, z0, _⟩ := ha'.hold_at (k := k - 1) (by omega)
          injection hA2 with hA2; injection hA2 with e1 e2 _
          subst e1 e2
          exact z0
        have HPT := Lib.hid hpt; have HZ := Lib.hid hz; have HPZ := Lib.hid hpz
        clear hpt hz hpz
        have hB : holdB hs[k] = (inB hs[k].id 1 50 && isB hs[k].lc hs[k].sk && inB hs[k].qt 1 9999 && inB hs[k].un 0 19998) := rfl
        have HSC := Lib.hid hst; clear hst hsc
        generalize hs[k] = x at *
        by_cases hok : inB x.id 1 50 = true ∧ isB x.lc x.sk = true ∧ inB x.qt 1 9999 = true ∧ inB x.un 0 19998 = true
        · obtain ⟨h1, h2, h3, h4⟩ := hok
          rw [h1, h2, h3, h4] at hB
          have hst := HSC.out
          rw [if_neg (by rw [hB]; decide)] at hst
          have H1 := Lib.hid h1; have H2 := Lib.hid h2; have H3 := Lib.hid h3; have H4 := Lib.hid h4
          clear h1 h2 h3 h4 hB HSC
          go_wp2_with fail
          go_quiet ((first | (go_at_call 88; first | with_reducible exact Calls.quiet_of_same (l1In_b x.id 1 50 _ H1.out _) | with_reducible exact Calls.quiet_of_same (l1In_b x.qt 1 9999 _ H3.out _) | with_reducible exact Calls.quiet_of_same (l1In_b x.un 0 19998 _ H4.out _)) | (go_at_call 102; with_reducible exact Calls.quiet_of_same (l2Is_b x.lc x.sk _ H2.out _))))
          rcases Nat.eq_zero_or_pos k with h0 | h0
          · rw [if_neg (HZ.out h0)] at hst
            have HF := Lib.hid hst
            subst h0
            clear hst
            have hd : decide ((0 : Int) < ((0 : Nat) : Int)) = false := by simp
            go_wp2_with fail
            go_quiet (fail)
            go_wp2_with fail
            exact ⟨⟨1, _, by omega, rfl, by first | (rw [HW.out, World.drewN_drewN, World.drewN_drewN]; done) | (rw [HW.out, World.drewN_drewN]; done), HF.out⟩, by simp [intOf]; omega⟩
          · have z0 := HPZ.out h0
            have hpt := HPT.out h0
            clear HPZ HPT HZ
            generalize hs[k - 1] = y at *
            obtain ⟨j, rfl⟩ : ∃ j, k = j + 1 := ⟨k - 1, by omega⟩
            rw [Nat.add_sub_cancel] at z0
            have i0 : (0 : Int) ≤ ((j : Int) + 1) := by omega
            have i1 : ((j : Int) + 1) < (hs.length : Int) := by omega
            have i2 : (j : Int) < (hs.length : Int) := by omega
            have i3 : (0 : Int) < (j : Int) + 1 := by omega
            have i4 : (j : Int) + 1 - 1 = (j : Int) := by omega
            have hd : decide ((0 : Int) < (j : Int) + 1) = true := by rw [decide_eq_true_eq]; omega
            by_cases hle : x.id ≤ y.id
            · rw [if_pos (hpt.2 hle)] at hst
              have HF := Lib.hid hst; clear hst hpt
              go_wp2_with fail
              go_quiet (fail)
              go_wp2
              go_ret
              exact ⟨congrArg (fun z => Ending.returned (Value.int .i64 z)) HF.out, _, by first | (rw [HW.out, World.drewN_drewN, World.drewN_drewN]; done) | (rw [HW.out, World.drewN_drewN]; done)⟩
            · rw [if_neg (fun h => hle (hpt.1 h))] at hst
              have HF := Lib.hid hst; clear hst hpt
              have hd2 : decide (x.id ≤ y.id) = false := by simpa using hle
              go_wp2_with fail
              go_quiet (fail)
              go_wp2
              exact ⟨⟨j + 1 + 1, _, by omega, by go_num, by first | (rw [HW.out, World.drewN_drewN, World.drewN_drewN]; done) | (rw [HW.out, World.drewN_drewN]; done), HF.out⟩, by simp [intOf]; omega⟩
        · have hst := HSC.out
          have hn : holdB x = false := by
            rw [hB]
            cases h1 : inB x.id 1 50 <;> cases h2 : isB x.lc x.sk <;> cases h3 : inB x.qt 1 9999 <;> cases h4 : inB x.un 0 19998 <;> simp_all
          rw [if_pos hn] at hst
          have HF := Lib.hid hst
          have HOK := Lib.hid hok
          clear hst hn hB HSC HPT HZ HPZ hok
          cases h1 : inB x.id 1 50
          · have H1 := Lib.hid h1; clear h1
            have H2 : Hid (isB x.lc x.sk = isB x.lc x.sk) := rfl
            have H3 : Hid (inB x.qt 1 9999 = inB x.qt 1 9999) := rfl
            have H4 : Hid (inB x.un 0 19998 = inB x.un 0 19998) := rfl
            go_wp2_with fail
            go_quiet ((first | (go_at_call 88; first | with_reducible exact Calls.quiet_of_same (l1In_b x.id 1 50 _ H1.out _) | with_reducible exact Calls.quiet_of_same (l1In_b x.qt 1 9999 _ H3.out _) | with_reducible exact Calls.quiet_of_same (l1In_b x.un 0 19998 _ H4.out _)) | (go_at_call 102; with_reducible exact Calls.quiet_of_same (l2Is_b x.lc x.sk _ H2.out _))))
            go_wp2
            go_ret
            exact ⟨congrArg (fun z => Ending.returned (Value.int .i64 z)) HF.out, _, by first | (rw [HW.out, World.drewN_drewN, World.drewN_drewN]; done) | (rw [HW.out, World.drewN_drewN]; done)⟩
          · cases h2 : isB x.lc x.sk
            · have H1 := Lib.hid h1; clear h1
              have H2 := Lib.hid h2; clear h2
              have H3 : Hid (inB x.qt 1 9999 = inB x.qt 1 9999) := rfl
              have H4 : Hid (inB x.un 0 19998 = inB x.un 0 19998) := rfl
              go_wp2_with fail
              go_quiet ((first | (go_at_call 88; first | with_reducible exact Calls.quiet_of_same (l1In_b x.id 1 50 _ H1.out _) | with_reducible exact Calls.quiet_of_same (l1In_b x.qt 1 9999 _ H3.out _) | with_reducible exact Calls.quiet_of_same (l1In_b x.un 0 19998 _ H4.out _)) | (go_at_call 102; with_reducible exact Calls.quiet_of_same (l2Is_b x.lc x.sk _ H2.out _))))
              go_wp2
              go_ret
              exact ⟨congrArg (fun z => Ending.returned (Value.int .i64 z)) HF.out, _, by first | (rw [HW.out, World.drewN_drewN, World.drewN_drewN]; done) | (rw [HW.out, World.drewN_drewN]; done)⟩
            · cases h3 : inB x.qt 1 9999
              · have H1 := Lib.hid h1; clear h1
                have H2 := Lib.hid h2; clear h2
                have H3 := Lib.hid h3; clear h3
                have H4 : Hid (inB x.un 0 19998 = inB x.un 0 19998) := rfl
                go_wp2_with fail
                go_quiet ((first | (go_at_call 88; first | with_reducible exact Calls.quiet_of_same (l1In_b x.id 1 50 _ H1.out _) | with_reducible exact Calls.quiet_of_same (l1In_b x.qt 1 9999 _ H3.out _) | with_reducible exact Calls.quiet_of_same (l1In_b x.un 0 19998 _ H4.out _)) | (go_at_call 102; with_reducible exact Calls.quiet_of_same (l2Is_b x.lc x.sk _ H2.out _))))
                go_wp2
                go_ret
                exact ⟨congrArg (fun z => Ending.returned (Value.int .i64 z)) HF.out, _, by first | (rw [HW.out, World.drewN_drewN, World.drewN_drewN]; done) | (rw [HW.out, World.drewN_drewN]; done)⟩
              · have h4 : inB x.un 0 19998 = false := by
                  cases h4 : inB x.un 0 19998
                  · rfl
                  · exact absurd ⟨h1, h2, h3, h4⟩ HOK.out
                have H1 := Lib.hid h1; clear h1
                have H2 := Lib.hid h2; clear h2
                have H3 := Lib.hid h3; clear h3
                have H4 := Lib.hid h4; clear h4
                go_wp2_with fail
                go_quiet ((first | (go_at_call 88; first | with_reducible exact Calls.quiet_of_same (l1In_b x.id 1 50 _ H1.out _) | with_reducible exact Calls.quiet_of_same (l1In_b x.qt 1 9999 _ H3.out _) | with_reducible exact Calls.quiet_of_same (l1In_b x.un 0 19998 _ H4.out _)) | (go_at_call 102; with_reducible exact Calls.quiet_of_same (l2Is_b x.lc x.sk _ H2.out _))))
                go_wp2
                go_ret
                exact ⟨congrArg (fun z => Ending.returned (Value.int .i64 z)) HF.out, _, by first | (rw [HW.out, World.drewN_drewN, World.drewN_drewN]; done) | (rw [HW.out, World.drewN_drewN]; done)⟩
      · obtain rfl : k = hs.length := by omega
        have hfin := hsc.out
        rw [List.drop_length, hscanF_nil] at hfin
        have HF := Lib.hid hfin; clear hfin
        go_wp2
        go_ret
        exact ⟨congrArg (fun z => Ending.returned (Value.int .i64 z)) HF.out, m, HW.out⟩
end Go.Proofs.Ytfohlopbfanaeaa
