/-
  Contracts of the program's functions of chapter 4, first part: faults of holds, what is held, faults of a book.
-/
import Derived.Test.YtfohlopbfanaeaaImpl4k
import Derived.Test.YtfohlopbfanaeaaBookH
import Derived.Test.YtfohlopbfanaeaaSpotEq
import Derived.Test.YtfohlopbfanaeaaSpot2
import Derived.Test.YtfohlopbfanaeaaImpl2b
namespace Go.Proofs.Ytfohlopbfanaeaa
open Go.RowKit

/-- The box of a hold. -/
abbrev hbox (h : Hd) : Obj := .cells #[.int .i64 h.id, .int .i64 h.lc, .int .i64 h.sk, .int .i64 h.qt, .int .i64 h.un] 100
theorem tri (v lo hi : Int) : v < lo ∨ (lo ≤ v ∧ hi < v) ∨ (lo ≤ v ∧ v ≤ hi) := by omega

set_option maxRecDepth 100000 in
set_option maxHeartbeats 4000000 in
theorem isHold_b (h : Hd) (b : Bool) (hb : holdB h = b) (w : World) :
    Calls Try.prog 96 #[hv h] w fun e w' => e = .returned (.bool b) ∧ w' = w.alloc (hbox h) := by
  have HB := Lib.hid hb; clear hb
  obtain ⟨id, lc, sk, qt, un⟩ := h
  rcases tri id 1 50 with a | ⟨a, a'⟩ | ⟨a, a'⟩
  · have e1 : inB id 1 50 = false := inB_false.2 (.inl a)
    have E1 := Lib.hid e1; clear e1
    rcases tri un 0 19998 with u | ⟨u, u'⟩ | ⟨u, u'⟩
    all_goals
      go_enter Try.func96, Try.ntmps96
      go_wp2
      go_ret
      exact ⟨by rw [← HB.out]; simp [holdB, E1.out], rfl⟩
  · have e1 : inB id 1 50 = false := inB_false.2 (.inr a')
    have E1 := Lib.hid e1; clear e1
    rcases tri un 0 19998 with u | ⟨u, u'⟩ | ⟨u, u'⟩
    all_goals
      go_enter Try.func96, Try.ntmps96
      go_wp2
      go_ret
      exact ⟨by rw [← HB.out]; simp [holdB, E1.out], rfl⟩
  · have e1 : inB id 1 50 = true := inB_true.2 ⟨a, a'⟩
    have hU : ∃ bu, inB un 0 19998 = bu ∧ ((un < 0 ∧ bu = false) ∨ (0 ≤ un ∧ 19998 < un ∧ bu = false) ∨ (0 ≤ un ∧ un ≤ 19998 ∧ bu = true)) := by
      rcases tri un 0 19998 with u | ⟨u, u'⟩ | ⟨u, u'⟩
      · exact ⟨false, inB_false.2 (.inl u), .inl ⟨u, rfl⟩⟩
      · exact ⟨false, inB_false.2 (.inr u'), .inr (.inl ⟨u, u', rfl⟩)⟩
      · exact ⟨true, inB_true.2 ⟨u, u'⟩, .inr (.inr ⟨u, u', rfl⟩)⟩
    obtain ⟨bu, e5, hU⟩ := hU
    have E1 := Lib.hid e1; have E5 := Lib.hid e5; clear e1 e5
    cases e2 : inB lc 0 3
    · have E2 := Lib.hid e2; clear e2
      rcases hU with ⟨u, rfl⟩ | ⟨u, u', rfl⟩ | ⟨u, u', rfl⟩
      all_goals
        go_enter Try.func96, Try.ntmps96
        go_wp2_with (go_at_call 108; refine (isLoc_b _ _ E2.out _).mono ?_; rintro e w' ⟨rfl, rfl⟩)
        go_ret
        exact ⟨by rw [← HB.out]; simp [holdB, isB, E2.out], rfl⟩
    · cases e3 : inB sk 1 20
      · have E2 := Lib.hid e2; have E3 := Lib.hid e3; clear e2 e3
        rcases hU with ⟨u, rfl⟩ | ⟨u, u', rfl⟩ | ⟨u, u', rfl⟩
        all_goals
          go_enter Try.func96, Try.ntmps96
          go_wp2_with (first
            | (go_at_call 108; refine (isLoc_b _ _ E2.out _).mono ?_; rintro e w' ⟨rfl, rfl⟩)
            | (go_at_call 69; refine (isSku_b _ _ E3.out _).mono ?_; rintro e w' ⟨rfl, rfl⟩))
          go_ret
          exact ⟨by rw [← HB.out]; simp [holdB, isB, E3.out], rfl⟩
      · have E2 := Lib.hid e2; have E3 := Lib.hid e3; clear e2 e3
        have hQ : ∃ bq, inB qt 1 9999 = bq ∧ ((qt < 1 ∧ bq = false) ∨ (1 ≤ qt ∧ 9999 < qt ∧ bq = false) ∨ (1 ≤ qt ∧ qt ≤ 9999 ∧ bq = true)) := by
          rcases tri qt 1 9999 with u | ⟨u, u'⟩ | ⟨u, u'⟩
          · exact ⟨false, inB_false.2 (.inl u), .inl ⟨u, rfl⟩⟩
          · exact ⟨false, inB_false.2 (.inr u'), .inr (.inl ⟨u, u', rfl⟩)⟩
          · exact ⟨true, inB_true.2 ⟨u, u'⟩, .inr (.inr ⟨u, u', rfl⟩)⟩
        obtain ⟨bq, e4, hQ⟩ := hQ
        have E4 := Lib.hid e4; clear e4
        rcases hU with ⟨u, rfl⟩ | ⟨u, u', rfl⟩ | ⟨u, u', rfl⟩ <;> rcases hQ with ⟨q, rfl⟩ | ⟨q, q', rfl⟩ | ⟨q, q', rfl⟩
        all_goals
          go_enter Try.func96, Try.ntmps96
          go_wp2_with (first
            | (go_at_call 108; refine (isLoc_b _ _ E2.out _).mono ?_; rintro e w' ⟨rfl, rfl⟩)
            | (go_at_call 69; refine (isSku_b _ _ E3.out _).mono ?_; rintro e w' ⟨rfl, rfl⟩))
          go_ret
          exact ⟨by rw [← HB.out]; simp [holdB, isB, E1.out, E2.out, E3.out, E4.out, E5.out] <;> omega, rfl⟩

theorem rowSpot_c (r : R) (w : World) : Calls Try.prog 98 #[rv r] w fun e w' => e = .returned (spv (r.1, r.2.1)) ∧ Below w.heap.size w w' := by
  go_enter Try.func98, Try.ntmps98
  go_wp2
  exact bodyPost_ret (v := spv (r.1, r.2.1)) (by simp [results, Try.results98, go_sem]) rfl ⟨rfl, below_more (below_new _) _⟩
theorem holdSpot_c (h : Hd) (w : World) : Calls Try.prog 110 #[hv h] w fun e w' => e = .returned (spv (h.lc, h.sk)) ∧ Below w.heap.size w w' := by
  go_enter Try.func110, Try.ntmps110
  go_wp2
  exact bodyPost_ret (v := spv (h.lc, h.sk)) (by simp [results, Try.results110, go_sem]) rfl ⟨rfl, below_more (below_new _) _⟩

/-- The id ahead of the k-th hold, 0 at the beginning. -/
def prevI (hs : List Hd) (k : Nat) : Int := (prevH hs k).getD 0
theorem prevI_succ (hs : List Hd) (k : Nat) (h : k < hs.length) : prevI hs (k + 1) = hs[k].id := by simp [prevI, prevH_succ hs k h]
theorem prevI_test (hs : List Hd) (k : Nat) (x : Hd) (hx : holdB x = true) : (((prevH hs k).map fun q => decide (x.id ≤ q)) = some true) ↔ x.id ≤ prevI hs k := by
  have := holdB_iff.1 hx
  unfold FitH at this
  unfold prevI
  cases prevH hs k with
  | none => simp; omega
  | some q => simp
theorem hold_five {w : World} {g : Nat} {u v x y z : Value} {t : TypeId} (h : w.heap[g]? = some (.cells #[u, v, x, y, z] t (0, 0))) :
    w.cell? ⟨g, 0, none⟩ = some u ∧ w.cell? ⟨g, 1, none⟩ = some v ∧ w.cell? ⟨g, 2, none⟩ = some x ∧ w.cell? ⟨g, 3, none⟩ = some y ∧ w.cell? ⟨g, 4, none⟩ = some z ∧ g < w.heap.size :=
  ⟨cell_of_heap h, cell_of_heap h, cell_of_heap h, cell_of_heap h, cell_of_heap h, heap_lt h⟩

set_option maxRecDepth 100000 in
set_option maxHeartbeats 2000000 in
theorem holdsFault_c (A : Option Addr) (c : Nat) (hs : List Hd) (w : World) (fp : List Nat) (ha : Rd w 5 (.slice A hs.length c) (ecs hc hs) fp) :
    Calls Try.prog 58 #[.slice A hs.length c] w fun e w' => e = .returned (.int .i64 (holdsF hs)) ∧ Below w.heap.size w w' := by
  have hmax := ha.len_le
  by_cases hbig : 6 < hs.length
  · have e : holdsF hs = 2 := by simp [holdsF, hbig]
    rw [e]
    clear e
    go_enter Try.func58, Try.ntmps58
    go_wp2
    go_ret
    exact ⟨rfl, Below.refl _ _⟩
  · have e : holdsF hs = hscanF (prevH hs 0) (hs.drop 0) := by simp [holdsF, hbig, prevH]
    rw [e]
    clear e
    generalize hS : hscanF (prevH hs 0) (hs.drop 0) = S
    have HS := Lib.hid hS; clear hS
    go_enter Try.func58, Try.ntmps58
    go_wp2
    go_loopw [3, 11] (fun p i wr => ∃ k : Nat, k ≤ hs.length ∧ i = .int .i64 k ∧ p = .int .i64 (prevI hs k) ∧ Hid (Below w.heap.size w wr) ∧ Hid (hscanF (prevH hs k) (hs.drop k) = S)) (fun _ i _ => hs.length - (intOf i).toNat)
    case atStart => exact ⟨0, Nat.zero_le _, rfl, rfl, Below.refl _ _, HS.out⟩
    case round =>
      obtain ⟨k, hk, rfl, rfl, HB, hsc⟩ := hrel
      by_cases hlt : k < hs.length
      · obtain ⟨b, off, hA, _, _, p0, p1, p2, p3, p4⟩ := (ha.below' HB.out).hold_at hlt
        subst hA
        have hst := hsc.out
        rw [hscanF_at hs k hlt] at hst
        have hpn := prevI_succ hs k hlt
        have hpt := prevI_test hs k hs[k]
        generalize prevI hs k = pn at *
        generalize hs[k] = x at *
        have HPN := Lib.hid hpn; have HPT := Lib.hid hpt
        clear hpn hpt
        cases hB : holdB x
        · rw [if_pos hB] at hst
          have HF := Lib.hid hst; have HBX := Lib.hid hB; clear hst hB HPT HPN hsc
          go_wp2_with fail
          refine (isHold_b x _ HBX.out _).mono ?_
          rintro e w1 ⟨rfl, rfl⟩
          go_wp2_with fail
          go_ret
          exact ⟨congrArg (fun z => Ending.returned (Value.int .i64 z)) HF.out, below_more (below_more HB.out _) _⟩
        · rw [if_neg (by rw [hB]; decide)] at hst
          have htest := HPT.out hB
          have HBX := Lib.hid hB; clear hB HPT hsc
          by_cases hle : x.id ≤ pn
          · rw [if_pos (htest.2 hle)] at hst
            have HF := Lib.hid hst; clear hst htest
            go_wp2_with fail
            refine (isHold_b x _ HBX.out _).mono ?_
            rintro e w1 ⟨rfl, rfl⟩
            go_wp2_with fail
            go_ret
            exact ⟨congrArg (fun z => Ending.returned (Value.int .i64 z)) HF.out, below_more (below_more HB.out _) _⟩
          · rw [if_neg (fun h => hle (htest.1 h))] at hst
            have HF := Lib.hid hst; clear hst htest
            go_wp2_with fail
            refine (isHold_b x _ HBX.out _).mono ?_
            rintro e w1 ⟨rfl, rfl⟩
            go_wp2_with fail
            exact ⟨⟨k + 1, by omega, by go_num, by rw [HPN.out], below_more (below_more HB.out _) _, HF.out⟩, by simp [intOf]; omega⟩
      · obtain rfl : k = hs.length := by omega
        have hfin := hsc.out
        rw [List.drop_length, hscanF_nil] at hfin
        have HF := Lib.hid hfin; clear hfin
        go_wp2
        go_ret
        exact ⟨congrArg (fun z => Ending.returned (Value.int .i64 z)) HF.out, HB.out⟩

set_option maxRecDepth 100000 in
set_option maxHeartbeats 2000000 in
theorem heldAt_c (A : Option Addr) (c : Nat) (hs : List Hd) (l s : Int) (w : World) (fp : List Nat) (hf : holdsF hs = 0) (ha : Rd w 5 (.slice A hs.length c) (ecs hc hs) fp) :
    Calls Try.prog 97 #[.slice A hs.length c, spv (l, s)] w fun e w' => e = .returned (.int .i64 (heldS hs l s)) ∧ Below w.heap.size w w' := by
  obtain ⟨hfit, hlen⟩ := holdsF_fits hf
  have HFT := Lib.hid hfit; clear hfit hf
  go_enter Try.func97, Try.ntmps97
  go_wp2
  go_loopw [5, 10] (fun n i wr => ∃ k : Nat, k ≤ hs.length ∧ i = .int .i64 k ∧ n = .int .i64 (heldS (hs.take k) l s) ∧ Hid (Below (w.heap.size + 1) (w.alloc (.cells #[.int .i64 l, .int .i64 s] 133)) wr)) (fun _ i _ => hs.length - (intOf i).toNat)
  case atStart => exact ⟨0, Nat.zero_le _, rfl, rfl, Below.refl _ _⟩
  case round =>
    obtain ⟨k, hk, rfl, rfl, HB⟩ := hrel
    have HBW := Lib.hid ((below_new _).trans (HB.out.mono (by omega)) : Below w.heap.size w wr)
    have hgs := newest HB.out (by omega)
    have hsz := HB.out.size
    by_cases hlt : k < hs.length
    · obtain ⟨b1, o1, hA, _, hl1, p0, p1, p2, p3, p4⟩ := (ha.below' HBW.out).hold_at hlt
      subst hA
      have hstep := heldS_succ hs l s k hlt
      have hbd := heldS_bd hs l s HFT.out k (by omega)
      have hft := HFT.out hs[k] (List.getElem_mem hlt)
      generalize heldS (hs.take k) l s = n at *
      generalize hs[k] = x at *
      unfold FitH at hft
      have r1 := hft.2.2.2.2.2.2.1
      have r2 := hft.2.2.2.2.2.2.2.1
      have r3 := hbd.1; have r4 := hbd.2
      have HST := Lib.hid hstep
      have hgh := heap_new wr (hbox x) rfl
      obtain ⟨y0, y1, y2, y3, y4, hy⟩ := hold_five hgh
      obtain ⟨s0, s1, _, _, hsl⟩ := pair_at (heap_old (o' := hbox x) hgs)
      have HBN := Lib.hid (HB.out.alloc (by simpa using hsz) (hbox x))
      clear hft hbd hstep hgh hgs HB
      generalize hD : decide (((x.lc, x.sk) : Sp) = (l, s)) = D
      have q1 : ∀ w, (binOp .eql 133 (.agg #[.int .i64 x.lc, .int .i64 x.sk]) (.agg #[.int .i64 l, .int .i64 s])).run Try.prog w = .ok (.bool D) w := fun w => by rw [← hD]; exact spotEql (x.lc, x.sk) (l, s) w
      have q2 : ∀ p q w, (eqGuard .eql 133 p q (.agg #[.int .i64 x.lc, .int .i64 x.sk]) (.agg #[.int .i64 l, .int .i64 s])).run Try.prog w = .ok () w := fun p q w => spotGuard .eql p q (x.lc, x.sk) (l, s) w
      have HD := Lib.hid hD; clear hD
      go_wp2_with fail
      generalize wr.alloc (hbox x) = w1 at *
      go_region_held3 (fun w' => w'.cell? ⟨wr.heap.size, 0, none⟩ = some (.int .i64 x.id) ∧ w'.cell? ⟨wr.heap.size, 1, none⟩ = some (.int .i64 x.lc) ∧ w'.cell? ⟨wr.heap.size, 2, none⟩ = some (.int .i64 x.sk) ∧ w'.cell? ⟨wr.heap.size, 3, none⟩ = some (.int .i64 x.qt) ∧ w'.cell? ⟨wr.heap.size, 4, none⟩ = some (.int .i64 x.un) ∧ w'.cell? ⟨w.heap.size, 0, none⟩ = some (.int .i64 l) ∧ w'.cell? ⟨w.heap.size, 1, none⟩ = some (.int .i64 s))
        (first
          | go_keep
          | (refine ⟨(Below.cell (w := w1) (p := ⟨wr.heap.size, _, none⟩) ?_ hy).trans y0, (Below.cell (w := w1) (p := ⟨wr.heap.size, _, none⟩) ?_ hy).trans y1, (Below.cell (w := w1) (p := ⟨wr.heap.size, _, none⟩) ?_ hy).trans y2, (Below.cell (w := w1) (p := ⟨wr.heap.size, _, none⟩) ?_ hy).trans y3, (Below.cell (w := w1) (p := ⟨wr.heap.size, _, none⟩) ?_ hy).trans y4, (Below.cell (w := w1) (p := ⟨w.heap.size, _, none⟩) ?_ hsl).trans s0, (Below.cell (w := w1) (p := ⟨w.heap.size, _, none⟩) ?_ hsl).trans s1⟩ <;> with_reducible exact hq1))
        ((go_at_call 110; refine (holdSpot_c x _).mono ?_; rintro e y9 ⟨rfl, hbq⟩; have hq1 : Below w1.heap.size w1 y9 := (Below.refl _ _).drew.trans hbq; clear hbq))
      have HB9 := Lib.hid (HBN.out.trans (hq1.mono (by have := HBN.out.size; simpa using this)))
      have z3 : y9.cell? ⟨wr.heap.size, 3, none⟩ = some (.int .i64 x.qt) := (hq1.cell (p := ⟨wr.heap.size, 3, none⟩) hy).trans y3
      have hz9 : wr.heap.size < y9.heap.size := Nat.lt_of_lt_of_le hy hq1.size
      clear hq1 y0 y1 y2 y3 y4 s0 s1
      clear q1 q2
      cases D
      rotate_left
      · have hst := HST.out
        have e : x.lc = l ∧ x.sk = s := by have := HD.out; simpa using this
        rw [if_pos e] at hst
        have H := Lib.hid hst
        clear hst HST e
        go_wp2
        exact ⟨⟨k + 1, by omega, by go_num, by rw [H.out], HB9.out⟩, by simp [intOf]; omega⟩
      · have hst := HST.out
        have e : ¬ (x.lc = l ∧ x.sk = s) := fun h => by have := HD.out; simp [h.1, h.2] at this
        rw [if_neg e] at hst
        have H := Lib.hid hst
        clear hst HST e
        go_wp2
        exact ⟨⟨k + 1, by omega, by go_num, by rw [H.out], HB9.out⟩, by simp [intOf]; omega⟩
    · obtain rfl : k = hs.length := by omega
      rw [List.take_length]
      clear hgs hsz
      go_wp2
      go_ret
      exact ⟨rfl, HBW.out⟩
end Go.Proofs.Ytfohlopbfanaeaa
