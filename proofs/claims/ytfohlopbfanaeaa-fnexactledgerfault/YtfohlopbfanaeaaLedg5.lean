/-
  Ledgers: their faults; ledgers compared. The model and the program.
-/
import Derived.Test.YtfohlopbfanaeaaLedgH
import Derived.Test.YtfohlopbfanaeaaSame4
import Derived.Test.YtfohlopbfanaeaaSeenEq
import Derived.Test.YtfohlopbfanaeaaImpl5a
import Derived.Test.YtfohlopbfanaeaaImpl4b
namespace Go.Proofs.Ytfohlopbfanaeaa
open Go.RowKit

set_option maxRecDepth 100000 in
set_option maxHeartbeats 1000000 in
theorem equalSeen_q (A B : Option Addr) (c d : Nat) (xs ys : List Sn) (res : Bool) (hR : decide (xs = ys) = res) (w : World) (fp fq : List Nat)
    (ha : Rd w 2 (.slice A xs.length c) (ecs sc xs) fp) (hb : Rd w 2 (.slice B ys.length d) (ecs sc ys) fq) :
    Calls Try.prog 83 #[.slice A xs.length c, .slice B ys.length d] w fun e w' => e = .returned (.bool res) ∧ ∃ m, w' = w.drewN m := by
  have hmax := ha.len_le
  have hmax2 := hb.len_le
  by_cases hl : xs.length = ys.length
  · have hne : ((xs.length : Int) != (ys.length : Int)) = false := by simp [hl]
    have HL := Lib.hid hl; clear hl
    have HR := Lib.hid hR; clear hR
    have q1 := seenNeq; have q2 := seenGuard
    go_enter Try.func83, Try.ntmps83
    go_wp2
    go_loopw [13] (fun i wr => ∃ k m : Nat, k ≤ xs.length ∧ i = .int .i64 k ∧ wr = w.drewN m ∧ Hid (∀ j (h1 : j < xs.length) (h2 : j < ys.length), j < k → xs[j] = ys[j])) (fun i _ => xs.length - (intOf i).toNat)
    case atStart => exact ⟨0, 0, Nat.zero_le _, rfl, rfl, fun j _ _ h => by omega⟩
    case round =>
      obtain ⟨k, m, hk, rfl, rfl, hsame⟩ := hrel
      by_cases hlt : k < xs.length
      · have hlt2 : k < ys.length := by rw [← HL.out]; exact hlt
        obtain ⟨b1, o1, rfl, _, hl1, p0, p1⟩ := ha.seen_at hlt
        obtain ⟨b2, o2, rfl, _, hl2, r0, r1⟩ := hb.seen_at hlt2
        by_cases he : xs[k] = ys[k]
        · rw [← he] at r0 r1
          have hsame' : ∀ j (h1 : j < xs.length) (h2 : j < ys.length), j < k + 1 → xs[j] = ys[j] := fun j h1 h2 hj => by
            by_cases e : j = k
            · subst e; exact he
            · exact hsame.out j h1 h2 (by omega)
          have HS := Lib.hid hsame'; clear hsame' he
          generalize xs[k] = r at *
          clear ha hb
          go_wp2_with fail
          go_quiet (fail)
          go_wp2_with fail
          exact ⟨⟨k + 1, _, by omega, by go_num, rfl, HS.out⟩, by simp [intOf]; omega⟩
        · have hd : decide (xs[k] = ys[k]) = false := by simp [he]
          have hres : res = false := by rw [← HR.out]; simp; intro e; subst e; exact he rfl
          have HRS := Lib.hid hres; clear hres he
          generalize xs[k] = r at *
          generalize ys[k] = s at *
          clear ha hb
          go_wp2_with fail
          go_quiet (fail)
          go_wp2_with fail
          go_ret
          exact ⟨by rw [HRS.out]; rfl, by first | exact ⟨_, rfl⟩ | exact ⟨_, World.drewN_drewN _ _ _⟩⟩
      · have hres : res = true := by rw [← HR.out]; simp; exact take_eq_of HL.out fun j h1 h2 => hsame.out j h1 h2 (by omega)
        have HRS := Lib.hid hres; clear hres
        go_wp2
        go_ret
        exact ⟨by rw [HRS.out]; rfl, m, rfl⟩
  · have hne : ((xs.length : Int) != (ys.length : Int)) = true := by simp; omega
    have hd : res = false := by rw [← hR]; simp; intro e; subst e; exact hl rfl
    subst hd
    clear hR hl
    go_enter Try.func83, Try.ntmps83
    go_wp2
    go_ret
    exact ⟨rfl, 0, rfl⟩

/-- The code of a ledger. -/
def ledgF (l : Lg) : Int := if bookF l.bk = 0 then seenF l.sn else bookF l.bk
def sameL (a b : Lg) : Bool := sameB a.bk b.bk && decide (a.sn = b.sn)
/-- The four cells of a ledger's box. -/
abbrev lbox (now : Int) (vr vh vs : Value) : Obj := .cells #[.int .i64 now, vr, vh, vs] 55 (0, 0)

set_option maxRecDepth 100000 in
set_option maxHeartbeats 1000000 in
theorem l5Fault_c (g : Nat) (l : Lg) (vr vh vs : Value) (w : World) (fa fb fc : List Nat) (hg : w.heap[g]? = some (lbox l.bk.now vr vh vs)) (hk : LgAt w l vr vh vs fa fb fc) :
    Calls Try.prog 74 #[.pointer (some ⟨g, 0, none⟩)] w fun e w' => e = .returned (.int .i64 (ledgF l)) ∧ Below w.heap.size w w' := by
  obtain ⟨A, c, B, d, D, e, rfl, rfl, rfl⟩ := hk.form
  have hcall := l4Fault_c g l.bk.now A B c d l.bk.rs l.bk.hs w fa fb (box_of4 hg) hk.b.r hk.b.h
  have HG := Lib.hid hg; have HS := Lib.hid hk.s
  have hz := heap_lt hg
  change Calls Try.prog 54 #[.pointer (some ⟨g, 0, none⟩)] w fun e w' => e = .returned (.int .i64 (bookF l.bk)) ∧ Below w.heap.size w w' at hcall
  generalize hV : ledgF l = V
  have HV := Lib.hid hV
  clear hk hg hV
  by_cases h0 : bookF l.bk = 0
  · have HVV : Hid (seenF l.sn = V) := by rw [← HV.out]; show _ = ledgF l; unfold ledgF; rw [if_pos h0]
    rw [h0] at hcall
    clear h0 HV
    go_enter Try.func74, Try.ntmps74
    go_wp2_with fail
    refine hcall.mono ?_
    rintro e w1 ⟨rfl, hb1⟩
    obtain ⟨c0, c1, c2, c3, _, _, _, _, hz1⟩ := four_at ((hb1.block _ (heap_lt HG.out)).trans HG.out)
    have HS1 := Lib.hid (HS.out.below' hb1); have HB1 := Lib.hid hb1
    clear hb1 hcall
    go_wp2_with fail
    refine (l5Seen_c D _ l.sn _ fc HS1.out).mono ?_
    rintro e w2 ⟨rfl, m, hw⟩
    have HW := Lib.hid hw; clear hw
    go_wp2
    go_ret
    exact ⟨congrArg (fun z => Ending.returned (Value.int .i64 z)) HVV.out, by rw [HW.out]; exact below_drewN' HB1.out m⟩
  · have HVV : Hid (bookF l.bk = V) := by rw [← HV.out]; show _ = ledgF l; unfold ledgF; rw [if_neg h0]
    have t1 : (bookF l.bk != 0) = true := by simpa using h0
    clear h0 HV
    go_enter Try.func74, Try.ntmps74
    go_wp2_with fail
    refine hcall.mono ?_
    rintro e w1 ⟨rfl, hb1⟩
    have HB1 := Lib.hid hb1
    clear hb1 hcall
    go_wp2
    go_ret
    exact ⟨congrArg (fun z => Ending.returned (Value.int .i64 z)) HVV.out, HB1.out⟩

theorem specLedgerFault_k (l : Lg) (vr vh vs : Value) (fa fb fc : List Nat) (w : World) (hk : LgAt w l vr vh vs fa fb fc) :
    Calls Try.prog 34 #[lv l.bk.now vr vh vs] w fun e w' => e = .returned (.int .i64 (ledgF l)) ∧ Below w.heap.size w w' := by
  have hcall := l5Fault_c w.heap.size l vr vh vs (w.alloc (.cells #[.int .i64 l.bk.now, vr, vh, vs] 55)) fa fb fc (heap_new w _ rfl) (hk.alloc _)
  generalize ledgF l = V at *
  clear hk
  go_enter Try.func34, Try.ntmps34
  go_wp2_with fail
  refine hcall.mono ?_
  rintro e w1 ⟨rfl, hb1⟩
  have HB1 := Lib.hid ((below_new _).trans (hb1.mono (by simp)) : Below w.heap.size w w1)
  clear hb1 hcall
  go_wp2
  go_ret
  exact ⟨rfl, HB1.out⟩

def AskLedgerFault : Prop := ∀ (l : Lg) (vr vh vs : Value) (fa fb fc : List Nat) (w : World), lsz l ≤ 1048576 → (Lit.int .i64 l.bk.now).wf = true → (∀ r ∈ l.bk.rs, WfR r) → (∀ h ∈ l.bk.hs, WfH h) → (∀ x ∈ l.sn, WfS x) → LgAt w l vr vh vs fa fb fc →
  Calls Try.prog 36 #[lv l.bk.now vr vh vs] w fun e w' => e = .returned (.int .i64 (ledgF l)) ∧ Below w.heap.size w w'

set_option maxRecDepth 100000 in
set_option maxHeartbeats 1000000 in
theorem implLedgerFault_a : AskLedgerFault := by
  intro l vr vh vs fa fb fc w hs wn hwr hwh hws hk
  obtain ⟨D, d, rfl⟩ := hk.s.elt_form sc_len (by omega)
  have hs1 : bsz l.bk ≤ 1048576 := by unfold lsz at hs; omega
  have hs2 : l.sn.length ≤ 1048576 := by have := bsz_nn l.bk; unfold lsz at hs; omega
  have hcall := implBookFault_a l.bk vr vh fa fb (w.alloc (.cells #[.int .i64 l.bk.now, vr, vh, .slice D l.sn.length d] 55)) hs1 wn hwr hwh (hk.b.alloc _)
  have HS := Lib.hid hk.s; have HWS := Lib.hid hws
  generalize hV : ledgF l = V
  have HV := Lib.hid hV
  clear hk hV hwr hwh hws
  by_cases h0 : bookF l.bk = 0
  · have HVV : Hid (seenF l.sn = V) := by rw [← HV.out]; show _ = ledgF l; unfold ledgF; rw [if_pos h0]
    rw [h0] at hcall
    clear h0 HV
    go_enter Try.func36, Try.ntmps36
    go_wp2_with fail
    refine hcall.mono ?_
    rintro e w1 ⟨rfl, hb1⟩
    obtain ⟨c0, c1, c2, c3, _, _, _, _, hz1⟩ := four_at (newest hb1 (by simp))
    have HB1 := Lib.hid ((below_new _).trans (hb1.mono (by simp)) : Below w.heap.size w w1)
    clear hb1 hcall
    go_wp2_with fail
    refine (implSeenFault_a D d l.sn _ fc hs2 HWS.out (HS.out.below' HB1.out)).mono ?_
    rintro e w2 ⟨rfl, hb2⟩
    have HB2 := Lib.hid (HB1.out.trans (hb2.mono HB1.out.size))
    clear hb2
    go_wp2
    go_ret
    exact ⟨congrArg (fun z => Ending.returned (Value.int .i64 z)) HVV.out, HB2.out⟩
  · have HVV : Hid (bookF l.bk = V) := by rw [← HV.out]; show _ = ledgF l; unfold ledgF; rw [if_neg h0]
    have t1 : (bookF l.bk != 0) = true := by simpa using h0
    clear h0 HV
    go_enter Try.func36, Try.ntmps36
    go_wp2_with fail
    refine hcall.mono ?_
    rintro e w1 ⟨rfl, hb1⟩
    have HB1 := Lib.hid ((below_new _).trans (hb1.mono (by simp)) : Below w.heap.size w w1)
    clear hb1 hcall
    go_wp2
    go_ret
    exact ⟨congrArg (fun z => Ending.returned (Value.int .i64 z)) HVV.out, HB1.out⟩

set_option maxRecDepth 100000 in
set_option maxHeartbeats 4000000 in
theorem l5Same_c (g g' : Nat) (a b : Lg) (vr vh vs vr' vh' vs' : Value) (res : Bool) (hres : sameL a b = res) (w : World) (fa fb fc fa' fb' fc' : List Nat)
    (hg : w.heap[g]? = some (lbox a.bk.now vr vh vs)) (hg' : w.heap[g']? = some (lbox b.bk.now vr' vh' vs')) (hk : LgAt w a vr vh vs fa fb fc) (hk' : LgAt w b vr' vh' vs' fa' fb' fc') :
    Calls Try.prog 82 #[.pointer (some ⟨g, 0, none⟩), .pointer (some ⟨g', 0, none⟩)] w fun e w' => e = .returned (.bool res) ∧ ∃ m, w' = w.drewN m := by
  obtain ⟨B, d, rfl⟩ := hk.s.elt_form sc_len (by omega)
  obtain ⟨B', d', rfl⟩ := hk'.s.elt_form sc_len (by omega)
  obtain ⟨c0, c1, c2, c3, _, _, _, _, hz⟩ := four_at hg
  obtain ⟨d0, d1, d2, d3, _, _, _, _, hz'⟩ := four_at hg'
  have hma := hk.s.len_le
  have hmb := hk'.s.len_le
  have HG := Lib.hid hg; have HG' := Lib.hid hg'; have HK := Lib.hid hk.b; have HK' := Lib.hid hk'.b
  have HH := Lib.hid hk.s; have HH' := Lib.hid hk'.s
  clear hk hk' hg hg'
  cases hbb : sameB a.bk b.bk
  · have e : res = false := by rw [← hres]; simp [sameL, hbb]
    subst e
    have HBB := Lib.hid hbb
    clear hres hbb
    go_enter Try.func82, Try.ntmps82
    go_wp2_with fail
    go_quiet ((go_at_call 66; exact Calls.quiet_of (l4Same_c g g' a.bk b.bk vr vh vr' vh' _ HBB.out _ fa fb fa' fb' (box_of4 HG.out) (box_of4 HG'.out) ⟨HK.out.r.drewN _, HK.out.h.drewN _⟩ ⟨HK'.out.r.drewN _, HK'.out.h.drewN _⟩)))
    go_wp2
    go_ret
    exact ⟨rfl, _, rfl⟩
  have HBB := Lib.hid hbb; clear hbb
  by_cases hl : a.sn.length = b.sn.length
  case neg =>
    have e : res = false := by rw [← hres]; simp [sameL]; intro _ e; exact hl (by rw [e])
    subst e
    have t2 : ((a.sn.length : Int) != (b.sn.length : Int)) = true := by simp; omega
    clear hres hl
    go_enter Try.func82, Try.ntmps82
    go_wp2_with fail
    go_quiet ((go_at_call 66; exact Calls.quiet_of (l4Same_c g g' a.bk b.bk vr vh vr' vh' _ HBB.out _ fa fb fa' fb' (box_of4 HG.out) (box_of4 HG'.out) ⟨HK.out.r.drewN _, HK.out.h.drewN _⟩ ⟨HK'.out.r.drewN _, HK'.out.h.drewN _⟩)))
    go_wp2
    go_ret
    exact ⟨rfl, _, rfl⟩
  have t2 : ((a.sn.length : Int) != (b.sn.length : Int)) = false := by simp [hl]
  have HL := Lib.hid hl
  have hq : decide (a.sn = b.sn) = res := by
    have h2 := HBB.out
    rw [← hres]; simp only [sameL]; rw [h2]; simp
  have HRES := Lib.hid hq
  clear hres hl hq
  go_enter Try.func82, Try.ntmps82
  go_wp2_with fail
  go_quiet ((go_at_call 66; exact Calls.quiet_of (l4Same_c g g' a.bk b.bk vr vh vr' vh' _ HBB.out _ fa fb fa' fb' (box_of4 HG.out) (box_of4 HG'.out) ⟨HK.out.r.drewN _, HK.out.h.drewN _⟩ ⟨HK'.out.r.drewN _, HK'.out.h.drewN _⟩)))
  go_wp2_with fail
  generalize a.sn = hs at *
  generalize b.sn = hs' at *
  go_loopw [5] (fun i wr => ∃ k m : Nat, k ≤ hs.length ∧ i = .int .i64 k ∧ wr = w.drewN m ∧ Hid (∀ j (h1 : j < hs.length) (h2 : j < hs'.length), j < k → hs[j] = hs'[j])) (fun i _ => hs.length - (intOf i).toNat)
  case atStart => exact ⟨0, _, Nat.zero_le _, rfl, rfl, fun j _ _ h => by omega⟩
  case round =>
    obtain ⟨k, m, hk, rfl, hw, hsame⟩ := hrel
    have x0 : wr.cell? ⟨g, 3, none⟩ = some (.slice B hs.length d) := by rw [hw]; exact c3
    have x1 : wr.cell? ⟨g', 3, none⟩ = some (.slice B' hs'.length d') := by rw [hw]; exact d3
    have ha : Rd wr 2 (.slice B hs.length d) (ecs sc hs) fc := by rw [hw]; exact HH.out.drewN m
    have hb : Rd wr 2 (.slice B' hs'.length d') (ecs sc hs') fc' := by rw [hw]; exact HH'.out.drewN m
    have hzr : g < wr.heap.size := by rw [hw]; exact hz
    have hzr' : g' < wr.heap.size := by rw [hw]; exact hz'
    have HW := Lib.hid hw; clear hw
    have q1 := seenNeq; have q2 := seenGuard
    by_cases hlt : k < hs.length
    · have hlt2 : k < hs'.length := by rw [← HL.out]; exact hlt
      obtain ⟨b1, o1, rfl, _, hl1, p0, p1⟩ := ha.seen_at hlt
      obtain ⟨b2, o2, rfl, _, hl2, r0, r1⟩ := hb.seen_at hlt2
      have hi0 : (0 : Int) ≤ (k : Int) := by omega
      have hi1 : (k : Int) < (hs.length : Int) := by omega
      have hi2 : (k : Int) < (hs'.length : Int) := by omega
      by_cases he : hs[k] = hs'[k]
      · rw [← he] at r0 r1
        have hsame' : ∀ j (h1 : j < hs.length) (h2 : j < hs'.length), j < k + 1 → hs[j] = hs'[j] := fun j h1 h2 hj => by
          by_cases e : j = k
          · subst e; exact he
          · exact hsame.out j h1 h2 (by omega)
        have HS := Lib.hid hsame'; clear hsame' he
        generalize hs[k] = r at *
        clear ha hb
        go_wp2_with fail
        go_quiet (fail)
        go_wp2_with fail
        exact ⟨⟨k + 1, _, by omega, by go_num, by rw [HW.out, World.drewN_drewN], HS.out⟩, by simp [intOf]; omega⟩
      · have hd : decide (hs[k] = hs'[k]) = false := by simp [he]
        have hres : res = false := by rw [← HRES.out]; simp; intro e; subst e; exact he rfl
        have HRS := Lib.hid hres; clear hres he
        generalize hs[k] = r at *
        generalize hs'[k] = s at *
        clear ha hb
        go_wp2_with fail
        go_quiet (fail)
        go_wp2_with fail
        go_ret
        exact ⟨by rw [HRS.out]; rfl, _, by rw [HW.out, World.drewN_drewN]⟩
    · have hres : res = true := by rw [← HRES.out]; simp; exact take_eq_of HL.out fun j h1 h2 => hsame.out j h1 h2 (by omega)
      have HRS := Lib.hid hres; clear hres
      go_wp2
      go_ret
      exact ⟨by rw [HRS.out]; rfl, m, HW.out⟩

theorem specSameLedgers_k (a b : Lg) (vr vh vs vr' vh' vs' : Value) (fa fb fc fa' fb' fc' : List Nat) (w : World) (hk : LgAt w a vr vh vs fa fb fc) (hk' : LgAt w b vr' vh' vs' fa' fb' fc') :
    Calls Try.prog 47 #[lv a.bk.now vr vh vs, lv b.bk.now vr' vh' vs'] w fun e w' => e = .returned (.bool (sameL a b)) ∧ Below w.heap.size w w' := by
  have hcall := l5Same_c w.heap.size (w.heap.size + 1) a b vr vh vs vr' vh' vs' _ rfl ((w.alloc (.cells #[.int .i64 a.bk.now, vr, vh, vs] 55)).alloc (.cells #[.int .i64 b.bk.now, vr', vh', vs'] 55)) fa fb fc fa' fb' fc' (heap_old (heap_new w _ rfl)) (heap_new _ _ (by simp)) ((hk.alloc _).alloc _) ((hk'.alloc _).alloc _)
  generalize sameL a b = res at *
  clear hk hk'
  go_enter Try.func47, Try.ntmps47
  go_wp2_with fail
  refine hcall.mono ?_
  rintro e w1 ⟨rfl, m, hw⟩
  have HW := Lib.hid hw; clear hw hcall
  go_wp2
  go_ret
  exact ⟨rfl, by rw [HW.out]; exact below_drewN' (below_more (below_new _) _) m⟩

def AskSameLedgers : Prop := ∀ (a b : Lg) (vr vh vs vr' vh' vs' : Value) (fa fb fc fa' fb' fc' : List Nat) (w : World), lsz a ≤ 1048576 → lsz b ≤ 1048576 → (∀ r ∈ a.bk.rs, WfR r) → (∀ r ∈ b.bk.rs, WfR r) → LgAt w a vr vh vs fa fb fc → LgAt w b vr' vh' vs' fa' fb' fc' →
  Calls Try.prog 48 #[lv a.bk.now vr vh vs, lv b.bk.now vr' vh' vs'] w fun e w' => e = .returned (.bool (sameL a b)) ∧ Below w.heap.size w w'

set_option maxRecDepth 100000 in
set_option maxHeartbeats 4000000 in
theorem implSameLedgers_a : AskSameLedgers := by
  intro a b vr vh vs vr' vh' vs' fa fb fc fa' fb' fc' w hs hs' hwa hwb hk hk'
  obtain ⟨B, d, rfl⟩ := hk.s.elt_form sc_len (by omega)
  obtain ⟨B', d', rfl⟩ := hk'.s.elt_form sc_len (by omega)
  have hsa : bsz a.bk ≤ 1048576 := by unfold lsz at hs; omega
  have hsb : bsz b.bk ≤ 1048576 := by unfold lsz at hs'; omega
  generalize hres : sameL a b = res
  have HWA := Lib.hid hwa; have HWB := Lib.hid hwb; have HK := Lib.hid hk; have HK' := Lib.hid hk'; have HRES := Lib.hid hres
  clear hk hk' hs hs' hwa hwb hres
  have HBW : Hid (Below w.heap.size w ((w.alloc (.cells #[.int .i64 a.bk.now, vr, vh, .slice B a.sn.length d] 55)).alloc (.cells #[.int .i64 b.bk.now, vr', vh', .slice B' b.sn.length d'] 55))) := below_more (below_new _) _
  have G1 : Hid (((w.alloc (.cells #[.int .i64 a.bk.now, vr, vh, .slice B a.sn.length d] 55)).alloc (.cells #[.int .i64 b.bk.now, vr', vh', .slice B' b.sn.length d'] 55)).heap[w.heap.size]? = some (lbox a.bk.now vr vh (.slice B a.sn.length d))) := heap_old (heap_new w _ rfl)
  have G2 : Hid (((w.alloc (.cells #[.int .i64 a.bk.now, vr, vh, .slice B a.sn.length d] 55)).alloc (.cells #[.int .i64 b.bk.now, vr', vh', .slice B' b.sn.length d'] 55)).heap[w.heap.size + 1]? = some (lbox b.bk.now vr' vh' (.slice B' b.sn.length d'))) := heap_new _ _ (by simp)
  go_enter Try.func48, Try.ntmps48
  go_wp2_with fail
  generalize ((w.alloc (.cells #[.int .i64 a.bk.now, vr, vh, .slice B a.sn.length d] 55)).alloc (.cells #[.int .i64 b.bk.now, vr', vh', .slice B' b.sn.length d'] 55)) = W at *
  refine (implSameBooks_a a.bk b.bk vr vh vr' vh' fa fb fa' fb' _ hsa hsb HWA.out HWB.out (HK.out.b.below' HBW.out) (HK'.out.b.below' HBW.out)).mono ?_
  rintro e w1 ⟨rfl, hb1⟩
  obtain ⟨l0, l1, l2, l3, _, _, _, _, hzl⟩ := four_at ((hb1.block _ (heap_lt G1.out)).trans G1.out)
  obtain ⟨m0, m1, m2, m3, _, _, _, _, hzm⟩ := four_at ((hb1.block _ (heap_lt G2.out)).trans G2.out)
  have HB1 := Lib.hid (HBW.out.trans (hb1.mono HBW.out.size))
  clear hb1
  cases hrr : sameB a.bk b.bk
  · have e : false = res := by rw [← HRES.out]; simp [sameL, hrr]
    have HE := Lib.hid e
    clear e hrr
    go_wp2
    go_ret
    exact ⟨congrArg (fun z => Ending.returned (Value.bool z)) HE.out, HB1.out⟩
  · have e : decide (a.sn = b.sn) = res := by rw [← HRES.out]; simp [sameL, hrr]
    have HE := Lib.hid e
    clear e hrr
    go_wp2_with fail
    refine (equalSeen_q B B' d d' a.sn b.sn _ HE.out _ fc fc' (HK.out.s.below' HB1.out) (HK'.out.s.below' HB1.out)).mono ?_
    rintro e w2 ⟨rfl, m, hw⟩
    have HW := Lib.hid hw; clear hw
    go_wp2
    go_ret
    exact ⟨rfl, by rw [HW.out]; exact below_drewN' HB1.out m⟩
end Go.Proofs.Ytfohlopbfanaeaa
