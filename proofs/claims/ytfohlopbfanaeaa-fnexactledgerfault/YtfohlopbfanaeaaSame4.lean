/-
  Books compared: the model's l4Same and SameBooks, the program's SameBooks.
-/
import Derived.Test.YtfohlopbfanaeaaSames4
import Derived.Test.YtfohlopbfanaeaaImpl2b
namespace Go.Proofs.Ytfohlopbfanaeaa
open Go.RowKit

/-- Whether two books are the same. -/
def sameB (a b : Bk) : Bool := decide (a.now = b.now) && (decide (a.rs = b.rs) && decide (a.hs = b.hs))

set_option maxRecDepth 100000 in
set_option maxHeartbeats 4000000 in
theorem l4Same_c (g g' : Nat) (a b : Bk) (vr vh vr' vh' : Value) (res : Bool) (hres : sameB a b = res) (w : World) (fa fb fa' fb' : List Nat)
    (hg : BoxAt w g (.int .i64 a.now) vr vh) (hg' : BoxAt w g' (.int .i64 b.now) vr' vh') (hk : BkAt w a vr vh fa fb) (hk' : BkAt w b vr' vh' fa' fb') :
    Calls Try.prog 66 #[.pointer (some ⟨g, 0, none⟩), .pointer (some ⟨g', 0, none⟩)] w fun e w' => e = .returned (.bool res) ∧ ∃ m, w' = w.drewN m := by
  obtain ⟨A, c, B, d, rfl, rfl⟩ := hk.form
  obtain ⟨A', c', B', d', rfl, rfl⟩ := hk'.form
  obtain ⟨now, rs, hs⟩ := a
  obtain ⟨now', rs', hs'⟩ := b
  simp only at hg hg' hk hk'
  obtain ⟨c0, c1, c2, _, _, _, hz⟩ := box_at hg
  obtain ⟨d0, d1, d2, _, _, _, hz'⟩ := box_at hg'
  have hma := hk.h.len_le
  have hmb := hk'.h.len_le
  have HR := Lib.hid hk.r; have HR' := Lib.hid hk'.r; have HH := Lib.hid hk.h; have HH' := Lib.hid hk'.h
  simp only at HR HR' HH HH' hma hmb
  clear hk hk' hg hg'
  by_cases hn : now = now'
  case neg =>
    have e : res = false := by rw [← hres]; simp [sameB, hn]
    subst e
    have t1 : (now != now') = true := by simpa using hn
    clear hn hres
    go_enter Try.func66, Try.ntmps66
    go_wp2_with fail
    go_quiet (fail)
    go_wp2
    go_ret
    exact ⟨rfl, _, rfl⟩
  have t1 : (now != now') = false := by simpa using hn
  cases hrr : decide (rs = rs')
  · have e : res = false := by rw [← hres]; simp [sameB, hrr]
    subst e
    have HRR := Lib.hid hrr
    clear hn hres hrr
    go_enter Try.func66, Try.ntmps66
    go_wp2_with fail
    go_quiet ((go_at_call 104; exact Calls.quiet_of (specSameRows_q A A' c c' rs rs' _ HRR.out _ fa fa' (HR.out.drewN _) (HR'.out.drewN _))))
    go_wp2
    go_ret
    exact ⟨rfl, _, rfl⟩
  have HRR := Lib.hid hrr; clear hrr
  by_cases hl : hs.length = hs'.length
  case neg =>
    have e : res = false := by rw [← hres]; simp [sameB]; intro _ _ e; exact hl (by rw [e])
    subst e
    have t2 : ((hs.length : Int) != (hs'.length : Int)) = true := by simp; omega
    clear hn hres hl
    go_enter Try.func66, Try.ntmps66
    go_wp2_with fail
    go_quiet ((go_at_call 104; exact Calls.quiet_of (specSameRows_q A A' c c' rs rs' _ HRR.out _ fa fa' (HR.out.drewN _) (HR'.out.drewN _))))
    go_wp2
    go_ret
    exact ⟨rfl, _, rfl⟩
  have t2 : ((hs.length : Int) != (hs'.length : Int)) = false := by simp [hl]
  have HL := Lib.hid hl
  have hq : decide (hs = hs') = res := by
    have h2 := HRR.out
    rw [← hres]; simp only [sameB]; rw [h2, hn]; simp
  have HRES := Lib.hid hq
  clear hn hres hl hq
  go_enter Try.func66, Try.ntmps66
  go_wp2_with fail
  go_quiet ((go_at_call 104; exact Calls.quiet_of (specSameRows_q A A' c c' rs rs' _ HRR.out _ fa fa' (HR.out.drewN _) (HR'.out.drewN _))))
  go_wp2_with fail
  go_loopw [5] (fun i wr => ∃ k m : Nat, k ≤ hs.length ∧ i = .int .i64 k ∧ wr = w.drewN m ∧ Hid (∀ j (h1 : j < hs.length) (h2 : j < hs'.length), j < k → hs[j] = hs'[j])) (fun i _ => hs.length - (intOf i).toNat)
  case atStart => exact ⟨0, _, Nat.zero_le _, rfl, rfl, fun j _ _ h => by omega⟩
  case round =>
    obtain ⟨k, m, hk, rfl, hw, hsame⟩ := hrel
    have x0 : wr.cell? ⟨g, 2, none⟩ = some (.slice B hs.length d) := by rw [hw]; exact c2
    have x1 : wr.cell? ⟨g', 2, none⟩ = some (.slice B' hs'.length d') := by rw [hw]; exact d2
    have ha : Rd wr 5 (.slice B hs.length d) (ecs hc hs) fb := by rw [hw]; exact HH.out.drewN m
    have hb : Rd wr 5 (.slice B' hs'.length d') (ecs hc hs') fb' := by rw [hw]; exact HH'.out.drewN m
    have hzr : g < wr.heap.size := by rw [hw]; exact hz
    have hzr' : g' < wr.heap.size := by rw [hw]; exact hz'
    have HW := Lib.hid hw; clear hw
    have q1 := holdNeq; have q2 := holdGuard
    by_cases hlt : k < hs.length
    · have hlt2 : k < hs'.length := by rw [← HL.out]; exact hlt
      obtain ⟨b1, o1, rfl, _, hl1, p0, p1, p2, p3, p4⟩ := ha.hold_at hlt
      obtain ⟨b2, o2, rfl, _, hl2, r0, r1, r2, r3, r4⟩ := hb.hold_at hlt2
      have hi0 : (0 : Int) ≤ (k : Int) := by omega
      have hi1 : (k : Int) < (hs.length : Int) := by omega
      have hi2 : (k : Int) < (hs'.length : Int) := by omega
      by_cases he : hs[k] = hs'[k]
      · rw [← he] at r0 r1 r2 r3 r4
        have hsame' : ∀ j (h1 : j < hs.length) (h2 : j < hs'.length), j < k + 1 → hs[j] = hs'[j] := fun j h1 h2 hj => by
          by_cases e : j = k
          · subst e; exact he
          · exact hsame.out j h1 h2 (by omega)
        have HS := Lib.hid hsame'; clear hsame' he
        generalize hs[k] = r at *
        clear ha hb
        go_wp2_with fail
        go_quiet (fail)
        go_wp2_with fail
        exact ⟨⟨k + 1, _, by omega, by go_num, by rw [HW.out, World.drewN_drewN], HS.out⟩, by simp [intOf]; omega⟩
      · have hd : decide (hs[k] = hs'[k]) = false := by simp [he]
        have hres : res = false := by rw [← HRES.out]; simp; intro e; subst e; exact he rfl
        have HRS := Lib.hid hres; clear hres he
        generalize hs[k] = r at *
        generalize hs'[k] = s at *
        clear ha hb
        go_wp2_with fail
        go_quiet (fail)
        go_wp2_with fail
        go_ret
        exact ⟨by rw [HRS.out]; rfl, _, by rw [HW.out, World.drewN_drewN]⟩
    · have hres : res = true := by rw [← HRES.out]; simp; exact take_eq_of HL.out fun j h1 h2 => hsame.out j h1 h2 (by omega)
      have HRS := Lib.hid hres; clear hres
      go_wp2
      go_ret
      exact ⟨by rw [HRS.out]; rfl, m, HW.out⟩

theorem specSameBooks_k (a b : Bk) (vr vh vr' vh' : Value) (fa fb fa' fb' : List Nat) (w : World) (hk : BkAt w a vr vh fa fb) (hk' : BkAt w b vr' vh' fa' fb') :
    Calls Try.prog 24 #[bv a.now vr vh, bv b.now vr' vh'] w fun e w' => e = .returned (.bool (sameB a b)) ∧ Below w.heap.size w w' := by
  have hcall := l4Same_c w.heap.size (w.heap.size + 1) a b vr vh vr' vh' _ rfl ((w.alloc (.cells #[.int .i64 a.now, vr, vh] 31)).alloc (.cells #[.int .i64 b.now, vr', vh'] 31)) fa fb fa' fb' (box_of (heap_old (heap_new w _ rfl))) (box_of (heap_new _ _ (by simp))) ((hk.alloc _).alloc _) ((hk'.alloc _).alloc _)
  generalize sameB a b = res at *
  clear hk hk'
  go_enter Try.func24, Try.ntmps24
  go_wp2_with fail
  refine hcall.mono ?_
  rintro e w1 ⟨rfl, m, hw⟩
  have HW := Lib.hid hw; clear hw hcall
  go_wp2
  go_ret
  exact ⟨rfl, by rw [HW.out]; exact below_drewN' (below_more (below_new _) _) m⟩

def AskSameBooks : Prop := ∀ (a b : Bk) (vr vh vr' vh' : Value) (fa fb fa' fb' : List Nat) (w : World), bsz a ≤ 1048576 → bsz b ≤ 1048576 → (∀ r ∈ a.rs, WfR r) → (∀ r ∈ b.rs, WfR r) → BkAt w a vr vh fa fb → BkAt w b vr' vh' fa' fb' →
  Calls Try.prog 25 #[bv a.now vr vh, bv b.now vr' vh'] w fun e w' => e = .returned (.bool (sameB a b)) ∧ Below w.heap.size w w'

set_option maxRecDepth 100000 in
set_option maxHeartbeats 4000000 in
theorem implSameBooks_a : AskSameBooks := by
  intro a b vr vh vr' vh' fa fb fa' fb' w hs hs' hwa hwb hk hk'
  obtain ⟨A, c, B, d, rfl, rfl⟩ := hk.form
  obtain ⟨A', c', B', d', rfl, rfl⟩ := hk'.form
  have hsa : a.rs.length ≤ 1048576 := by unfold bsz at hs; omega
  have hsb : b.rs.length ≤ 1048576 := by unfold bsz at hs'; omega
  generalize hres : sameB a b = res
  have HWA := Lib.hid hwa; have HWB := Lib.hid hwb; have HK := Lib.hid hk; have HK' := Lib.hid hk'
  clear hk hk' hs hs' hwa hwb
  have HBW : Hid (Below w.heap.size w ((w.alloc (.cells #[.int .i64 a.now, .slice A a.rs.length c, .slice B a.hs.length d] 31)).alloc (.cells #[.int .i64 b.now, .slice A' b.rs.length c', .slice B' b.hs.length d'] 31))) := below_more (below_new _) _
  by_cases hn : a.now = b.now
  case neg =>
    have e : res = false := by rw [← hres]; simp [sameB, hn]
    subst e
    have t1 : (a.now == b.now) = false := by simpa using hn
    clear hn hres
    go_enter Try.func25, Try.ntmps25
    go_wp2
    go_ret
    exact ⟨rfl, HBW.out⟩
  have t1 : (a.now == b.now) = true := by simpa using hn
  have G1 : Hid (((w.alloc (.cells #[.int .i64 a.now, .slice A a.rs.length c, .slice B a.hs.length d] 31)).alloc (.cells #[.int .i64 b.now, .slice A' b.rs.length c', .slice B' b.hs.length d'] 31)).heap[w.heap.size]? = some (.cells #[.int .i64 a.now, .slice A a.rs.length c, .slice B a.hs.length d] 31 (0, 0))) := heap_old (heap_new w _ rfl)
  have G2 : Hid (((w.alloc (.cells #[.int .i64 a.now, .slice A a.rs.length c, .slice B a.hs.length d] 31)).alloc (.cells #[.int .i64 b.now, .slice A' b.rs.length c', .slice B' b.hs.length d'] 31)).heap[w.heap.size + 1]? = some (.cells #[.int .i64 b.now, .slice A' b.rs.length c', .slice B' b.hs.length d'] 31 (0, 0))) := heap_new _ _ (by simp)
  have hq : res = (decide (a.rs = b.rs) && decide (a.hs = b.hs)) := by rw [← hres]; simp [sameB, hn]
  have HQ := Lib.hid hq
  clear hq hres hn
  go_enter Try.func25, Try.ntmps25
  go_wp2_with fail
  generalize ((w.alloc (.cells #[.int .i64 a.now, .slice A a.rs.length c, .slice B a.hs.length d] 31)).alloc (.cells #[.int .i64 b.now, .slice A' b.rs.length c', .slice B' b.hs.length d'] 31)) = W at *
  refine (implSameRows_a A A' c c' a.rs b.rs _ fa fa' hsa hsb HWA.out HWB.out (HK.out.r.below' HBW.out) (HK'.out.r.below' HBW.out)).mono ?_
  rintro e w1 ⟨rfl, hb1⟩
  obtain ⟨l0, l1, l2, _, _, _, hzl⟩ := three_at ((hb1.block _ (heap_lt G1.out)).trans G1.out)
  obtain ⟨m0, m1, m2, _, _, _, hzm⟩ := three_at ((hb1.block _ (heap_lt G2.out)).trans G2.out)
  have HB1 := Lib.hid (HBW.out.trans (hb1.mono HBW.out.size))
  clear hb1
  cases hrr : decide (a.rs = b.rs)
  · have e : false = res := by rw [HQ.out, hrr]; rfl
    have HE := Lib.hid e
    clear e hrr
    go_wp2
    go_ret
    exact ⟨congrArg (fun z => Ending.returned (Value.bool z)) HE.out, HB1.out⟩
  · have e : decide (a.hs = b.hs) = res := by rw [HQ.out, hrr]; rfl
    have HE := Lib.hid e
    clear e hrr
    go_wp2_with fail
    refine (equalHold_q B B' d d' a.hs b.hs _ HE.out _ fb fb' (HK.out.h.below' HB1.out) (HK'.out.h.below' HB1.out)).mono ?_
    rintro e w2 ⟨rfl, m, hw⟩
    have HW := Lib.hid hw; clear hw
    go_wp2
    go_ret
    exact ⟨rfl, by rw [HW.out]; exact below_drewN' HB1.out m⟩
end Go.Proofs.Ytfohlopbfanaeaa
