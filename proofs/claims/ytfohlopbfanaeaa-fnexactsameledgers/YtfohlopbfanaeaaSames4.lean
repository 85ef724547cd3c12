/-
  Slices compared element by element: rows by the model, holds by slices.Equal.
-/
import Derived.Test.YtfohlopbfanaeaaBookH
import Derived.Test.YtfohlopbfanaeaaHoldEq
namespace Go.Proofs.Ytfohlopbfanaeaa
open Go.RowKit

set_option maxRecDepth 100000 in
set_option maxHeartbeats 1000000 in
theorem specSameRows_q (A B : Option Addr) (c d : Nat) (xs ys : List R) (res : Bool) (hR : decide (xs = ys) = res) (w : World) (fp fq : List Nat)
    (ha : Rd w 4 (.slice A xs.length c) (rcs xs) fp) (hb : Rd w 4 (.slice B ys.length d) (rcs ys) fq) :
    Calls Try.prog 104 #[.slice A xs.length c, .slice B ys.length d] w fun e w' => e = .returned (.bool res) ∧ ∃ m, w' = w.drewN m := by
  have hmax := ha.len_le
  have hmax2 := hb.len_le
  by_cases hl : xs.length = ys.length
  · have hne : ((xs.length : Int) != (ys.length : Int)) = false := by simp [hl]
    have HL := Lib.hid hl; clear hl
    have HR := Lib.hid hR; clear hR
    have q1 := rowNeq; have q2 := rowGuard
    go_enter Try.func104, Try.ntmps104
    go_wp2
    go_loopw [5] (fun i wr => ∃ k m : Nat, k ≤ xs.length ∧ i = .int .i64 k ∧ wr = w.drewN m ∧ Hid (∀ j (h1 : j < xs.length) (h2 : j < ys.length), j < k → xs[j] = ys[j])) (fun i _ => xs.length - (intOf i).toNat)
    case atStart => exact ⟨0, 0, Nat.zero_le _, rfl, rfl, fun j _ _ h => by omega⟩
    case round =>
      obtain ⟨k, m, hk, rfl, rfl, hsame⟩ := hrel
      by_cases hlt : k < xs.length
      · have hlt2 : k < ys.length := by rw [← HL.out]; exact hlt
        obtain ⟨b1, o1, rfl, _, hl1, p0, p1, p2, p3⟩ := ha.row_at hlt
        obtain ⟨b2, o2, rfl, _, hl2, r0, r1, r2, r3⟩ := hb.row_at hlt2
        by_cases he : xs[k] = ys[k]
        · rw [← he] at r0 r1 r2 r3
          have hsame' : ∀ j (h1 : j < xs.length) (h2 : j < ys.length), j < k + 1 → xs[j] = ys[j] := fun j h1 h2 hj => by
            by_cases e : j = k
            · subst e; exact he
            · exact hsame.out j h1 h2 (by omega)
          have HS := Lib.hid hsame'; clear hsame' he
          generalize xs[k] = r at *
          clear ha hb
          go_wp2_with fail
          go_quiet (fail)
          go_wp2_with fail
          exact ⟨⟨k + 1, _, by omega, by go_num, rfl, HS.out⟩, by simp [intOf]; omega⟩
        · have hd : decide (xs[k] = ys[k]) = false := by simp [he]
          have hres : res = false := by rw [← HR.out]; simp; intro e; subst e; exact he rfl
          have HRS := Lib.hid hres; clear hres he
          generalize xs[k] = r at *
          generalize ys[k] = s at *
          clear ha hb
          go_wp2_with fail
          go_quiet (fail)
          go_wp2_with fail
          go_ret
          exact ⟨by rw [HRS.out]; rfl, by first | exact ⟨_, rfl⟩ | exact ⟨_, World.drewN_drewN _ _ _⟩⟩
      · have hres : res = true := by rw [← HR.out]; simp; exact take_eq_of HL.out fun j h1 h2 => hsame.out j h1 h2 (by omega)
        have HRS := Lib.hid hres; clear hres
        go_wp2
        go_ret
        exact ⟨by rw [HRS.out]; rfl, m, rfl⟩
  · have hne : ((xs.length : Int) != (ys.length : Int)) = true := by simp; omega
    have hd : res = false := by rw [← hR]; simp; intro e; subst e; exact hl rfl
    subst hd
    clear hR hl
    go_enter Try.func104, Try.ntmps104
    go_wp2
    go_ret
    exact ⟨rfl, 0, rfl⟩

set_option maxRecDepth 100000 in
set_option maxHeartbeats 1000000 in
theorem equalHold_q (A B : Option Addr) (c d : Nat) (xs ys : List Hd) (res : Bool) (hR : decide (xs = ys) = res) (w : World) (fp fq : List Nat)
    (ha : Rd w 5 (.slice A xs.length c) (ecs hc xs) fp) (hb : Rd w 5 (.slice B ys.length d) (ecs hc ys) fq) :
    Calls Try.prog 68 #[.slice A xs.length c, .slice B ys.length d] w fun e w' => e = .returned (.bool res) ∧ ∃ m, w' = w.drewN m := by
  have hmax := ha.len_le
  have hmax2 := hb.len_le
  by_cases hl : xs.length = ys.length
  · have hne : ((xs.length : Int) != (ys.length : Int)) = false := by simp [hl]
    have HL := Lib.hid hl; clear hl
    have HR := Lib.hid hR; clear hR
    have q1 := holdNeq; have q2 := holdGuard
    go_enter Try.func68, Try.ntmps68
    go_wp2
    go_loopw [13] (fun i wr => ∃ k m : Nat, k ≤ xs.length ∧ i = .int .i64 k ∧ wr = w.drewN m ∧ Hid (∀ j (h1 : j < xs.length) (h2 : j < ys.length), j < k → xs[j] = ys[j])) (fun i _ => xs.length - (intOf i).toNat)
    case atStart => exact ⟨0, 0, Nat.zero_le _, rfl, rfl, fun j _ _ h => by omega⟩
    case round =>
      obtain ⟨k, m, hk, rfl, rfl, hsame⟩ := hrel
      by_cases hlt : k < xs.length
      · have hlt2 : k < ys.length := by rw [← HL.out]; exact hlt
        obtain ⟨b1, o1, rfl, _, hl1, p0, p1, p2, p3, p4⟩ := ha.hold_at hlt
        obtain ⟨b2, o2, rfl, _, hl2, r0, r1, r2, r3, r4⟩ := hb.hold_at hlt2
        by_cases he : xs[k] = ys[k]
        · rw [← he] at r0 r1 r2 r3 r4
          have hsame' : ∀ j (h1 : j < xs.length) (h2 : j < ys.length), j < k + 1 → xs[j] = ys[j] := fun j h1 h2 hj => by
            by_cases e : j = k
            · subst e; exact he
            · exact hsame.out j h1 h2 (by omega)
          have HS := Lib.hid hsame'; clear hsame' he
          generalize xs[k] = r at *
          clear ha hb
          go_wp2_with fail
          go_quiet (fail)
          go_wp2_with fail
          exact ⟨⟨k + 1, _, by omega, by go_num, rfl, HS.out⟩, by simp [intOf]; omega⟩
        · have hd : decide (xs[k] = ys[k]) = false := by simp [he]
          have hres : res = false := by rw [← HR.out]; simp; intro e; subst e; exact he rfl
          have HRS := Lib.hid hres; clear hres he
          generalize xs[k] = r at *
          generalize ys[k] = s at *
          clear ha hb
          go_wp2_with fail
          go_quiet (fail)
          go_wp2_with fail
          go_ret
          exact ⟨by rw [HRS.out]; rfl, by first | exact ⟨_, rfl⟩ | exact ⟨_, World.drewN_drewN _ _ _⟩⟩
      · have hres : res = true := by rw [← HR.out]; simp; exact take_eq_of HL.out fun j h1 h2 => hsame.out j h1 h2 (by omega)
        have HRS := Lib.hid hres; clear hres
        go_wp2
        go_ret
        exact ⟨by rw [HRS.out]; rfl, m, rfl⟩
  · have hne : ((xs.length : Int) != (ys.length : Int)) = true := by simp; omega
    have hd : res = false := by rw [← hR]; simp; intro e; subst e; exact hl rfl
    subst hd
    clear hR hl
    go_enter Try.func68, Try.ntmps68
    go_wp2
    go_ret
    exact ⟨rfl, 0, rfl⟩

end Go.Proofs.Ytfohlopbfanaeaa
