/-
  Contracts of the model's functions of chapter 2, second part: faults, keys, comparison, finding.
-/
import Derived.Test.YtoabohllphoioaaG1
import Derived.Test.YtoabohllphoioaaRowEq
namespace Go.Proofs.Ytoabohllphoioaa
open Go.RowKit

/-- The code and the value of KeyOf. -/
def keyP (l s : Int) : Int × Int := if isB l s then (0, 21 * l + s) else (3, 0)
theorem take_eq_of {α : Type} {xs ys : List α} (hl : xs.length = ys.length) (h : ∀ j (h1 : j < xs.length) (h2 : j < ys.length), xs[j] = ys[j]) : xs = ys := List.ext_getElem hl fun j h1 h2 => h j h1 h2

set_option maxRecDepth 100000 in
set_option maxHeartbeats 1000000 in
theorem specSameRows_c (A B : Option Addr) (c d : Nat) (xs ys : List R) (w : World) (fp fq : List Nat)
    (ha : Rd w 4 (.slice A xs.length c) (rcs xs) fp) (hb : Rd w 4 (.slice B ys.length d) (rcs ys) fq) :
    Calls Try.prog 118 #[.slice A xs.length c, .slice B ys.length d] w fun e w' => e = .returned (.bool (decide (xs = ys))) ∧ Below w.heap.size w w' := by
  have hmax := ha.len_le
  have hmax2 := hb.len_le
  by_cases hl : xs.length = ys.length
  · have hne : ((xs.length : Int) != (ys.length : Int)) = false := by simp [hl]
    have HL := Lib.hid hl; clear hl
    generalize hR : decide (xs = ys) = res
    have HR := Lib.hid hR; clear hR
    have q1 := rowNeq; have q2 := rowGuard
    go_enter Try.func118, Try.ntmps118
    go_wp2
    go_loopw [5] (fun i wr => ∃ k m : Nat, k ≤ xs.length ∧ i = .int .i64 k ∧ wr = w.drewN m ∧ Hid (∀ j (h1 : j < xs.length) (h2 : j < ys.length), j < k → xs[j] = ys[j])) (fun i _ => xs.length - (intOf i).toNat)
    case atStart => exact ⟨0, 0, Nat.zero_le _, rfl, rfl, fun j _ _ h => by omega⟩
    case round =>
      obtain ⟨k, m, hk, rfl, rfl, hsame⟩ := hrel
      by_cases hlt : k < xs.length
      · have hlt2 : k < ys.length := by rw [← HL.out]; exact hlt
        obtain ⟨b1, o1, rfl, _, hl1, p0, p1, p2, p3⟩ := ha.row_at hlt
        obtain ⟨b2, o2, rfl, _, hl2, r0, r1, r2, r3⟩ := hb.row_at hlt2
        by_cases he : xs[k] = ys[k]
        · rw [← he] at r0 r1 r2 r3
          have hsame' : ∀ j (h1 : j < xs.length) (h2 : j < ys.length), j < k + 1 → xs[j] = ys[j] := fun j h1 h2 hj => by
            by_cases e : j = k
            · subst e; exact he
            · exact hsame.out j h1 h2 (by omega)
          have HS := Lib.hid hsame'; clear hsame' he
          generalize xs[k] = r at *
          clear ha hb
          go_wp2_with fail
          go_quiet (fail)
          go_wp2_with fail
          exact ⟨⟨k + 1, _, by omega, by go_num, rfl, HS.out⟩, by simp [intOf]; omega⟩
        · have hd : decide (xs[k] = ys[k]) = false := by simp [he]
          have hres : res = false := by rw [← HR.out]; simp; intro e; subst e; exact he rfl
          have HRS := Lib.hid hres; clear hres he
          generalize xs[k] = r at *
          generalize ys[k] = s at *
          clear ha hb
          go_wp2_with fail
          go_quiet (fail)
          go_wp2_with fail
          go_ret
          exact ⟨by rw [HRS.out]; rfl, by repeat (first | with_reducible exact Below.refl _ _ | with_reducible exact below_new _ | with_reducible refine below_set ?_ _ _ | with_reducible refine below_drewN' ?_ _ | with_reducible assumption | with_reducible refine below_more ?_ _)⟩
      · have hres : res = true := by rw [← HR.out]; simp; exact take_eq_of HL.out fun j h1 h2 => hsame.out j h1 h2 (by omega)
        have HRS := Lib.hid hres; clear hres
        go_wp2
        go_ret
        exact ⟨by rw [HRS.out]; rfl, by repeat (first | with_reducible exact Below.refl _ _ | with_reducible exact below_new _ | with_reducible refine below_set ?_ _ _ | with_reducible refine below_drewN' ?_ _ | with_reducible assumption | with_reducible refine below_more ?_ _)⟩
  · have hne : ((xs.length : Int) != (ys.length : Int)) = true := by simp; omega
    have hd : decide (xs = ys) = false := by simp; intro e; subst e; exact hl rfl
    rw [hd]
    clear hd hl
    go_enter Try.func118, Try.ntmps118
    go_wp2
    go_ret
    exact ⟨rfl, Below.refl _ _⟩

/-- The row with a Loc and a Sku. -/
def getR (rs : List R) (l s : Int) : Option R := rs.find? fun r => decide (r.1 = l) && decide (r.2.1 = s)
theorem getR_drop_succ (rs : List R) (l s : Int) (k : Nat) (h : k < rs.length) : getR (rs.drop k) l s = if rs[k].1 = l ∧ rs[k].2.1 = s then some rs[k] else getR (rs.drop (k + 1)) l s := by
  rw [List.drop_eq_getElem_cons h]
  unfold getR
  rw [List.find?_cons]
  by_cases h1 : rs[k].1 = l <;> by_cases h2 : rs[k].2.1 = s <;> simp [h1, h2]
def getV (rs : List R) (l s : Int) : R := (getR rs l s).getD (l, s, 0, 0)

/-- The code of FindRow, and the row beside it. -/
def findC (rs : List R) (l s : Int) : Int := if rowsF rs ≠ 0 then rowsF rs else if isB l s then (if (getR rs l s).isSome then 0 else 4) else 3
def findV (rs : List R) (l s : Int) : R := if findC rs l s = 0 then getV rs l s else (0, 0, 0, 0)

end Go.Proofs.Ytoabohllphoioaa
