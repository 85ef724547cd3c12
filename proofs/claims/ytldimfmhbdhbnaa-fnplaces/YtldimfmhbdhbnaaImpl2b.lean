/-
  Contracts of the program's functions of chapter 2, second part: finding a row, comparing rows.
-/
import Derived.Test.YtldimfmhbdhbnaaG27
namespace Go.Proofs.Ytldimfmhbdhbnaa
open Go.RowKit

theorem key_is {l s : Int} {x : R} (hf : Fit x) (hi : isB l s = true) : keyR x = 21 * l + s ↔ x.1 = l ∧ x.2.1 = s := by
  unfold isB at hi
  rw [Bool.and_eq_true, inB_true, inB_true] at hi
  unfold Fit at hf; unfold keyR; omega
theorem five_at {w : World} {g : Nat} {u v x y z : Value} {t : TypeId} (h : w.heap[g]? = some (.cells #[u, v, x, y, z] t (0, 0))) :
    w.cell? ⟨g, 0, none⟩ = some u ∧ w.cell? ⟨g, 1, none⟩ = some v ∧ w.cell? ⟨g, 2, none⟩ = some x ∧ w.cell? ⟨g, 3, none⟩ = some y ∧ w.cell? ⟨g, 4, none⟩ = some z ∧
    w.frozen? ⟨g, 0, none⟩ = false ∧ w.frozen? ⟨g, 1, none⟩ = false ∧ w.frozen? ⟨g, 2, none⟩ = false ∧ w.frozen? ⟨g, 3, none⟩ = false ∧ w.frozen? ⟨g, 4, none⟩ = false ∧ g < w.heap.size :=
  ⟨cell_of_heap h, cell_of_heap h, cell_of_heap h, cell_of_heap h, cell_of_heap h, frozen_of_heap h, frozen_of_heap h, frozen_of_heap h, frozen_of_heap h, frozen_of_heap h, heap_lt h⟩
/-- Five stores into one block. -/
theorem But.five (w : World) (g : Nat) (a b c d e : Value) : But [g] w (((((w.setCell ⟨g, 0, none⟩ a).setCell ⟨g, 1, none⟩ b).setCell ⟨g, 2, none⟩ c).setCell ⟨g, 3, none⟩ d).setCell ⟨g, 4, none⟩ e) :=
  (((((But.refl [g] w).setCell (p := ⟨g, 0, none⟩) (by simp) a).setCell (p := ⟨g, 1, none⟩) (by simp) b).setCell (p := ⟨g, 2, none⟩) (by simp) c).setCell (p := ⟨g, 3, none⟩) (by simp) d).setCell (p := ⟨g, 4, none⟩) (by simp) e
theorem below_five {w w1 : World} (hb : Below w.heap.size w w1) (a b c d e : Value) : Below w.heap.size w (((((w1.setCell ⟨w.heap.size, 0, none⟩ a).setCell ⟨w.heap.size, 1, none⟩ b).setCell ⟨w.heap.size, 2, none⟩ c).setCell ⟨w.heap.size, 3, none⟩ d).setCell ⟨w.heap.size, 4, none⟩ e) :=
  hb.trans ((But.five w1 w.heap.size a b c d e).below hb.size (by intro b hb; simp at hb; omega))

set_option maxRecDepth 100000 in
set_option maxHeartbeats 1000000 in
theorem implSameRows_a : AskSameRows := by
  intro A B c d xs ys w fp fq _ _ _ _ ha hb
  have hmax := ha.len_le
  have hmax2 := hb.len_le
  by_cases hl : xs.length = ys.length
  · have hne : ((xs.length : Int) != (ys.length : Int)) = false := by simp [hl]
    have HL := Lib.hid hl; clear hl
    generalize hR : decide (xs = ys) = res
    have HR := Lib.hid hR; clear hR
    have q1 := rowNeq; have q2 := rowGuard
    go_enter Try.func17, Try.ntmps17
    go_wp2
    go_loopw [13] (fun i wr => ∃ k m : Nat, k ≤ xs.length ∧ i = .int .i64 k ∧ wr = w.drewN m ∧ Hid (∀ j (h1 : j < xs.length) (h2 : j < ys.length), j < k → xs[j] = ys[j])) (fun i _ => xs.length - (intOf i).toNat)
    case atStart => exact ⟨0, 0, Nat.zero_le _, rfl, rfl, fun j _ _ h => by omega⟩
    case round =>
      obtain ⟨k, m, hk, rfl, rfl, hsame⟩ := hrel
      by_cases hlt : k < xs.length
      · have hlt2 : k < ys.length := by rw [← HL.out]; exact hlt
        obtain ⟨b1, o1, rfl, _, hl1, p0, p1, p2, p3⟩ := ha.row_at hlt
        obtain ⟨b2, o2, rfl, _, hl2, r0, r1, r2, r3⟩ := hb.row_at hlt2
        by_cases he : xs[k] = ys[k]
        · rw [← he] at r0 r1 r2 r3
          have hsame' : ∀ j (h1 : j < xs.length) (h2 : j < ys.length), j < k + 1 → xs[j] = ys[j] := fun j h1 h2 hj => by
            by_cases e : j = k
            · subst e; exact he
            · exact hsame.out j h1 h2 (by omega)
          have HS := Lib.hid hsame'; clear hsame' he
          generalize xs[k] = r at *
          clear ha hb
          go_wp2_with fail
          go_quiet (fail)
          go_wp2_with fail
          exact ⟨⟨k + 1, _, by omega, by go_num, rfl, HS.out⟩, by simp [intOf]; omega⟩
        · have hd : decide (xs[k] = ys[k]) = false := by simp [he]
          have hres : res = false := by rw [← HR.out]; simp; intro e; subst e; exact he rfl
          have HRS := Lib.hid hres; clear hres he
          generalize xs[k] = r at *
          generalize ys[k] = s at *
          clear ha hb
          go_wp2_with fail
          go_quiet (fail)
          go_wp2_with fail
          go_ret
          exact ⟨by rw [HRS.out]; rfl, by repeat (first | with_reducible exact Below.refl _ _ | with_reducible exact below_new _ | with_reducible refine below_set ?_ _ _ | with_reducible refine below_drewN' ?_ _ | with_reducible assumption | with_reducible refine below_more ?_ _)⟩
      · have hres : res = true := by rw [← HR.out]; simp; exact take_eq_of HL.out fun j h1 h2 => hsame.out j h1 h2 (by omega)
        have HRS := Lib.hid hres; clear hres
        go_wp2
        go_ret
        exact ⟨by rw [HRS.out]; rfl, by repeat (first | with_reducible exact Below.refl _ _ | with_reducible exact below_new _ | with_reducible refine below_set ?_ _ _ | with_reducible refine below_drewN' ?_ _ | with_reducible assumption | with_reducible refine below_more ?_ _)⟩
  · have hne : ((xs.length : Int) != (ys.length : Int)) = true := by simp; omega
    have hd : decide (xs = ys) = false := by simp; intro e; subst e; exact hl rfl
    rw [hd]
    clear hd hl
    go_enter Try.func17, Try.ntmps17
    go_wp2
    go_ret
    exact ⟨rfl, Below.refl _ _⟩
end Go.Proofs.Ytldimfmhbdhbnaa
