/-
  The list of a ring, and the program's NoteSeen.
-/
import Derived.Test.YtfohlopbfanaeaaRing5c
namespace Go.Proofs.Ytfohlopbfanaeaa
open Go.RowKit

theorem ring_cell {w : World} {g : Nat} {l : List Sn} {f c : Int} (h : w.heap[g]? = some (.cells (rgcs l f c) 114 (0, 0))) (j : Nat) (hj : j < 6) :
    w.cell? ⟨g, j * 2, none⟩ = some (.int .i64 (at6 l j).rq) ∧ w.cell? ⟨g, j * 2 + 1, none⟩ = some (.int .i64 (at6 l j).vl) := by
  have hj' : j = 0 ∨ j = 1 ∨ j = 2 ∨ j = 3 ∨ j = 4 ∨ j = 5 := by omega
  rw [cell_of_heap h, cell_of_heap h]
  rcases hj' with rfl | rfl | rfl | rfl | rfl | rfl <;> exact ⟨rfl, rfl⟩
theorem slot_n (l : List Sn) (f c : Int) (i j : Nat) (w : World) (hf : 0 ≤ f) (hf5 : f ≤ 5) (hi6 : i ≤ 6) (hj : (if f + i < 6 then f + i else f + i - 6) = (j : Int)) :
    Calls Try.prog 105 #[rgv l f c, .int .i64 i] w fun e w' => e = .returned (.int .i64 (j : Int)) ∧ Below w.heap.size w w' :=
  (slot_c l f c i w hf hf5 (by omega) (by omega)).mono fun _ _ ⟨h1, h2⟩ => ⟨by rw [h1, hj], by rw [h2]; exact below_new _⟩
theorem sc_new {w : World} {t : TypeId} (x : Sn) : ∀ j u, (sc x)[j]? = some u → (w.alloc (.cells #[.int .i64 x.rq, .int .i64 x.vl] t)).cell? ((⟨w.heap.size, 0, none⟩ : Addr).add j) = some u := by
  intro j u hu
  have e : (⟨w.heap.size, 0, none⟩ : Addr).add j = ⟨w.heap.size, j, none⟩ := by unfold Addr.add; split <;> simp_all
  rw [e, cell_of_heap (heap_new w _ rfl)]
  rw [← hu]
  unfold sc
  simp
theorem own_belowE {w w' : World} {base : Nat} {e : TypeId} {size n : Nat} {v : Value} {xs : List Value} (h : w.ownsRow base e size v n xs) (hb : Below w.heap.size w w') : w'.ownsRow base e size v n xs :=
  h.kept (row := none) ⟨hb.os, hb.tape, hb.output, hb.size, fun k hk _ => hb.block k hk⟩ (by cases hv : v.ownBlock <;> simp)

set_option maxRecDepth 100000 in
set_option maxHeartbeats 4000000 in
theorem list_c (l : List Sn) (f : Int) (R : List Sn) (w : World) (hf : 0 ≤ f) (hf5 : f ≤ 5) (hl : R.length ≤ 6) (hR : ∀ i (h : i < R.length), ∃ j : Nat, j < 6 ∧ (if f + i < 6 then f + i else f + i - 6) = (j : Int) ∧ at6 l j = R[i]) :
    Calls Try.prog 80 #[rgv l f R.length] w (EPost sc 2 w R) := by
  obtain ⟨i0, hi, hz, hsz, hby⟩ := infoSeen
  have HR := Lib.hid hR; clear hR
  go_enter Try.func80, Try.ntmps80
  go_wp2
  have HST : Hid ((w.alloc (rgbox l f R.length)).heap[w.heap.size]? = some (.cells (rgcs l f R.length) 114 (0, 0)) ∧ (w.alloc (rgbox l f R.length)).ownsRow (w.heap.size + 1) 64 2 (.slice none 0 0) 0 (ecs sc (R.take 0)) ∧ Below w.heap.size w (w.alloc (rgbox l f R.length))) :=
    ⟨heap_new w _ rfl, World.ownsRow_nil _ _ _ _, below_new _⟩
  go_loopw [3, 7] (fun v i wr => ∃ k : Nat, k ≤ R.length ∧ i = .int .i64 k ∧ Hid (wr.heap[w.heap.size]? = some (.cells (rgcs l f R.length) 114 (0, 0)) ∧ wr.ownsRow (w.heap.size + 1) 64 2 v k (ecs sc (R.take k)) ∧ Below w.heap.size w wr)) (fun _ i _ => R.length - (intOf i).toNat)
  case atStart => exact ⟨0, Nat.zero_le _, rfl, HST⟩
  case round =>
    clear HST
    obtain ⟨k, hk, rfl, HI⟩ := hrel
    obtain ⟨hgr, hown, hbw⟩ := HI.out
    have hsw := heap_lt hgr
    by_cases hlt : k < R.length
    · obtain ⟨j, hj, hsl, hat⟩ := HR.out k hlt
      have htk : R.take (k + 1) = R.take k ++ [R[k]] := List.take_succ_eq_append_getElem hlt
      have HTK := Lib.hid htk; have HSL := Lib.hid hsl; have HAT := Lib.hid hat
      have GR := Lib.hid hgr; have HO := Lib.hid hown; have HB := Lib.hid hbw
      have hrow : ∀ g, u3.ownBlock = some g → w.heap.size + 1 ≤ g := fun g hg => own_baseE hown hg
      have HRO := Lib.hid hrow
      generalize R[k] = x at *
      obtain ⟨c0, c1, c2, c3, c4, c5, c6, c7, c8, c9, c10, c11, c12, c13, _⟩ := ring_at hgr
      clear hgr hown hbw HI htk hsl hat hrow
      go_wp2_with fail
      refine (slot_n l f R.length k j _ hf hf5 (by omega) HSL.out).mono ?_
      rintro e w1 ⟨rfl, hb1⟩
      have gr1 := (hb1.block _ (heap_lt GR.out)).trans GR.out
      obtain ⟨e0, e1⟩ := ring_cell gr1 j hj
      rw [HAT.out] at e0 e1
      have hz1 := heap_lt gr1
      have hown1 := (own_belowE HO.out hb1).alloc (sbox x)
      have hbel1 := below_more (HB.out.trans (hb1.mono HB.out.size)) (sbox x)
      have GR1 := Lib.hid gr1; have HO1 := Lib.hid hown1; have HB1 := Lib.hid hbel1
      have hj0 : (0 : Int) ≤ (j : Int) := by omega
      have hj6 : (j : Int) < 6 := by omega
      clear hb1 gr1 hown1 hbel1 c0 c1 c2 c3 c4 c5 c6 c7 c8 c9 c10 c11 c12 c13
      go_wp2_with (at_builtin; refine wpList_append_own _ rfl _ _ 46 rfl (w.heap.size + 1) 64 i0 (sv ⟨0, 0⟩) 2 16 Try.underlying46 hi hz hsz hby rfl (by decide) _ _ _ rfl HO1.out ⟨w1.heap.size, 0, none⟩ 1 1 (sc x) rfl rfl ?c1 ?c2 ?c3 ?c4 ?c5 ?_)
      case c1 => exact sc_new (w := w1) x
      case c2 => exact sc_one x
      case c3 => unfold maxLen; omega
      case c4 => omega
      case c5 => simp; omega
      intro v' w2 hown2 hgrow _
      have hbel2 := HB1.out.grown hgrow HB1.out.size (fun g hg => by have := HRO.out g hg; omega)
      have hgr2 : w2.heap[w.heap.size]? = some (.cells (rgcs l f R.length) 114 (0, 0)) := (hgrow.block w.heap.size (by simp; omega) (fun e => by have := HRO.out _ e.symm; omega)).trans (heap_old GR1.out)
      have hown3 : w2.ownsRow (w.heap.size + 1) 64 2 v' (k + 1) (ecs sc (R.take (k + 1))) := by rw [HTK.out, ecs_append, show ecs sc [x] = sc x by simp [ecs]]; exact hown2
      have HN := Lib.hid (And.intro hgr2 (And.intro hown3 hbel2))
      clear hown2 hgrow hown3 hbel2 hgr2 e0 e1
      go_wp2_with fail
      exact ⟨⟨k + 1, by omega, by go_num, HN.out⟩, by simp [intOf]; omega⟩
    · obtain rfl : k = R.length := by omega
      rw [List.take_length] at hown
      obtain ⟨fq, hr, hn, hfr⟩ := Rd.of_own hown
      have HX := Lib.hid (And.intro hr (And.intro hn (And.intro hfr hbw)))
      clear hgr hown hbw HI hr hn hfr
      go_wp2
      go_ret
      exact ⟨_, fq, rfl, HX.out.1, HX.out.2.1, HX.out.2.2.1.mono (by omega), HX.out.2.2.2⟩

theorem at6_get (l : List Sn) (i : Nat) (h : i < l.length) : at6 l i = l[i] := by
  unfold at6
  rw [List.getD_eq_getElem?_getD, List.getElem?_eq_getElem h]
  rfl
theorem listL_c (l : List Sn) (w : World) (hl : l.length ≤ 6) (n : Int) (hn : n = l.length) : Calls Try.prog 80 #[rgv l 0 n] w (EPost sc 2 w l) := by
  subst hn
  exact list_c l 0 l w (by omega) (by omega) hl fun i h => ⟨i, by omega, by rw [if_pos (by omega)]; omega, at6_get l i h⟩
theorem listF_c (l : List Sn) (x : Sn) (w : World) (hl : l.length = 6) : Calls Try.prog 80 #[rgv (x :: l.drop 1) 1 6] w (EPost sc 2 w ((l ++ [x]).drop 1)) := by
  have hlen : ((l ++ [x]).drop 1).length = 6 := by simp; omega
  have h := list_c (x :: l.drop 1) 1 ((l ++ [x]).drop 1) w (by omega) (by omega) (by omega) (fun i h => by
    rw [hlen] at h
    rw [List.getElem_drop]
    by_cases h5 : i < 5
    · refine ⟨i + 1, by omega, by rw [if_pos (by omega)]; omega, ?_⟩
      rw [at6_tail, at6_get l (i + 1) (by omega), List.getElem_append_left (by omega)]
      simp [Nat.add_comm]
    · have hi : i = 5 := by omega
      subst hi
      refine ⟨0, by omega, by rw [if_neg (by omega)]; rfl, ?_⟩
      rw [List.getElem_append_right (by omega)]
      simp [at6])
  rw [hlen] at h
  exact h
end Go.Proofs.Ytfohlopbfanaeaa
