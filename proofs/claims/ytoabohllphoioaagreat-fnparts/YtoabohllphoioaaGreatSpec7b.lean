/-
  The model's functions of chapter 7, second part: the least mark; all rows.
-/
import Derived.Test.YtoabohllphoioaaGreatSpec7a
import Derived.Test.YtoabohllphoioaaGreatG14
import Derived.Test.YtoabohllphoioaaGreatG15
namespace Go.Proofs.YtoabohllphoioaaGreat
open Go.RowKit

theorem l1Min_c (a b : Int) (w : World) : Calls Tryz.prog 42 #[.int .i64 a, .int .i64 b] w fun e w' => e = .returned (.int .i64 (if a < b then a else b)) ∧ w = w' := by
  by_cases h : a < b
  all_goals
    go_enter Tryz.func42, Tryz.ntmps42
    go_wp2
    go_ret
    exact ⟨by simp [h], rfl⟩

set_option maxRecDepth 100000 in
set_option maxHeartbeats 4000000 in
theorem specLeastMark_c (A : Option Addr) (c : Nat) (l : List Pt) (w : World) (fp : List Nat) (hs : psz l ≤ 4194304) (ha : RdP w (.slice A l.length c) l fp) :
    Calls Tryz.prog 12 #[.slice A l.length c] w fun e w' => e = .returned (pairV (lmP l)) ∧ Below w.heap.size w w' := by
  have hmax := ha.len_le.2
  have HB0 := Lib.hid (below_new (w := w) (.cells #[.int .i64 0, .int .i64 0] 40))
  have HG0 := Lib.hid (heap_new w (.cells #[.int .i64 0, .int .i64 0] 40) rfl)
  have hcall := l7Fault_c A c l _ fp hs (ha.below' HB0.out)
  have HA := Lib.hid ha
  by_cases h0 : partsF l = 0
  case neg =>
    have e : lmP l = (partsF l, 0) := by unfold lmP lmV; rw [if_neg h0]
    rw [e]
    generalize partsF l = V at *
    have HC := Lib.hid hcall
    have t1 : (V != 0) = true := by simpa using h0
    clear h0 e hcall ha hs
    go_enter Tryz.func12, Tryz.ntmps12
    go_wp2_with fail
    refine HC.out.mono ?_
    rintro e w1 ⟨rfl, hb1⟩
    have HB1 := Lib.hid (HB0.out.trans (hb1.mono HB0.out.size))
    obtain ⟨y0, y1, z0, z1, yz⟩ := two_at ((hb1.block _ (heap_lt HG0.out)).trans HG0.out)
    clear hb1
    go_wp2_with fail
    exact bodyPost_ret (v := pairV (V, 0)) (by simp [results, Tryz.results12, go_sem, y0, y1]) rfl ⟨rfl, HB1.out.trans ((But.two _ w.heap.size 0 1 _ _).below HB1.out.size (by intro b hb; simp at hb; omega))⟩
  have e : lmP l = (0, leastI (l.map Pt.mark)) := by unfold lmP lmV; rw [if_pos h0, h0]; rfl
  have h3 := (partsF_zero h0).1
  rw [e]
  rw [h0] at hcall
  have H3 := Lib.hid h3
  have HC := Lib.hid hcall
  have hml : (l.map Pt.mark).length = l.length := by simp
  have HML := Lib.hid hml
  have hmk : Hid (∀ k (h : k < l.length), (l.map Pt.mark)[k]? = some l[k].mark) := fun k h => by simp [h]
  clear h0 e hcall ha hs h3 hml
  go_enter Tryz.func12, Tryz.ntmps12
  go_wp2_with fail
  refine HC.out.mono ?_
  rintro e w1 ⟨rfl, hb1⟩
  have HB1 := Lib.hid (HB0.out.trans (hb1.mono HB0.out.size))
  have HG1 := Lib.hid ((hb1.block _ (heap_lt HG0.out)).trans HG0.out)
  have HA1 := Lib.hid (HA.out.below' HB1.out)
  clear hb1
  obtain ⟨b, off, B, d, f, hA, _, hbl, hc, hc1, hr, _⟩ := partsAt HA1.out (i := 0) (by have := H3.out; omega)
  subst hA
  simp only [Nat.zero_mul, Nat.add_zero] at hc hc1
  have hm0 : leastI ((l.map Pt.mark).take 1) = (l[0]'(by have := H3.out; omega)).mark := by
    have hx := hmk.out 0 (by have := H3.out; omega)
    match hl : l.map Pt.mark, hx with
    | z :: t, hx => simp at hx; rw [leastI_one]; exact hx
  generalize (l[0]'(by have := H3.out; omega)) = p0 at *
  have HM0 := Lib.hid hm0
  have hl0 : (0 : Int) < (l.length : Int) := by have := H3.out; omega
  clear hr hm0
  go_wp2_with fail
  clear hl0 hc hc1 hbl
  go_loop [4, 5] (fun s i => ∃ k : Nat, 1 ≤ k ∧ k ≤ l.length ∧ i = .int .i64 k ∧ ∃ n : Int, s = .int .i64 n ∧ Hid (leastI ((l.map Pt.mark).take k) = n)) (fun _ i => l.length - (intOf i).toNat)
  case atStart => exact ⟨1, by omega, by have := H3.out; omega, rfl, _, rfl, HM0⟩
  case round =>
    clear HM0
    obtain ⟨k, hk1, hk, rfl, n, rfl, HN⟩ := hrel
    by_cases hlt : k < l.length
    · obtain ⟨b', off', B', d', f', hA, _, hbl, hc, hc1, hr, _⟩ := partsAt HA1.out hlt
      injection hA with hA; injection hA with e1 e2 _
      have E1 := Lib.hid e1; have E2 := Lib.hid e2
      rw [← E1.out, ← E2.out] at hc hc1
      rw [← E1.out] at hbl
      have hnx := leastI_take (l.map Pt.mark) k hk1 (by simpa using hlt)
      rw [HN.out] at hnx
      have hgx : (l.map Pt.mark)[k]'(by simpa using hlt) = l[k].mark := by simp
      rw [hgx] at hnx
      generalize l[k].mark = m at *
      have HNX := Lib.hid hnx
      have hk0 : (0 : Int) ≤ (k : Int) := by omega
      have hkl : (k : Int) < (l.length : Int) := by omega
      clear hr hnx hgx hc e1 e2
      go_wp2_with fail
      refine (l1Min_c n m _).mono ?_
      rintro e w2 ⟨rfl, hw⟩
      subst hw
      go_wp2_with fail
      exact ⟨⟨k + 1, by omega, by omega, by go_num, _, rfl, HNX⟩, by simp [intOf]; omega⟩
    · obtain rfl : k = l.length := by omega
      have hn := HN.out
      rw [← HML.out, List.take_length] at hn
      have HNN := Lib.hid hn
      obtain ⟨y0, y1, z0, z1, yz⟩ := two_at HG1.out
      clear hn
      go_wp2_with fail
      exact bodyPost_ret (v := pairV (0, n)) (by simp [results, Tryz.results12, go_sem, y0, y1]) rfl ⟨by rw [HNN.out], HB1.out.trans ((But.two _ w.heap.size 0 1 _ _).below HB1.out.size (by intro b hb; simp at hb; omega))⟩

/-- All parts are right: what the walk over their rows needs. -/
theorem parts_fit {l : List Pt} (h : partsF l = 0) : ∀ k (hk : k < l.length), Fits l[k].rows ∧ l[k].rows.length ≤ 12 := fun k hk => rowsF_fits ((partsF_zero h).2.1 k hk).2.2.1
theorem merge_fit {L : List R} (h : ∀ x ∈ L, Fit x) : Fits (mergeAll L) := by
  have go : ∀ (L o : List R), (∀ x ∈ L, Fit x) → Fits o → Fits (L.foldl (fun o r => mergeGo r false o) o) := by
    intro L
    induction L with
    | nil => intro o _ ho; exact ho
    | cons r t ih => intro o hl ho; exact ih _ (fun x hx => hl x (by simp [hx])) (fits_merge ho (hl r (by simp)))
  exact go L [] h (fun j hj => by simp at hj)
theorem merge_count (L : List R) : (mergeAll L).length = L.length := by
  have go : ∀ (L o : List R), (L.foldl (fun o r => mergeGo r false o) o).length = o.length + L.length := by
    intro L
    induction L with
    | nil => intro o; simp
    | cons r t ih => intro o; rw [List.foldl_cons, ih, (merge_length r o).1, List.length_cons]; omega
  have := go L []
  simpa [mergeAll] using this
theorem allR_take (l : List Pt) (k : Nat) (h : k < l.length) : allR (l.take (k + 1)) = allR (l.take k) ++ l[k].rows := by
  unfold allR; rw [List.take_succ_eq_append_getElem h, List.flatMap_append]; simp

end Go.Proofs.YtoabohllphoioaaGreat
