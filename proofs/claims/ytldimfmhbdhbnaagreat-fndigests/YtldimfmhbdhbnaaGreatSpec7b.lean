/-
  The model's functions of chapter 7, second part: the least mark; all rows.
-/
import Derived.Test.YtldimfmhbdhbnaaGreatG44
import Derived.Test.YtldimfmhbdhbnaaGreatG14
import Derived.Test.YtldimfmhbdhbnaaGreatG15
namespace Go.Proofs.YtldimfmhbdhbnaaGreat
open Go.RowKit

theorem l1Min7_c (a b : Int) (w : World) : Calls Tryz.prog 103 #[.int .i64 a, .int .i64 b] w fun e w' => e = .returned (.int .i64 (if a < b then a else b)) ∧ w = w' := by
  by_cases h : a < b
  all_goals
    go_enter Tryz.func103, Tryz.ntmps103
    go_wp2
    go_ret
    exact ⟨by simp [h], rfl⟩

/-- All parts are right: what the walk over their rows needs. -/
theorem parts_fit {l : List Pt} (h : partsF l = 0) : ∀ k (hk : k < l.length), Fits l[k].rows ∧ l[k].rows.length ≤ 12 := fun k hk => rowsF_fits ((partsF_zero h).2.1 k hk).2.2.1
theorem merge_fit {L : List R} (h : ∀ x ∈ L, Fit x) : Fits (mergeAll L) := by
  have go : ∀ (L o : List R), (∀ x ∈ L, Fit x) → Fits o → Fits (L.foldl (fun o r => mergeGo r false o) o) := by
    intro L
    induction L with
    | nil => intro o _ ho; exact ho
    | cons r t ih => intro o hl ho; exact ih _ (fun x hx => hl x (by simp [hx])) (fits_merge ho (hl r (by simp)))
  exact go L [] h (fun j hj => by simp at hj)
theorem merge_count (L : List R) : (mergeAll L).length = L.length := by
  have go : ∀ (L o : List R), (L.foldl (fun o r => mergeGo r false o) o).length = o.length + L.length := by
    intro L
    induction L with
    | nil => intro o; simp
    | cons r t ih => intro o; rw [List.foldl_cons, ih, (merge_length r o).1, List.length_cons]; omega
  have := go L []
  simpa [mergeAll] using this
theorem allR_take (l : List Pt) (k : Nat) (h : k < l.length) : allR (l.take (k + 1)) = allR (l.take k) ++ l[k].rows := by
  unfold allR; rw [List.take_succ_eq_append_getElem h, List.flatMap_append]; simp

set_option maxRecDepth 100000 in
set_option maxHeartbeats 4000000 in
theorem l7Rows_c (A : Option Addr) (c : Nat) (l : List Pt) (w : World) (fp : List Nat) (h0 : partsF l = 0) (ha : RdP w (.slice A l.length c) l fp) :
    Calls Tryz.prog 43 #[.slice A l.length c] w fun e w' => ∃ v f, e = .returned v ∧ Rd w' 4 v (rcs (mergeAll (allR l))) f ∧ NF w' f ∧ From w.heap.size f ∧ Below w.heap.size w w' := by
  have hmax := ha.len_le.2
  have HA := Lib.hid ha
  have HF : Hid (∀ x ∈ allR l, Fit x) := fun x hx => fit_of_rowF ((parts_rows h0).1 x hx)
  have HL : Hid ((allR l).length ≤ 12) := (parts_rows h0).2.2
  have hpre : Hid (∀ k (h : k < l.length) j, j ≤ l[k].rows.length → (∀ x ∈ allR (l.take k) ++ l[k].rows.take j, Fit x) ∧ (allR (l.take k) ++ l[k].rows.take j).length ≤ 12) := fun k h j hj => by
    have e : allR l = allR (l.take k) ++ (l[k].rows.take j ++ (l[k].rows.drop j ++ allR (l.drop (k + 1)))) := by
      have e1 : l = l.take k ++ (l[k] :: l.drop (k + 1)) := by rw [← List.drop_eq_getElem_cons h, List.take_append_drop]
      conv => lhs; rw [e1]
      unfold allR
      rw [List.flatMap_append, List.flatMap_cons]
      rw [← List.append_assoc (l[k].rows.take j), List.take_append_drop]
    refine ⟨fun x hx => HF.out x ?_, ?_⟩
    · rw [e]; simp only [List.mem_append] at hx ⊢
      rcases hx with hx | hx
      · exact .inl hx
      · exact .inr (.inl hx)
    · have := HL.out
      rw [e] at this
      simp only [List.length_append] at this ⊢
      omega
  clear ha h0
  go_enter Tryz.func43, Tryz.ntmps43
  go_wp2_with fail
  have HX0 : Hid (∃ f, Rd (w.alloc (.cells #[] 40)) 4 (.slice (some ⟨w.heap.size, 0, none⟩) (mergeAll (allR (l.take 0))).length 0) (rcs (mergeAll (allR (l.take 0)))) f ∧ NF (w.alloc (.cells #[] 40)) f ∧ From w.heap.size f ∧ Below w.heap.size w (w.alloc (.cells #[] 40))) :=
    ⟨[], ⟨_, 0, 0, rfl, rfl, by unfold maxLen; omega, by omega, .inl ⟨rfl, rfl⟩⟩, NF.nil _, From.nil _, below_new _⟩
  go_loopw [3, 4] (fun s i wr => ∃ k : Nat, k ≤ l.length ∧ i = .int .i64 k ∧ ∃ (B : Option Addr) (n d : Nat), s = .slice B n d ∧ Hid (n = (mergeAll (allR (l.take k))).length ∧ ∃ f, Rd wr 4 (.slice B n d) (rcs (mergeAll (allR (l.take k)))) f ∧ NF wr f ∧ From w.heap.size f ∧ Below w.heap.size w wr)) (fun _ i _ => l.length - (intOf i).toNat)
  case atStart => exact ⟨0, Nat.zero_le _, rfl, _, _, _, rfl, Lib.hid ⟨rfl, HX0.out⟩⟩
  case round =>
    clear HX0
    obtain ⟨k, hk, rfl, B, n, d, rfl, HX⟩ := hrel
    by_cases hlt : k < l.length
    · have hk0 : (0 : Int) ≤ (k : Int) := by omega
      have hkl : (k : Int) < (l.length : Int) := by omega
      have hpk := hpre.out k hlt
      have hnx := allR_take l k hlt
      have HPK := Lib.hid hpk; have HNX := Lib.hid hnx
      clear hpk hnx
      have HX1 : Hid (n = (mergeAll (allR (l.take k) ++ l[k].rows.take 0)).length ∧ ∃ f, Rd wr 4 (.slice B n d) (rcs (mergeAll (allR (l.take k) ++ l[k].rows.take 0))) f ∧ NF wr f ∧ From w.heap.size f ∧ Below w.heap.size w wr) := by
        rw [List.take_zero, List.append_nil]; exact HX.out
      have hrl : l[k].rows.length ≤ 9223372036854775807 := by
        have h := (HPK.out l[k].rows.length (Nat.le_refl _)).2
        rw [List.take_length, List.length_append] at h
        omega
      clear HX
      go_wp2_with fail
      go_loopw [3, 5] (fun s i wr => ∃ j : Nat, j ≤ l[k].rows.length ∧ i = .int .i64 j ∧ ∃ (B : Option Addr) (n d : Nat), s = .slice B n d ∧ Hid (n = (mergeAll (allR (l.take k) ++ l[k].rows.take j)).length ∧ ∃ f, Rd wr 4 (.slice B n d) (rcs (mergeAll (allR (l.take k) ++ l[k].rows.take j))) f ∧ NF wr f ∧ From w.heap.size f ∧ Below w.heap.size w wr)) (fun _ i _ => l[k].rows.length - (intOf i).toNat)
      case atStart => exact ⟨0, Nat.zero_le _, rfl, _, _, _, rfl, HX1⟩
      case round =>
        clear HX1
        obtain ⟨j, hj, rfl, B1, n1, d1, rfl, HX⟩ := hrel
        obtain ⟨hn1, f1, hr1, hnf1, hfr1, hb1⟩ := HX.out
        obtain ⟨b2, off2, B2, d2, f2, hA2, _, hbl2, hc2, _, hr2, _⟩ := partsAt (HA.out.below' hb1) hlt
        subst hA2
        by_cases hlt2 : j < l[k].rows.length
        · obtain ⟨b3, off3, hA3, _, hbl3, p0, p1, p2, p3⟩ := hr2.row_at hlt2
          subst hA3
          obtain ⟨hfit, h12⟩ := HPK.out j hj
          have hfr := (HPK.out (j + 1) hlt2).1 (l[k].rows[j]) (List.mem_append.2 (.inr (by rw [List.take_succ_eq_append_getElem hlt2]; exact List.mem_append.2 (.inr (List.mem_singleton.2 rfl)))))
          have hmf := merge_fit hfit
          have hml := merge_count (allR (l.take k) ++ l[k].rows.take j)
          have hsn : mergeGo l[k].rows[j] false (mergeAll (allR (l.take k) ++ l[k].rows.take j)) = mergeAll (allR (l.take k) ++ l[k].rows.take (j + 1)) := by
            rw [← mergeAll_snoc, List.take_succ_eq_append_getElem hlt2, List.append_assoc]
          have hn12 : n1 ≤ 12 := by omega
          generalize l[k].rows[j] = r at *
          generalize mergeAll (allR (l.take k) ++ l[k].rows.take j) = M at *
          generalize hM2 : mergeAll (allR (l.take k) ++ l[k].rows.take (j + 1)) = M2 at *
          have HM2 := Lib.hid hM2; clear hM2
          generalize l[k].rows.length = nk at *
          subst hn1
          have hcall := l2Merge_c B1 d1 M r wr f1 (by omega) hmf hfr hr1
          rw [hsn] at hcall
          have HCL := Lib.hid hcall; have HB1 := Lib.hid hb1
          have hj0 : (0 : Int) ≤ (j : Int) := by omega
          have hjl : (j : Int) < (nk : Int) := by omega
          clear hcall hsn hmf hfr hfit hml hb1 hr1 hnf1 hfr1 hr2 HX
          go_wp2_with fail
          refine HCL.out.mono ?_
          rintro e w2 ⟨v2, f5, rfl, hr5, hn5, hf5, hb5, _⟩
          obtain ⟨A5, c5, rfl⟩ := hr5.rows_form
          have HX2 : Hid (M2.length = M2.length ∧ ∃ f, Rd w2 4 (.slice A5 M2.length c5) (rcs M2) f ∧ NF w2 f ∧ From w.heap.size f ∧ Below w.heap.size w w2) :=
            ⟨rfl, f5, hr5, hn5, hf5.mono HB1.out.size, HB1.out.trans (hb5.mono HB1.out.size)⟩
          clear hr5 hn5 hf5 hb5
          go_wp2_with fail
          exact ⟨⟨j + 1, by omega, by go_num, _, _, _, rfl, by rw [HM2.out]; exact Lib.hid ⟨rfl, HX2.out.2⟩⟩, by simp [intOf]; omega⟩
        · obtain rfl : j = l[k].rows.length := by omega
          have HX2 : Hid (n1 = (mergeAll (allR (l.take (k + 1)))).length ∧ ∃ f, Rd wr 4 (.slice B1 n1 d1) (rcs (mergeAll (allR (l.take (k + 1))))) f ∧ NF wr f ∧ From w.heap.size f ∧ Below w.heap.size w wr) := by
            have h := HX.out
            rw [List.take_length, ← HNX.out] at h
            exact h
          clear hn1 hr1 hnf1 hfr1 hb1 hr2 HX
          go_wp2_with fail
          exact ⟨⟨k + 1, by omega, by go_num, _, _, _, rfl, HX2⟩, by simp [intOf]; omega⟩
    · obtain rfl : k = l.length := by omega
      obtain ⟨hn, f, h1, h2, h3, h4⟩ := HX.out
      rw [List.take_length] at h1 hn
      have HY : Hid (Rd wr 4 (.slice B n d) (rcs (mergeAll (allR l))) f ∧ NF wr f ∧ From w.heap.size f ∧ Below w.heap.size w wr) := ⟨h1, h2, h3, h4⟩
      clear h1 h2 h3 h4 hn HX
      go_wp2
      go_ret
      exact ⟨_, f, rfl, HY.out.1, HY.out.2.1, HY.out.2.2.1, HY.out.2.2.2⟩

end Go.Proofs.YtldimfmhbdhbnaaGreat
