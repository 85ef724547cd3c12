/-
  The model's functions of chapter 7, second part: the least mark; all rows.
-/
import Derived.Test.YtoabohllphoioaaSpec7a
import Derived.Test.YtoabohllphoioaaG15
import Derived.Test.YtoabohllphoioaaG16
namespace Go.Proofs.Ytoabohllphoioaa
open Go.RowKit

theorem l1Min_c (a b : Int) (w : World) : Calls Try.prog 74 #[.int .i64 a, .int .i64 b] w fun e w' => e = .returned (.int .i64 (if a < b then a else b)) ∧ w = w' := by
  by_cases h : a < b
  all_goals
    go_enter Try.func74, Try.ntmps74
    go_wp2
    go_ret
    exact ⟨by simp [h], rfl⟩

set_option maxRecDepth 100000 in
set_option maxHeartbeats 4000000 in
theorem specLeastMark_c (A : Option Addr) (c : Nat) (l : List Pt) (w : World) (fp : List Nat) (hs : psz l ≤ 4194304) (ha : RdP w (.slice A l.length c) l fp) :
    Calls Try.prog 62 #[.slice A l.length c] w fun e w' => e = .returned (pairV (lmP l)) ∧ Below w.heap.size w w' := by
  have hmax := ha.len_le.2
  have HB0 := Lib.hid (below_new (w := w) (.cells #[.int .i64 0, .int .i64 0] 36))
  have HG0 := Lib.hid (heap_new w (.cells #[.int .i64 0, .int .i64 0] 36) rfl)
  have hcall := l7Fault_c A c l _ fp hs (ha.below' HB0.out)
  have HA := Lib.hid ha
  by_cases h0 : partsF l = 0
  case neg =>
    have e : lmP l = (partsF l, 0) := by unfold lmP lmV; rw [if_neg h0]
    rw [e]
    generalize partsF l = V at *
    have HC := Lib.hid hcall
    have t1 : (V != 0) = true := by simpa using h0
    clear h0 e hcall ha hs
    go_enter Try.func62, Try.ntmps62
    go_wp2_with fail
    refine HC.out.mono ?_
    rintro e w1 ⟨rfl, hb1⟩
    have HB1 := Lib.hid (HB0.out.trans (hb1.mono HB0.out.size))
    obtain ⟨y0, y1, z0, z1, yz⟩ := two_at ((hb1.block _ (heap_lt HG0.out)).trans HG0.out)
    clear hb1
    go_wp2_with fail
    exact bodyPost_ret (v := pairV (V, 0)) (by simp [results, Try.results62, go_sem, y0, y1]) rfl ⟨rfl, HB1.out.trans ((But.two _ w.heap.size 0 1 _ _).below HB1.out.size (by intro b hb; simp at hb; omega))⟩
  have e : lmP l = (0, leastI (l.map Pt.mark)) := by unfold lmP lmV; rw [if_pos h0, h0]; rfl
  have h3 := (partsF_zero h0).1
  rw [e]
  rw [h0] at hcall
  have H3 := Lib.hid h3
  have HC := Lib.hid hcall
  have hml : (l.map Pt.mark).length = l.length := by simp
  have HML := Lib.hid hml
  have hmk : Hid (∀ k (h : k < l.length), (l.map Pt.mark)[k]? = some l[k].mark) := fun k h => by simp [h]
  clear h0 e hcall ha hs h3 hml
  go_enter Try.func62, Try.ntmps62
  go_wp2_with fail
  refine HC.out.mono ?_
  rintro e w1 ⟨rfl, hb1⟩
  have HB1 := Lib.hid (HB0.out.trans (hb1.mono HB0.out.size))
  have HG1 := Lib.hid ((hb1.block _ (heap_lt HG0.out)).trans HG0.out)
  have HA1 := Lib.hid (HA.out.below' HB1.out)
  clear hb1
  obtain ⟨b, off, B, d, f, hA, _, hbl, hc, hc1, hr, _⟩ := partsAt HA1.out (i := 0) (by have := H3.out; omega)
  subst hA
  simp only [Nat.zero_mul, Nat.add_zero] at hc hc1
  have hm0 : leastI ((l.map Pt.mark).take 1) = (l[0]'(by have := H3.out; omega)).mark := by
    have hx := hmk.out 0 (by have := H3.out; omega)
    match hl : l.map Pt.mark, hx with
    | z :: t, hx => simp at hx; rw [leastI_one]; exact hx
  generalize (l[0]'(by have := H3.out; omega)) = p0 at *
  have HM0 := Lib.hid hm0
  have hl0 : (0 : Int) < (l.length : Int) := by have := H3.out; omega
  clear hr hm0
  go_wp2_with fail
  clear hl0 hc hc1 hbl
  go_loop [4, 5] (fun s i => ∃ k : Nat, 1 ≤ k ∧ k ≤ l.length ∧ i = .int .i64 k ∧ ∃ n : Int, s = .int .i64 n ∧ Hid (leastI ((l.map Pt.mark).take k) = n)) (fun _ i => l.length - (intOf i).toNat)
  case atStart => exact ⟨1, by omega, by have := H3.out; omega, rfl, _, rfl, HM0⟩
  case round =>
    clear HM0
    obtain ⟨k, hk1, hk, rfl, n, rfl, HN⟩ := hrel
    by_cases hlt : k < l.length
    · obtain ⟨b', off', B', d', f', hA, _, hbl, hc, hc1, hr, _⟩ := partsAt HA1.out hlt
      injection hA with hA; injection hA with e1 e2 _
      have E1 := Lib.hid e1; have E2 := Lib.hid e2
      rw [← E1.out, ← E2.out] at hc hc1
      rw [← E1.out] at hbl
      have hnx := leastI_take (l.map Pt.mark) k hk1 (by simpa using hlt)
      rw [HN.out] at hnx
      have hgx : (l.map Pt.mark)[k]'(by simpa using hlt) = l[k].mark := by simp
      rw [hgx] at hnx
      generalize l[k].mark = m at *
      have HNX := Lib.hid hnx
      have hk0 : (0 : Int) ≤ (k : Int) := by omega
      have hkl : (k : Int) < (l.length : Int) := by omega
      clear hr hnx hgx hc e1 e2
      go_wp2_with fail
      refine (l1Min_c n m _).mono ?_
      rintro e w2 ⟨rfl, hw⟩
      subst hw
      go_wp2_with fail
      exact ⟨⟨k + 1, by omega, by omega, by go_num, _, rfl, HNX⟩, by simp [intOf]; omega⟩
    · obtain rfl : k = l.length := by omega
      have hn := HN.out
      rw [← HML.out, List.take_length] at hn
      have HNN := Lib.hid hn
      obtain ⟨y0, y1, z0, z1, yz⟩ := two_at HG1.out
      clear hn
      go_wp2_with fail
      exact bodyPost_ret (v := pairV (0, n)) (by simp [results, Try.results62, go_sem, y0, y1]) rfl ⟨by rw [HNN.out], HB1.out.trans ((But.two _ w.heap.size 0 1 _ _).below HB1.out.size (by intro b hb; simp at hb; omega))⟩

/-- All parts are right: what the walk over their rows needs. -/
theorem parts_fit {l : List Pt} (h : partsF l = 0) : ∀ k (hk : k < l.length), Fits l[k].rows ∧ l[k].rows.length ≤ 12 := fun k hk => rowsF_fits ((partsF_zero h).2.1 k hk).2.2.1
theorem merge_fit {L : List R} (h : ∀ x ∈ L, Fit x) : Fits (mergeAll L) := by
  have go : ∀ (L o : List R), (∀ x ∈ L, Fit x) → Fits o → Fits (L.foldl (fun o r => mergeGo r false o) o) := by
    intro L
    induction L with
    | nil => intro o _ ho; exact ho
    | cons r t ih => intro o hl ho; exact ih _ (fun x hx => hl x (by simp [hx])) (fits_merge ho (hl r (by simp)))
  exact go L [] h (fun j hj => by simp at hj)
theorem merge_count (L : List R) : (mergeAll L).length = L.length := by
  have go : ∀ (L o : List R), (L.foldl (fun o r => mergeGo r false o) o).length = o.length + L.length := by
    intro L
    induction L with
    | nil => intro o; simp
    | cons r t ih => intro o; rw [List.foldl_cons, ih, (merge_length r o).1, List.length_cons]; omega
  have := go L []
  simpa [mergeAll] using this
theorem allR_take (l : List Pt) (k : Nat) (h : k < l.length) : allR (l.take (k + 1)) = allR (l.take k) ++ l[k].rows := by
  unfold allR; rw [List.take_succ_eq_append_getElem h, List.flatMap_append]; simp

set_option maxRecDepth 100000 in
set_option maxHeartbeats 4000000 in
theorem l7Rows_c (A : Option Addr) (c : Nat) (l : List Pt) (w : World) (fp : List Nat) (h0 : partsF l = 0) (ha : RdP w (.slice A l.length c) l fp) :
    Calls Try.prog 112 #[.slice A l.length c] w fun e w' => ∃ v f, e = .returned v ∧ Rd w' 4 v (rcs (mergeAll (allR l))) f ∧ NF w' f ∧ From w.heap.size f ∧ Below w.heap.size w w' := by
  have hmax := ha.len_le.2
  have HA := Lib.hid ha
  have HF : Hid (∀ x ∈ allR l, Fit x) := fun x hx => fit_of_rowF ((parts_rows h0).1 x hx)
  have HL : Hid ((allR l).length ≤ 12) := (parts_rows h0).2.2
  have hpre : Hid (∀ k (h : k < l.length) j, j ≤ l[k].rows.length → (∀ x ∈ allR (l.take k) ++ l[k].rows.take j, Fit x) ∧ (allR (l.take k) ++ l[k].rows.take j).length ≤ 12) := fun k h j hj => by
    have e : allR l = allR (l.take k) ++ (l[k].rows.take j ++ (l[k].rows.drop j ++ allR (l.drop (k + 1)))) := by
      have e1 : l = l.take k ++ (l[k] :: l.drop (k + 1)) := by rw [← List.drop_eq_getElem_cons h, List.take_append_drop]
      conv => lhs; rw [e1]
      unfold allR
      rw [List.flatMap_append, List.flatMap_cons]
      rw [← List.append_assoc (l[k].rows.take j), List.take_append_drop]
    refine ⟨fun x hx => HF.out x ?_, ?_⟩
    · rw [e]; simp only [List.mem_append] at hx ⊢
      rcases hx with hx | hx
      · exact .inl hx
      · exact .inr (.inl hx)
    · have := HL.out
      rw [e] at this
      simp only [List.length_append] at this ⊢
      omega
  clear ha h0
  go_enter Try.func112, Try.ntmps112
  go_wp2_with fail
  have HX0 : Hid (∃ f, Rd (w.alloc (.cells #[] 34)) 4 (.slice (some ⟨w.heap.size, 0, none⟩) (mergeAll (allR (l.take 0))).length 0) (rcs (mergeAll (allR (l.take 0)))) f ∧ NF (w.alloc (.cells #[] 34)) f ∧ From w.heap.size f ∧ Below w.heap.size w (w.alloc (.cells #[] 34))) :=
    ⟨[], ⟨_, 0, 0, rfl, rfl, by unfold maxLen; omega, by omega, .inl ⟨rfl, rfl⟩⟩, NF.nil _, From.nil _, below_new _⟩
  go_loopw [3, 4] (fun s i wr => ∃ k : Nat, k ≤ l.length ∧ i = .int .i64 k ∧ ∃ (B : Option Addr) (n d : Nat), s = .slice B n d ∧ Hid (n = (mergeAll (allR (l.take k))).length ∧ ∃ f, Rd wr 4 (.slice B n d) (rcs (mergeAll (allR (l.take k)))) f ∧ NF wr f ∧ From w.heap.size f ∧ Below w.heap.size w wr)) (fun _ i _ => l.length - (intOf i).toNat)
  case atStart => exact ⟨0, Nat.zero_le _, rfl, _, _, _, rfl, Lib.hid ⟨rfl, HX0.out⟩⟩
  case round =>
    clear HX0
    obtain ⟨k, hk, rfl, B, n, d, rfl, HX⟩ := hrel
    by_cases hlt : k < l.length
    · have hk0 : (0 : Int) ≤ (k : Int) := by omega
      have hkl : (k : Int) < (l.length : Int) := by omega
      have hpk := hpre.out k hlt
      have hnx := allR_take l k hlt
      have HPK := Lib.hid hpk; have HNX := Lib.hid hnx
      clear hpk hnx
      have HX1 : Hid (n = (mergeAll (allR (l.take k) ++ l[k].rows.take 0)).length ∧ ∃ f, Rd wr 4 (.slice B n d) (rcs (mergeAll (allR (l.take k) ++ l[k].rows.take 0))) f ∧ NF wr f ∧ From w.heap.size f ∧ Below w.heap.size w wr) := by
        rw [List.take_zero, List.append_nil]; exact HX.out
      have hrl : l[k].rows.length ≤ 9223372036854775807 := by
        have h := (HPK.out l[k].rows.length (Nat.le_refl _)).2
        rw [List.take_length, List.length_append] at h
        omega
      clear HX
      go_wp2_with fail
      go_loopw [3, 5] (fun s i wr => ∃ j : Nat, j ≤ l[k].rows.length ∧ i = .int .i64 j ∧ ∃ (B : Option Addr) (n d : Nat), s = .slice B n d ∧ Hid (n = (mergeAll (allR (l.take k) ++ l[k].rows.take j)).length ∧ ∃ f, Rd wr 4 (.slice B n d) (rcs (mergeAll (allR (l.take k) ++ l[k].rows.take j))) f ∧ NF wr f ∧ From w.heap.size f ∧ Below w.heap.size w wr)) (fun _ i _ => l[k].rows.length - (intOf i).toNat)
      case atStart => exact ⟨0, Nat.zero_le _, rfl, _, _, _, rfl, HX1⟩
      case round =>
        clear HX1
        obtain ⟨j, hj, rfl, B1, n1, d1, rfl, HX⟩ := hrel
        obtain ⟨hn1, f1, hr1, hnf1, hfr1, hb1⟩ := HX.out
        obtain ⟨b2, off2, B2, d2, f2, hA2, _, hbl2, hc2, _, hr2, _⟩ := partsAt (HA.out.below' hb1) hlt
        subst hA2
        by_cases hlt2 : j < l[k].rows.length
        · obtain ⟨b3, off3, hA3, _, hbl3, p0, p1, p2, p3⟩ := hr2.row_at hlt2
          subst hA3
          obtain ⟨hfit, h12⟩ := HPK.out j hj
          have hfr := (HPK.out (j + 1) hlt2).1 (l[k].rows[j]) (List.mem_append.2 (.inr (by rw [List.take_succ_eq_append_getElem hlt2]; exact List.mem_append.2 (.inr (List.mem_singleton.2 rfl)))))
          have hmf := merge_fit hfit
          have hml := merge_count (allR (l.take k) ++ l[k].rows.take j)
          have hsn : mergeGo l[k].rows[j] false (mergeAll (allR (l.take k) ++ l[k].rows.take j)) = mergeAll (allR (l.take k) ++ l[k].rows.take (j + 1)) := by
            rw [← mergeAll_snoc, List.take_succ_eq_append_getElem hlt2, List.append_assoc]
          have hn12 : n1 ≤ 12 := by omega
          generalize l[k].rows[j] = r at *
          generalize mergeAll (allR (l.take k) ++ l[k].rows.take j) = M at *
          generalize hM2 : mergeAll (allR (l.take k) ++ l[k].rows.take (j + 1)) = M2 at *
          have HM2 := Lib.hid hM2; clear hM2
          generalize l[k].rows.length = nk at *
          subst hn1
          have hcall := l2Merge_c B1 d1 M r wr f1 (by omega) hmf hfr hr1
          rw [hsn] at hcall
          have HCL := Lib.hid hcall; have HB1 := Lib.hid hb1
          have hj0 : (0 : Int) ≤ (j : Int) := by omega
          have hjl : (j : Int) < (nk : Int) := by omega
          clear hcall hsn hmf hfr hfit hml hb1 hr1 hnf1 hfr1 hr2 HX
          go_wp2_with fail
          refine HCL.out.mono ?_
          rintro e w2 ⟨v2, f5, rfl, hr5, hn5, hf5, hb5, _⟩
          obtain ⟨A5, c5, rfl⟩ := hr5.rows_form
          have HX2 : Hid (M2.length = M2.length ∧ ∃ f, Rd w2 4 (.slice A5 M2.length c5) (rcs M2) f ∧ NF w2 f ∧ From w.heap.size f ∧ Below w.heap.size w w2) :=
            ⟨rfl, f5, hr5, hn5, hf5.mono HB1.out.size, HB1.out.trans (hb5.mono HB1.out.size)⟩
          clear hr5 hn5 hf5 hb5
          go_wp2_with fail
          exact ⟨⟨j + 1, by omega, by go_num, _, _, _, rfl, by rw [HM2.out]; exact Lib.hid ⟨rfl, HX2.out.2⟩⟩, by simp [intOf]; omega⟩
        · obtain rfl : j = l[k].rows.length := by omega
          have HX2 : Hid (n1 = (mergeAll (allR (l.take (k + 1)))).length ∧ ∃ f, Rd wr 4 (.slice B1 n1 d1) (rcs (mergeAll (allR (l.take (k + 1))))) f ∧ NF wr f ∧ From w.heap.size f ∧ Below w.heap.size w wr) := by
            have h := HX.out
            rw [List.take_length, ← HNX.out] at h
            exact h
          clear hn1 hr1 hnf1 hfr1 hb1 hr2 HX
          go_wp2_with fail
          exact ⟨⟨k + 1, by omega, by go_num, _, _, _, rfl, HX2⟩, by simp [intOf]; omega⟩
    · obtain rfl : k = l.length := by omega
      obtain ⟨hn, f, h1, h2, h3, h4⟩ := HX.out
      rw [List.take_length] at h1 hn
      have HY : Hid (Rd wr 4 (.slice B n d) (rcs (mergeAll (allR l))) f ∧ NF wr f ∧ From w.heap.size f ∧ Below w.heap.size w wr) := ⟨h1, h2, h3, h4⟩
      clear h1 h2 h3 h4 hn HX
      go_wp2
      go_ret
      exact ⟨_, f, rfl, HY.out.1, HY.out.2.1, HY.out.2.2.1, HY.out.2.2.2⟩

set_option maxRecDepth 100000 in
set_option maxHeartbeats 2000000 in
theorem specRowsOf_r (A : Option Addr) (c : Nat) (l : List Pt) (w : World) (fp : List Nat) (hs : psz l ≤ 1048576) (ha : RdP w (.slice A l.length c) l fp) :
    Calls Try.prog 55 #[.slice A l.length c] w (RResPost w (roC l) (roL l)) := by
  have HB0 := Lib.hid (below_new (w := w) (.cells #[.int .i64 0, .slice none 0 0] 31))
  have HG0 := Lib.hid (heap_new w (.cells #[.int .i64 0, .slice none 0 0] 31) rfl)
  have hcall := l7Fault_c A c l _ fp (by omega) (ha.below' HB0.out)
  have HA := Lib.hid ha
  unfold roC
  by_cases h0 : partsF l = 0
  case neg =>
    have e : roL l = [] := by unfold roL; rw [if_neg h0]
    rw [e]
    generalize partsF l = V at *
    have HC := Lib.hid hcall
    have t1 : (V != 0) = true := by simpa using h0
    clear h0 e hcall ha hs
    go_enter Try.func55, Try.ntmps55
    go_wp2_with fail
    refine HC.out.mono ?_
    rintro e w1 ⟨rfl, hb1⟩
    have HB1 := Lib.hid (HB0.out.trans (hb1.mono HB0.out.size))
    obtain ⟨y0, y1, z0, z1, yz⟩ := two_at ((hb1.block _ (heap_lt HG0.out)).trans HG0.out)
    clear hb1
    go_wp2_with fail
    exact bodyPost_ret (v := .agg #[.int .i64 V, .slice none 0 0]) (by simp [results, Try.results55, go_sem, y0, y1]) rfl ⟨_, rfl, rres_nil _ _ _, HB1.out.trans ((But.two _ w.heap.size 0 1 _ _).below HB1.out.size (by intro b hb; simp at hb; omega))⟩
  have e : roL l = mergeAll (allR l) := by unfold roL; rw [if_pos h0]
  have hrows := fun (w : World) (fp : List Nat) (ha : RdP w (.slice A l.length c) l fp) => l7Rows_c A c l w fp h0 ha
  rw [e]
  rw [h0] at hcall ⊢
  have HC := Lib.hid hcall; have HRW := Lib.hid hrows
  generalize mergeAll (allR l) = M at *
  clear h0 e hcall ha hs hrows
  go_enter Try.func55, Try.ntmps55
  go_wp2_with fail
  refine HC.out.mono ?_
  rintro e w1 ⟨rfl, hb1⟩
  have HB1 := Lib.hid (HB0.out.trans (hb1.mono HB0.out.size))
  have HG1 := Lib.hid ((hb1.block _ (heap_lt HG0.out)).trans HG0.out)
  have HA1 := Lib.hid (HA.out.below' HB1.out)
  clear hb1
  go_wp2_with fail
  refine (HRW.out _ fp HA1.out).mono ?_
  rintro e w2 ⟨v2, f2, rfl, hr2, hn2, hf2, hb2⟩
  obtain ⟨A2, c2, rfl⟩ := hr2.rows_form
  obtain ⟨y0, y1, z0, z1, yz⟩ := two_at ((hb2.block _ (heap_lt HG1.out)).trans HG1.out)
  have HX := Lib.hid (rres_stored (code := 0) (g := w.heap.size) (HB1.out.trans (hb2.mono HB1.out.size)) (Nat.le_refl _) hr2 hn2 (hf2.mono (heap_lt HG1.out)))
  clear hr2 hn2 hf2 hb2
  go_wp2_with fail
  exact bodyPost_ret (v := .agg #[.int .i64 0, .slice A2 M.length c2]) (by simp [results, Try.results55, go_sem, y0, y1]) rfl ⟨_, rfl, HX.out.1, HX.out.2⟩
end Go.Proofs.Ytoabohllphoioaa
