/-
  The program's functions of chapter 7, third part: the least mark; all rows.
-/
import Derived.Test.YtoabohllphoioaaGreatG13
import Derived.Test.YtoabohllphoioaaGreatG31
import Derived.Test.YtoabohllphoioaaGreatImpl2f
import Derived.Test.YtoabohllphoioaaGreatSpec7c
import Derived.Test.YtoabohllphoioaaGreatG18
import Derived.Deep.DeepCutAuto
namespace Go.Proofs.YtoabohllphoioaaGreat
open Go.RowKit

def AskLeastMark : Prop := ∀ (A : Option Addr) (c : Nat) (l : List Pt) (w : World) (fp : List Nat), psz l ≤ 1048576 → WfT l → RdP w (.slice A l.length c) l fp →
  Calls Tryz.prog 11 #[.slice A l.length c] w fun e w' => e = .returned (pairV (lmP l)) ∧ Below w.heap.size w w'

theorem leastI_first (zs : List Int) (h : 0 < zs.length) : leastI (zs.take 1) = zs[0] := by
  match zs, h with
  | z :: t, _ => rfl
set_option maxRecDepth 100000 in
set_option maxHeartbeats 1000000 in
theorem minInts_c (A : Option Addr) (c : Nat) (zs : List Int) (w : World) (fp : List Nat) (h1 : 1 ≤ zs.length) (ha : Rd w 1 (.slice A zs.length c) (cellsOf .i64 zs) fp) :
    Calls Tryz.prog 40 #[.slice A zs.length c] w fun e w' => e = .returned (.int .i64 (leastI zs)) ∧ w = w' := by
  have hmax := ha.len_le
  have HA := Lib.hid ha
  obtain ⟨b, off, rfl, _, hbl, hc⟩ := ha.ints_at (k := 0) (by omega)
  have hm0 := leastI_first zs h1
  rw [Nat.add_zero] at hc
  obtain ⟨z0, hz0⟩ : ∃ z0, z0 = zs[0]'(by omega) := ⟨_, rfl⟩
  rw [← hz0] at hc hm0
  clear hz0
  have HM0 := Lib.hid hm0
  have hl1 : ¬ ((zs.length : Int) < 1) := by omega
  have hl0 : (0 : Int) < (zs.length : Int) := by omega
  clear ha hm0
  go_enter Tryz.func40, Tryz.ntmps40
  go_wp2_with fail
  clear hc hl0 hl1
  go_loop [3, 4] (fun s i => ∃ k : Nat, 1 ≤ k ∧ k ≤ zs.length ∧ i = .int .i64 k ∧ ∃ n : Int, s = .int .i64 n ∧ Hid (leastI (zs.take k) = n)) (fun _ i => zs.length - (intOf i).toNat)
  case atStart => exact ⟨1, by omega, h1, rfl, _, rfl, HM0⟩
  case round =>
    clear HM0
    obtain ⟨k, hk1, hk, rfl, n, rfl, HN⟩ := hrel
    by_cases hlt : k < zs.length
    · obtain ⟨b', off', hA, _, _, hc⟩ := HA.out.ints_at hlt
      injection hA with hA; injection hA with e1 e2 _
      subst e1 e2
      have hnx := leastI_take zs k hk1 hlt
      rw [HN.out] at hnx
      generalize zs[k] = m at *
      have hmin : (if n < m then n else m) = min n m := by
        by_cases h : n < m
        · rw [if_pos h]; omega
        · rw [if_neg h]; omega
      rw [hmin] at hnx
      have HNX := Lib.hid hnx
      clear hnx hmin
      go_wp2_with fail
      exact ⟨⟨k + 1, by omega, by omega, by go_num, _, rfl, HNX⟩, by simp [intOf]; omega⟩
    · obtain rfl : k = zs.length := by omega
      have hn := HN.out
      rw [List.take_length] at hn
      have HNN := Lib.hid hn
      clear hn
      go_wp2
      go_ret
      exact ⟨by rw [HNN.out]; rfl, rfl⟩

theorem three_marks {w : World} {g : Nat} {t : TypeId} {a b c : Int} (hg : w.heap[g]? = some (.cells #[.int .i64 a, .int .i64 b, .int .i64 c] t (0, 0))) : Rd w 1 (.slice (some ⟨g, 0, none⟩) [a, b, c].length 3) (cellsOf .i64 [a, b, c]) [g] :=
  ⟨_, 3, 3, rfl, rfl, by unfold maxLen; omega, by omega, .inr ⟨g, 0, rfl, rfl, heap_lt hg, fun i u hu => by
    rw [Nat.zero_add, cell_of_heap hg, List.getElem?_toArray]; exact hu⟩⟩

set_option maxRecDepth 100000 in
set_option maxHeartbeats 2000000 in
theorem implLeastMark_a : AskLeastMark := by
  intro A c l w fp hs hwf ha
  have HB0 := Lib.hid (below_new (w := w) (.cells #[.int .i64 0, .int .i64 0] 40))
  have HG0 := Lib.hid (heap_new w (.cells #[.int .i64 0, .int .i64 0] 40) rfl)
  have hcall := implPartsFault_a A c l _ fp hs hwf (ha.below' HB0.out)
  have HA := Lib.hid ha
  by_cases h0 : partsF l = 0
  case neg =>
    have e : lmP l = (partsF l, 0) := by unfold lmP lmV; rw [if_neg h0]
    rw [e]
    generalize partsF l = V at *
    have HC := Lib.hid hcall
    have t1 : (V != 0) = true := by simpa using h0
    clear h0 e hcall ha hs hwf
    go_enter Tryz.func11, Tryz.ntmps11
    go_wp2_with fail
    refine HC.out.mono ?_
    rintro e w1 ⟨rfl, hb1⟩
    have HB1 := Lib.hid (HB0.out.trans (hb1.mono HB0.out.size))
    obtain ⟨y0, y1, z0, z1, yz⟩ := two_at ((hb1.block _ (heap_lt HG0.out)).trans HG0.out)
    clear hb1
    go_wp2_with fail
    exact bodyPost_ret (v := pairV (V, 0)) (by simp [results, Tryz.results11, go_sem, y0, y1]) rfl ⟨rfl, HB1.out.trans ((But.two _ w.heap.size 0 1 _ _).below HB1.out.size (by intro b hb; simp at hb; omega))⟩
  have h3 := (partsF_zero h0).1
  have e : lmP l = (0, leastI (l.map Pt.mark)) := by unfold lmP lmV; rw [if_pos h0, h0]; rfl
  have em : l.map Pt.mark = [(l.getD 0 default).mark, (l.getD 1 default).mark, (l.getD 2 default).mark] := by
    obtain ⟨a, b, c, rfl⟩ := eq_three h3
    rfl
  rw [e, em]
  rw [h0] at hcall
  have HC := Lib.hid hcall
  have hmarks := fun (w : World) (fp : List Nat) (ha : RdP w (.slice A l.length c) l fp) => partMarks_c A c l w fp h3 ha
  have HMK := Lib.hid hmarks
  generalize (l.getD 0 default).mark = m0 at *
  generalize (l.getD 1 default).mark = m1 at *
  generalize (l.getD 2 default).mark = m2 at *
  obtain ⟨M, hM⟩ : ∃ M, M = leastI [m0, m1, m2] := ⟨_, rfl⟩
  have HM := Lib.hid hM.symm
  rw [← hM]
  clear hM h0 e em hcall ha hs hwf hmarks h3
  go_enter Tryz.func11, Tryz.ntmps11
  go_wp2_with fail
  refine HC.out.mono ?_
  rintro e w1 ⟨rfl, hb1⟩
  have HB1 := Lib.hid (HB0.out.trans (hb1.mono HB0.out.size))
  have HG1 := Lib.hid ((hb1.block _ (heap_lt HG0.out)).trans HG0.out)
  have HA1 := Lib.hid (HA.out.below' HB1.out)
  clear hb1
  go_wp2_with fail
  refine (HMK.out _ fp HA1.out).mono ?_
  rintro e w2 ⟨rfl, hb2⟩
  have HB2 := Lib.hid (below_more (HB1.out.trans (hb2.mono HB1.out.size)) (.cells #[.int .i64 m0, .int .i64 m1, .int .i64 m2] 59))
  have HG2 := Lib.hid (heap_old (o' := .cells #[.int .i64 m0, .int .i64 m1, .int .i64 m2] 59) ((hb2.block _ (heap_lt HG1.out)).trans HG1.out))
  have HR := Lib.hid (three_marks (heap_new w2 (.cells #[.int .i64 m0, .int .i64 m1, .int .i64 m2] 59) rfl))
  clear hb2
  have hcall := minInts_c _ 3 [m0, m1, m2] _ _ (by simp) HR.out
  rw [HM.out] at hcall
  have HCL := Lib.hid hcall; clear hcall
  go_wp2_with fail
  refine HCL.out.mono ?_
  rintro e w3 ⟨rfl, hw⟩
  subst hw
  obtain ⟨y0, y1, z0, z1, yz⟩ := two_at HG2.out
  go_wp2_with fail
  exact bodyPost_ret (v := pairV (0, M)) (by simp [results, Tryz.results11, go_sem, y0, y1]) rfl ⟨rfl, HB2.out.trans ((But.two _ w.heap.size 0 1 _ _).below HB2.out.size (by intro b hb; simp at hb; omega))⟩

/-- Rows that are the call's own, sorted. -/
theorem sortOwn_c (L S : List R) (v : Value) (base : Nat) (w : World) (hown : w.ownsRow base 32 4 v L.length (rcs L)) (h12 : L.length ≤ 12) (hfit : ∀ x ∈ L, Fit x) (hS : Rising none S) (hp : L.Perm S) :
    Calls Tryz.prog 60 #[v, .func (.func 61) #[] #[]] w fun e w' => e = .returned (.tuple #[]) ∧ (∃ f, Rd w' 4 v (rcs S) f ∧ NF w' f ∧ From base f) ∧ ∀ B0, B0 ≤ base → B0 ≤ w.heap.size → Below B0 w w' := by
  rcases Nat.eq_zero_or_pos L.length with hz | hz
  · have hnil : L = [] := List.eq_nil_of_length_eq_zero hz
    subst hnil
    have hS0 : S = [] := by have := hp.length_eq; exact List.eq_nil_of_length_eq_zero (by simpa using this.symm)
    subst hS0
    obtain ⟨f5, hrv, hnv, hfv⟩ := Rd.of_own hown
    obtain ⟨A5, c5, hv⟩ := Rd.rows_form (rs := []) hrv
    have hv : v = .slice A5 0 c5 := hv
    subst hv
    refine (sortByNone A5 c5 _ _ rfl ⟨_, _, _, rfl⟩).mono ?_
    rintro e w6 ⟨rfl, hb6⟩
    exact ⟨rfl, ⟨f5, hrv.below' hb6, hnv.keep fun q hq => hb6.block q (hrv.lt q hq), hfv⟩, fun B0 _ h => hb6.mono h⟩
  · obtain ⟨nn, hnn⟩ : ∃ nn, L.length = nn + 1 := ⟨L.length - 1, by omega⟩
    rw [hnn] at hown
    obtain ⟨g, off, c5, rfl, hc5, hgb, hrd5, hnf5⟩ := own_rd hown
    obtain ⟨D, hD⟩ := lift_fit (L := L) hfit
    have hDl : D.length = nn + 1 := by
      have := congrArg List.length hD
      rw [List.length_map, hnn] at this
      exact this
    rw [← hD, ← hDl] at hrd5
    have hsort := sortBy_c D g off c5 w (by omega) (by omega) hrd5 hnf5
    rw [hD, hDl] at hsort
    refine hsort.mono ?_
    rintro e w6 ⟨rfl, L', q1, q2, q3, q4, q5⟩
    have hL' : L' = S := sorted_is (q1.trans hp) hS q2
    subst hL'
    exact ⟨rfl, ⟨[g], q3, q4, fun b hb => by simp at hb; omega⟩, fun B0 h1 h2 => q5.below h2 (fun b hb => by simp at hb; omega)⟩

def AskRowsOf : Prop := ∀ (A : Option Addr) (c : Nat) (l : List Pt) (w : World) (fp : List Nat), psz l ≤ 1048576 → WfT l → RdP w (.slice A l.length c) l fp →
  Calls Tryz.prog 19 #[.slice A l.length c] w (RResPost w (roC l) (roL l))

theorem allR_three {l : List Pt} (h : l.length = 3) : [(l.getD 0 default).rows, (l.getD 1 default).rows, (l.getD 2 default).rows].flatten = allR l := by
  obtain ⟨a, b, c, rfl⟩ := eq_three h
  rfl

set_option maxRecDepth 100000 in
set_option maxHeartbeats 4000000 in
theorem implRowsOf_a : AskRowsOf := by
  intro A c l w fp hs hwf ha
  have HB0 := Lib.hid (below_new (w := w) (.cells #[.int .i64 0, .slice none 0 0] 46))
  have HG0 := Lib.hid (heap_new w (.cells #[.int .i64 0, .slice none 0 0] 46) rfl)
  have hcall := implPartsFault_a A c l _ fp hs hwf (ha.below' HB0.out)
  have HA := Lib.hid ha
  unfold roC
  by_cases h0 : partsF l = 0
  case neg =>
    have e : roL l = [] := by unfold roL; rw [if_neg h0]
    rw [e]
    generalize partsF l = V at *
    have HC := Lib.hid hcall
    have t1 : (V != 0) = true := by simpa using h0
    clear h0 e hcall ha hs hwf
    go_enter Tryz.func19, Tryz.ntmps19
    go_wp2_with fail
    refine HC.out.mono ?_
    rintro e w1 ⟨rfl, hb1⟩
    have HB1 := Lib.hid (HB0.out.trans (hb1.mono HB0.out.size))
    obtain ⟨y0, y1, z0, z1, yz⟩ := two_at ((hb1.block _ (heap_lt HG0.out)).trans HG0.out)
    clear hb1
    go_wp2_with fail
    exact bodyPost_ret (v := .agg #[.int .i64 V, .slice none 0 0]) (by simp [results, Tryz.results19, go_sem, y0, y1]) rfl ⟨_, rfl, rres_nil _ _ _, HB1.out.trans ((But.two _ w.heap.size 0 1 _ _).below HB1.out.size (by intro b hb; simp at hb; omega))⟩
  have h3 := (partsF_zero h0).1
  have e : roL l = mergeAll (allR l) := by unfold roL; rw [if_pos h0]
  have hal := allR_three h3
  obtain ⟨hrow, hdis, hl12⟩ := parts_rows h0
  obtain ⟨hris, hmem, hcnt, _⟩ := roL_facts h0
  have hperm : (allR l).Perm (mergeAll (allR l)) := by
    have key : ∀ {X Y : List R}, X.Nodup → Y.Nodup → (∀ x, x ∈ X ↔ x ∈ Y) → X.Perm Y := fun {X Y} hX hY h => (List.perm_ext_iff_of_nodup hX hY).2 h
    refine key (hdis.imp fun h e => h (by rw [e])) ((rising_pairwise hris).imp fun h e => by rw [e] at h; omega) fun x => (hmem x).symm
  have hsz : fsz [(l.getD 0 default).rows, (l.getD 1 default).rows, (l.getD 2 default).rows] ≤ 1000 := by
    unfold fsz
    rw [← flat_tot, hal]; simp; omega
  have hlists := fun (w : World) (fp : List Nat) (ha : RdP w (.slice A l.length c) l fp) => partLists_c A c l w fp h3 ha
  have HLS := Lib.hid hlists
  rw [e]
  rw [h0] at hcall ⊢
  have HC := Lib.hid hcall; have HSZ := Lib.hid hsz; have HAL := Lib.hid hal; have HPERM := Lib.hid hperm; have HRIS := Lib.hid hris
  have HFT : Hid (∀ x ∈ allR l, Fit x) := fun x hx => fit_of_rowF (hrow x hx)
  have HL12 := Lib.hid hl12
  generalize mergeAll (allR l) = S at *
  clear h0 e hcall ha hs hwf hlists h3 hsz hal hperm hris hrow hdis hl12 hmem hcnt
  go_enter Tryz.func19, Tryz.ntmps19
  go_wp2_with fail
  refine HC.out.mono ?_
  rintro e w1 ⟨rfl, hb1⟩
  have HB1 := Lib.hid (HB0.out.trans (hb1.mono HB0.out.size))
  have HG1 := Lib.hid ((hb1.block _ (heap_lt HG0.out)).trans HG0.out)
  have HA1 := Lib.hid (HA.out.below' HB1.out)
  clear hb1
  go_wp2_with fail
  refine (HLS.out _ fp HA1.out).mono ?_
  rintro e w2 ⟨Af, cf, ff, rfl, hrd, hb2⟩
  have r0 := hrd 0 (by omega); have r1 := hrd 1 (by omega); have r2 := hrd 2 (by omega)
  clear hrd
  generalize l.getD 0 default = q0 at *
  generalize l.getD 1 default = q1 at *
  generalize l.getD 2 default = q2 at *
  have HB2 := Lib.hid (below_more (HB1.out.trans (hb2.mono HB1.out.size)) (.cells #[.slice (Af 0) q0.rows.length (cf 0), .slice (Af 1) q1.rows.length (cf 1), .slice (Af 2) q2.rows.length (cf 2)] 87))
  have HG2 := Lib.hid (heap_old (o' := .cells #[.slice (Af 0) q0.rows.length (cf 0), .slice (Af 1) q1.rows.length (cf 1), .slice (Af 2) q2.rows.length (cf 2)] 87) ((hb2.block _ (heap_lt HG1.out)).trans HG1.out))
  have hg2 := heap_new w2 (.cells #[.slice (Af 0) q0.rows.length (cf 0), .slice (Af 1) q1.rows.length (cf 1), .slice (Af 2) q2.rows.length (cf 2)] 87) rfl
  have HRL := Lib.hid (three_lists hg2 (r0.alloc _) (r1.alloc _) (r2.alloc _))
  clear hg2 r0 r1 r2 hb2
  go_wp2_with fail
  generalize w2.alloc (.cells #[.slice (Af 0) q0.rows.length (cf 0), .slice (Af 1) q1.rows.length (cf 1), .slice (Af 2) q2.rows.length (cf 2)] 87) = w3 at *
  refine (concatAll_c _ 3 [q0.rows, q1.rows, q2.rows] _ _ HSZ.out HRL.out).mono ?_
  rw [HAL.out]
  rintro e w4 ⟨v4, rfl, hown4, hb4⟩
  obtain ⟨f4, hr4, _, _⟩ := Rd.of_own hown4
  obtain ⟨A4, c4, rfl⟩ := hr4.rows_form
  have HCS := Lib.hid (sortOwn_c (allR l) S _ w3.heap.size w4 hown4 HL12.out HFT.out HRIS.out HPERM.out)
  have HB4 := Lib.hid (HB2.out.trans (hb4.mono HB2.out.size))
  have HG4 := Lib.hid ((hb4.block _ (heap_lt HG2.out)).trans HG2.out)
  have HZ := Lib.hid (heap_lt HG2.out)
  have HZ4 := Lib.hid hb4.size
  clear hown4 hr4 hb4
  go_wp2_with fail
  refine HCS.out.mono ?_
  rintro e w5 ⟨rfl, ⟨f5, hr5, hn5, hf5⟩, hb5⟩
  have hbb := hb5 w3.heap.size (Nat.le_refl _) HZ4.out
  obtain ⟨y0, y1, z0, z1, yz⟩ := two_at ((hbb.block _ HZ.out).trans HG4.out)
  have hsl : (allR l).length = S.length := HPERM.out.length_eq
  rw [hsl] at hr5 ⊢
  have HX := Lib.hid (rres_stored (code := 0) (g := w.heap.size) (HB4.out.trans (hb5 w.heap.size (by have := HZ.out; omega) HB4.out.size)) (Nat.le_refl _) hr5 hn5 (hf5.mono HZ.out))
  clear hr5 hn5 hf5 hb5 hbb hsl
  go_wp2_with fail
  exact bodyPost_ret (v := .agg #[.int .i64 0, .slice A4 S.length c4]) (by simp [results, Tryz.results19, go_sem, y0, y1]) rfl ⟨_, rfl, HX.out.1, HX.out.2⟩
end Go.Proofs.YtoabohllphoioaaGreat

/-
  The program's functions of chapter 7, fourth part: parts made anew; rows laid into parts. By a maker (gen7d.py).
-/
namespace Go.Proofs.YtoabohllphoioaaGreat
open Go.RowKit

theorem one_at7 {w : World} {g : Nat} {u : Value} {t : TypeId} (h : w.heap[g]? = some (.cells #[u] t (0, 0))) : w.cell? ⟨g, 0, none⟩ = some u ∧ w.frozen? ⟨g, 0, none⟩ = false ∧ g < w.heap.size := ⟨cell_of_heap h, frozen_of_heap h, heap_lt h⟩
/-- Rows laid into parts with marks of their own. -/
def npL (rs : List R) (m0 m1 m2 : Int) : List Pt := [⟨rs.filter fun r => decide (rpart r = ((0 : Nat) : Int)), m0⟩, ⟨rs.filter fun r => decide (rpart r = ((1 : Nat) : Int)), m1⟩, ⟨rs.filter fun r => decide (rpart r = ((2 : Nat) : Int)), m2⟩]
theorem npL_len (rs : List R) (m0 m1 m2 : Int) : (npL rs m0 m1 m2).length = 3 := rfl
theorem npL_solid (rs : List R) (m : Int) : npL (solidL rs) m m m = partsOf rs m := by rw [← laidP_parts]; rfl

set_option maxRecDepth 100000 in
set_option maxHeartbeats 2000000 in
theorem newPartsFn (A : Option Addr) (c : Nat) (rs : List R) (fp : List Nat) (B1 B2 : Nat) (mf : Nat → Int) (w : World) (hs : rs.length ≤ 12) (hfit : Fits rs) (ha : Rd w 4 (.slice A rs.length c) (rcs rs) fp)
    (h1 : w.cell? ⟨B1, 0, none⟩ = some (.slice A rs.length c)) (l1 : B1 < w.heap.size) (h2 : ∀ k, k < 3 → w.cell? ⟨B2, k, none⟩ = some (.int .i64 (mf k))) (l2 : B2 < w.heap.size)
    (W : World) (k : Nat) (hk : k < 3) (hb : Below w.heap.size w W) :
    Calls Tryz.prog 66 (#[.int .i64 (k : Int)] ++ #[.pointer (some ⟨B1, 0, none⟩), .pointer (some ⟨B2, 0, none⟩)]) W fun e w' =>
      ∃ A' c' f, e = .returned (ptv (.slice A' (rs.filter fun r => decide (rpart r = (k : Int))).length c') (mf k)) ∧ Rd w' 4 (.slice A' (rs.filter fun r => decide (rpart r = (k : Int))).length c') (rcs (rs.filter fun r => decide (rpart r = (k : Int)))) f ∧ NF w' f ∧ From W.heap.size f ∧ Below W.heap.size W w' := by
  have eg : ∀ args w, (callFunc 67 args).run Tryz.prog w = .ok (.enter 67 args) w := enters_of Tryz.func67 (by kernel_rfl) rfl
  have hn1 : Below W.heap.size W ((W.alloc (.cells #[.int .i64 (k : Int)] 2)).alloc (.cells #[.slice none 0 0, .int .i64 0] 76)) := below_more (below_new _) _
  have g1 := (hn1.cell (p := ⟨B1, 0, none⟩) (Nat.lt_of_lt_of_le l1 hb.size)).trans ((hb.cell (p := ⟨B1, 0, none⟩) l1).trans h1)
  have g2 := (hn1.cell (p := ⟨B2, k, none⟩) (Nat.lt_of_lt_of_le l2 hb.size)).trans ((hb.cell (p := ⟨B2, k, none⟩) l2).trans (h2 k hk))
  have m1 : B1 < ((W.alloc (.cells #[.int .i64 (k : Int)] 2)).alloc (.cells #[.slice none 0 0, .int .i64 0] 76)).heap.size := by have := hb.size; simp; omega
  have m2 : B2 < ((W.alloc (.cells #[.int .i64 (k : Int)] 2)).alloc (.cells #[.slice none 0 0, .int .i64 0] 76)).heap.size := by have := hb.size; simp; omega
  have HG1 := Lib.hid (heap_old (o' := .cells #[.slice none 0 0, .int .i64 0] 76) (heap_new W (.cells #[.int .i64 (k : Int)] 2) rfl))
  have HG2 := Lib.hid (heap_new (W.alloc (.cells #[.int .i64 (k : Int)] 2)) (.cells #[.slice none 0 0, .int .i64 0] 76) (g := W.heap.size + 1) (by simp))
  have hcall := keep_c 67 #[.pointer (some ⟨W.heap.size, 0, none⟩)] (fun r => decide (rpart r = (k : Int))) eg A c rs ((W.alloc (.cells #[.int .i64 (k : Int)] 2)).alloc (.cells #[.slice none 0 0, .int .i64 0] 76)) fp (by omega) hfit
    (ownPred (k : Int) W.heap.size _ (cell_of_heap HG1.out) (heap_lt HG1.out)) ((ha.below' hb).below' hn1)
  have HC := Lib.hid hcall; have HN1 := Lib.hid hn1
  have hk0 : (0 : Int) ≤ (k : Int) := by omega
  have hk3 : (k : Int) < 3 := by omega
  generalize (rs.filter fun r => decide (rpart r = (k : Int))) = S at *
  generalize mf k = mk at *
  clear hcall eg hn1 ha h1 h2 hb hfit
  show Calls Tryz.prog 66 #[.int .i64 (k : Int), .pointer (some ⟨B1, 0, none⟩), .pointer (some ⟨B2, 0, none⟩)] W _
  go_enter Tryz.func66, Tryz.ntmps66
  go_wp2_with fail
  refine HC.out.mono ?_
  rintro e w1 ⟨v1, f1, rfl, hr1, hn1, hf1, hb1, _⟩
  obtain ⟨A1, c1, rfl⟩ := hr1.rows_form
  have g3 := (hb1.cell (p := ⟨B2, k, none⟩) m2).trans g2
  obtain ⟨k0, _, kz⟩ := one_at7 ((hb1.block _ (heap_lt HG1.out)).trans HG1.out)
  obtain ⟨y0, y1, z0, z1, yz⟩ := two_at ((hb1.block _ (heap_lt HG2.out)).trans HG2.out)
  have m3 := Nat.lt_of_lt_of_le m2 hb1.size
  have HB1 := Lib.hid (HN1.out.trans (hb1.mono HN1.out.size))
  have HR := Lib.hid hr1; have HNF := Lib.hid hn1; have HFR := Lib.hid hf1
  clear hb1 hr1 hn1 hf1 g1 g2 m1 m2
  go_wp2_with fail
  refine bodyPost_ret (v := ptv (.slice A1 S.length c1) mk) (by simp [results, Tryz.results66, go_sem, y0, y1]) rfl ?_
  have hbut := But.two w1 (W.heap.size + 1) 0 1 (.slice A1 S.length c1) (.int .i64 mk)
  have hx : ∀ b ∈ f1, b ∉ [W.heap.size + 1] := fun b hm h => by have := HFR.out b hm; have := heap_lt HG2.out; simp at h; omega
  exact ⟨A1, c1, f1, rfl, HR.out.but hbut hx, HNF.out.but hbut HR.out.lt hx, fun b hm => by have := HFR.out b hm; have := heap_lt HG1.out; omega, HB1.out.trans (hbut.below HB1.out.size (by intro b hb; simp at hb; omega))⟩

theorem six_at {w : World} {g : Nat} {a b c d e f : Value} {t : TypeId} (h : w.heap[g]? = some (.cells #[a, b, c, d, e, f] t (0, 0))) :
    w.cell? ⟨g, 0, none⟩ = some a ∧ w.cell? ⟨g, 1, none⟩ = some b ∧ w.cell? ⟨g, 2, none⟩ = some c ∧ w.cell? ⟨g, 3, none⟩ = some d ∧ w.cell? ⟨g, 4, none⟩ = some e ∧ w.cell? ⟨g, 5, none⟩ = some f ∧ (∀ i, w.frozen? ⟨g, i, none⟩ = false) ∧ g < w.heap.size :=
  ⟨cell_of_heap h, cell_of_heap h, cell_of_heap h, cell_of_heap h, cell_of_heap h, cell_of_heap h, fun i => frozen_of_heap h, heap_lt h⟩
/-- An array of three parts. -/
def ArrPost (w : World) (r0 r1 r2 : List R) (m0 m1 m2 : Int) (e : Ending) (w' : World) : Prop :=
  ∃ (A0 A1 A2 : Option Addr) (c0 c1 c2 : Nat) (f0 f1 f2 : List Nat), e = .returned (.agg #[.slice A0 r0.length c0, .int .i64 m0, .slice A1 r1.length c1, .int .i64 m1, .slice A2 r2.length c2, .int .i64 m2]) ∧
    Rd w' 4 (.slice A0 r0.length c0) (rcs r0) f0 ∧ Rd w' 4 (.slice A1 r1.length c1) (rcs r1) f1 ∧ Rd w' 4 (.slice A2 r2.length c2) (rcs r2) f2 ∧ NF w' [f0, f1, f2].flatten ∧ From w.heap.size [f0, f1, f2].flatten ∧ [f0, f1, f2].flatten.Nodup ∧ Below w.heap.size w w'

set_option maxRecDepth 100000 in
set_option maxHeartbeats 4000000 in
theorem forPts_c (g : Nat) (lb : Array Value) (eg : ∀ args w, (callFunc g args).run Tryz.prog w = .ok (.enter g args) w) (r0 r1 r2 : List R) (m0 m1 m2 : Int) (w : World)
    (hp : ∀ (W : World) (k : Nat) (p : Pt), [(⟨r0, m0⟩ : Pt), ⟨r1, m1⟩, ⟨r2, m2⟩][k]? = some p → Below w.heap.size w W → Calls Tryz.prog g (#[.int .i64 (k : Int)] ++ lb) W fun e w' =>
      ∃ A' c' f, e = .returned (ptv (.slice A' p.rows.length c') p.mark) ∧ Rd w' 4 (.slice A' p.rows.length c') (rcs p.rows) f ∧ NF w' f ∧ From W.heap.size f ∧ Below W.heap.size W w') :
    Calls Tryz.prog 65 #[.func (.func g) #[] lb] w (ArrPost w r0 r1 r2 m0 m1 m2) := by
  have HP := Lib.hid hp; clear hp
  obtain ⟨l, hl⟩ : ∃ l : List Pt, l = [(⟨r0, m0⟩ : Pt), ⟨r1, m1⟩, ⟨r2, m2⟩] := ⟨_, rfl⟩
  rw [← hl] at HP
  have hln : l.length = 3 := by rw [hl]; rfl
  have HL := Lib.hid hl; have HLN := Lib.hid hln
  clear hl hln
  have hz6 : (#[.slice none 0 0, .int .i64 0, .slice none 0 0, .int .i64 0, .slice none 0 0, .int .i64 0] : Array Value) = (List.replicate l.length [Value.slice none 0 0, .int .i64 0]).flatten.toArray := by rw [HLN.out]; rfl
  have HF0 : Hid (Fill partK [.slice none 0 0, .int .i64 0] (w.alloc (.cells #[.slice none 0 0, .int .i64 0, .slice none 0 0, .int .i64 0, .slice none 0 0, .int .i64 0] 100)) 100 l 0 ((w.alloc (.cells #[.slice none 0 0, .int .i64 0, .slice none 0 0, .int .i64 0, .slice none 0 0, .int .i64 0] 100)).alloc (.cells #[.slice none 0 0, .int .i64 0, .slice none 0 0, .int .i64 0, .slice none 0 0, .int .i64 0] 100))) := Fill.zero hz6
  have HG0 := Lib.hid (heap_new w (.cells #[.slice none 0 0, .int .i64 0, .slice none 0 0, .int .i64 0, .slice none 0 0, .int .i64 0] 100) rfl)
  have HW1 := Lib.hid (below_new (w := w) (.cells #[.slice none 0 0, .int .i64 0, .slice none 0 0, .int .i64 0, .slice none 0 0, .int .i64 0] 100))
  have HS1 : Hid ((w.alloc (.cells #[.slice none 0 0, .int .i64 0, .slice none 0 0, .int .i64 0, .slice none 0 0, .int .i64 0] 100)).heap.size = w.heap.size + 1) := by exact Lib.hid (by simp)
  clear hz6
  go_enter Tryz.func65, Tryz.ntmps65
  go_wp2_with fail
  generalize hw1 : w.alloc (.cells #[.slice none 0 0, .int .i64 0, .slice none 0 0, .int .i64 0, .slice none 0 0, .int .i64 0] 100) = w1 at HF0 HG0 HW1 HS1
  have HWE := Lib.hid hw1; clear hw1
  go_loopw [5] (fun i wr => ∃ k : Nat, k ≤ 3 ∧ i = .int .i64 k ∧ Hid (Fill partK [.slice none 0 0, .int .i64 0] w1 100 l k wr)) (fun i _ => 3 - (intOf i).toNat)
  case atStart => exact ⟨0, Nat.zero_le _, rfl, HF0⟩
  case round =>
    clear HF0 HWE
    obtain ⟨k, hk, rfl, HFL⟩ := hrel
    by_cases hlt : k < 3
    · have hkl : k < l.length := by rw [HLN.out]; exact hlt
      have hbw : Below w.heap.size w wr := HW1.out.trans (HFL.out.below.mono HW1.out.size)
      have hcall := HP.out wr k l[k] (List.getElem?_eq_getElem hkl) hbw
      have HCL := Lib.hid hcall
      have hk0 : (0 : Int) ≤ (k : Int) := by omega
      have hk3 : (k : Int) < 3 := by omega
      obtain ⟨p, hpe⟩ : ∃ p, p = l[k] := ⟨_, rfl⟩
      rw [← hpe] at HCL
      have HPE := Lib.hid hpe
      clear hcall hbw hpe
      go_wp2_with fail
      refine HCL.out.mono ?_
      rintro e w2 ⟨A2, c2, f2, rfl, hr2, hn2, hf2, hb2⟩
      obtain ⟨hz1, hfz, hcl⟩ := HFL.out.cells (by rfl) hkl hb2
      have c0 := hcl 0 _ rfl
      have c1 := hcl 1 _ rfl
      simp only [partK, Nat.add_zero] at c0 c1
      have f0 := hfz (k * 2)
      have f1 := hfz (k * 2 + 1)
      have hst : ∀ w3, But [w1.heap.size] w2 w3 → (∀ cs, w2.heap[w1.heap.size]? = some (.cells cs 100 (0, 0)) → w3.heap[w1.heap.size]? = some (.cells (setAll cs (k * partK.K) [.slice A2 p.rows.length c2, .int .i64 p.mark]) 100 (0, 0))) → Fill partK [.slice none 0 0, .int .i64 0] w1 100 l (k + 1) w3 :=
        fun w3 hbut hset => HFL.out.step rfl hkl hb2 (by rw [← HPE.out]; exact ⟨_, rfl, hr2⟩) hn2 hf2 hr2.nodup hbut hset
      have HST := Lib.hid hst; clear hst
      rw [HS1.out] at hz1 c0 c1 f0 f1
      clear hr2 hn2 hf2 hb2 HFL hfz hcl
      go_wp2_with fail
      refine ⟨⟨k + 1, by omega, by go_num, Lib.hid (HST.out _ (((But.refl _ _).setCell (by rw [HS1.out]; simp) _).setCell (by rw [HS1.out]; simp) _) (fun cs hcs => ?_))⟩, by simp [intOf]; omega⟩
      simp only [partK, setAll]
      rw [HS1.out] at hcs ⊢
      exact heap_set1 (heap_set1 hcs)
    · obtain rfl : k = 3 := by omega
      obtain ⟨us, fs, ha, hg, hnf, hfr, hno, hbel⟩ := HFL.out
      rw [show l.take 3 = l by rw [← HLN.out, List.take_length], HL.out] at ha
      rw [HLN.out, Nat.sub_self, List.replicate_zero, List.flatten_nil, List.append_nil] at hg
      obtain ⟨u0, us, f0, fs, rfl, rfl, ⟨v0, e0, q0⟩, ha⟩ := ha.cons
      obtain ⟨u1, us, f1, fs, rfl, rfl, ⟨v1, e1, q1⟩, ha⟩ := ha.cons
      obtain ⟨u2, us, f2, fs, rfl, rfl, ⟨v2, e2, q2⟩, ha⟩ := ha.cons
      match us, fs, ha with
      | [], [], _ =>
        subst e0 e1 e2
        obtain ⟨A0, c0, rfl⟩ := Rd.rows_form (rs := r0) q0
        obtain ⟨A1, c1, rfl⟩ := Rd.rows_form (rs := r1) q1
        obtain ⟨A2, c2, rfl⟩ := Rd.rows_form (rs := r2) q2
        have hg' : wr.heap[w.heap.size + 1]? = some (.cells #[.slice A0 r0.length c0, .int .i64 m0, .slice A1 r1.length c1, .int .i64 m1, .slice A2 r2.length c2, .int .i64 m2] 100 (0, 0)) := by rw [← HS1.out]; exact hg
        obtain ⟨x0, x1, x2, x3, x4, x5, xf, xz⟩ := six_at hg'
        obtain ⟨y0, y1, y2, y3, y4, y5, yf, yz⟩ := six_at ((hbel.block _ (heap_lt HG0.out)).trans HG0.out)
        have z0 := yf 0; have z1 := yf 1; have z2 := yf 2; have z3 := yf 3; have z4 := yf 4; have z5 := yf 5
        have HX : Hid (Rd wr 4 (.slice A0 r0.length c0) (rcs r0) f0 ∧ Rd wr 4 (.slice A1 r1.length c1) (rcs r1) f1 ∧ Rd wr 4 (.slice A2 r2.length c2) (rcs r2) f2 ∧ NF wr [f0, f1, f2].flatten ∧ From (w.heap.size + 1) [f0, f1, f2].flatten ∧ [f0, f1, f2].flatten.Nodup ∧ Below w.heap.size w wr) :=
          ⟨q0, q1, q2, hnf, hfr.mono (by rw [HS1.out]; omega), hno, HW1.out.trans (hbel.mono HW1.out.size)⟩
        clear q0 q1 q2 hnf hfr hno hbel hg hg' HFL xf yf
        go_wp2_with fail
        refine bodyPost_ret (v := .agg #[.slice A0 r0.length c0, .int .i64 m0, .slice A1 r1.length c1, .int .i64 m1, .slice A2 r2.length c2, .int .i64 m2]) (by simp [results, Tryz.results65, go_sem, y0, y1, y2, y3, y4, y5]) rfl ?_
        obtain ⟨k1, k2, k3, k4, k5, k6, k7⟩ := HX.out
        have hbut := ((((((But.refl [w.heap.size] wr).setCell (p := ⟨w.heap.size, 0, none⟩) (by simp) (.slice A0 r0.length c0)).setCell (p := ⟨w.heap.size, 1, none⟩) (by simp) (.int .i64 m0)).setCell (p := ⟨w.heap.size, 2, none⟩) (by simp) (.slice A1 r1.length c1)).setCell (p := ⟨w.heap.size, 3, none⟩) (by simp) (.int .i64 m1)).setCell (p := ⟨w.heap.size, 4, none⟩) (by simp) (.slice A2 r2.length c2)).setCell (p := ⟨w.heap.size, 5, none⟩) (by simp) (.int .i64 m2)
        have hx : ∀ b ∈ [f0, f1, f2].flatten, b ∉ [w.heap.size] := fun b hm h => by have := k5 b hm; simp at h; omega
        have x0 : ∀ b ∈ f0, b ∉ [w.heap.size] := fun b hm => hx b (by simp [hm])
        have x1 : ∀ b ∈ f1, b ∉ [w.heap.size] := fun b hm => hx b (by simp [hm])
        have x2 : ∀ b ∈ f2, b ∉ [w.heap.size] := fun b hm => hx b (by simp [hm])
        have hlt : ∀ b ∈ [f0, f1, f2].flatten, b < wr.heap.size := fun b hm => by
          simp only [List.flatten_cons, List.flatten_nil, List.append_nil, List.mem_append] at hm
          rcases hm with hm | hm | hm
          · exact k1.lt b hm
          · exact k2.lt b hm
          · exact k3.lt b hm
        exact ⟨A0, A1, A2, c0, c1, c2, f0, f1, f2, rfl, k1.but hbut x0, k2.but hbut x1, k3.but hbut x2, k4.but hbut hlt hx, k5.mono (by omega), k6, k7.trans (hbut.below k7.size (by intro b hb; simp at hb; omega))⟩

/-- Three parts in a block. -/
theorem three_parts {w : World} {g : Nat} {t : TypeId} {A0 A1 A2 : Option Addr} {c0 c1 c2 : Nat} {r0 r1 r2 : List R} {m0 m1 m2 : Int} {f0 f1 f2 : List Nat} (hg : w.heap[g]? = some (.cells #[.slice A0 r0.length c0, .int .i64 m0, .slice A1 r1.length c1, .int .i64 m1, .slice A2 r2.length c2, .int .i64 m2] t (0, 0)))
    (h0 : Rd w 4 (.slice A0 r0.length c0) (rcs r0) f0) (h1 : Rd w 4 (.slice A1 r1.length c1) (rcs r1) f1) (h2 : Rd w 4 (.slice A2 r2.length c2) (rcs r2) f2) :
    RdP w (.slice (some ⟨g, 0, none⟩) 3 3) [⟨r0, m0⟩, ⟨r1, m1⟩, ⟨r2, m2⟩] ([g] ++ [f0, f1, f2].flatten) :=
  ⟨[[.slice A0 r0.length c0, .int .i64 m0], [.slice A1 r1.length c1, .int .i64 m1], [.slice A2 r2.length c2, .int .i64 m2]], [g], [f0, f1, f2], ⟨_, 3, 3, rfl, rfl, by unfold maxLen; omega, by omega, .inr ⟨g, 0, rfl, rfl, heap_lt hg, fun i u hu => by
    rw [Nat.zero_add, cell_of_heap hg, List.getElem?_toArray]; exact hu⟩⟩, ⟨⟨_, rfl, h0⟩, ⟨_, rfl, h1⟩, ⟨_, rfl, h2⟩, trivial⟩, rfl⟩

set_option maxRecDepth 100000 in
set_option maxHeartbeats 4000000 in
theorem newParts_c (A : Option Addr) (c : Nat) (rs : List R) (m0 m1 m2 : Int) (w : World) (fp : List Nat) (hs : rs.length ≤ 12) (hfit : Fits rs) (ha : Rd w 4 (.slice A rs.length c) (rcs rs) fp) :
    Calls Tryz.prog 28 #[.slice A rs.length c, .agg #[.int .i64 m0, .int .i64 m1, .int .i64 m2]] w (CopySl partK w (npL rs m0 m1 m2)) := by
  have eg : ∀ args w, (callFunc 66 args).run Tryz.prog w = .ok (.enter 66 args) w := enters_of Tryz.func66 (by kernel_rfl) rfl
  have hn1 : Below w.heap.size w ((w.alloc (.cells #[.slice A rs.length c] 24)).alloc (.cells #[.int .i64 m0, .int .i64 m1, .int .i64 m2] 59)) := below_more (below_new _) _
  have hg1 := heap_old (o' := .cells #[.int .i64 m0, .int .i64 m1, .int .i64 m2] 59) (heap_new w (.cells #[.slice A rs.length c] 24) rfl)
  have hg2 := heap_new (w.alloc (.cells #[.slice A rs.length c] 24)) (.cells #[.int .i64 m0, .int .i64 m1, .int .i64 m2] 59) (g := w.heap.size + 1) (by simp)
  have hcall := forPts_c 66 #[.pointer (some ⟨w.heap.size, 0, none⟩), .pointer (some ⟨w.heap.size + 1, 0, none⟩)] eg (rs.filter fun r => decide (rpart r = ((0 : Nat) : Int))) (rs.filter fun r => decide (rpart r = ((1 : Nat) : Int))) (rs.filter fun r => decide (rpart r = ((2 : Nat) : Int))) m0 m1 m2 _ (fun W k p hp hb => by
    have hk : k < 3 := by
      have := (List.getElem?_eq_some_iff.1 hp).1
      simpa using this
    have h := newPartsFn A c rs fp w.heap.size (w.heap.size + 1) (fun | 0 => m0 | 1 => m1 | _ => m2) _ hs hfit (ha.below' hn1) (cell_of_heap hg1) (heap_lt hg1) (fun k hk => by
      rw [cell_of_heap hg2]
      match k, hk with
      | 0, _ => rfl
      | 1, _ => rfl
      | 2, _ => rfl) (heap_lt hg2) W k hk hb
    match k, hk, hp with
    | 0, _, hp => injection hp with hp; subst hp; exact h
    | 1, _, hp => injection hp with hp; subst hp; exact h
    | 2, _, hp => injection hp with hp; subst hp; exact h)
  have HC := Lib.hid hcall; have HN1 := Lib.hid hn1; have HZ2 := Lib.hid (heap_lt hg2)
  have hnp : npL rs m0 m1 m2 = [⟨rs.filter fun r => decide (rpart r = ((0 : Nat) : Int)), m0⟩, ⟨rs.filter fun r => decide (rpart r = ((1 : Nat) : Int)), m1⟩, ⟨rs.filter fun r => decide (rpart r = ((2 : Nat) : Int)), m2⟩] := rfl
  rw [hnp]
  generalize (rs.filter fun r => decide (rpart r = ((0 : Nat) : Int))) = r0 at *
  generalize (rs.filter fun r => decide (rpart r = ((1 : Nat) : Int))) = r1 at *
  generalize (rs.filter fun r => decide (rpart r = ((2 : Nat) : Int))) = r2 at *
  clear hcall eg hn1 hg1 hg2 ha hfit hnp
  go_enter Tryz.func28, Tryz.ntmps28
  go_wp2_with fail
  refine HC.out.mono ?_
  rintro e w1 ⟨A0, A1, A2, c0, c1, c2, f0, f1, f2, rfl, k1, k2, k3, k4, k5, k6, k7⟩
  have hlt : ∀ b ∈ [f0, f1, f2].flatten, b < w1.heap.size := fun b hm => by
    simp only [List.flatten_cons, List.flatten_nil, List.append_nil, List.mem_append] at hm
    rcases hm with hm | hm | hm
    · exact k1.lt b hm
    · exact k2.lt b hm
    · exact k3.lt b hm
  have hgn := heap_new w1 (.cells #[.slice A0 r0.length c0, .int .i64 m0, .slice A1 r1.length c1, .int .i64 m1, .slice A2 r2.length c2, .int .i64 m2] 100) rfl
  have hB : Below w.heap.size w w1 := HN1.out.trans (k7.mono HN1.out.size)
  have hB2 := below_more hB (.cells #[.slice A0 r0.length c0, .int .i64 m0, .slice A1 r1.length c1, .int .i64 m1, .slice A2 r2.length c2, .int .i64 m2] 100)
  have hgz := hB.size
  have HX : Hid (CopySl partK w [⟨r0, m0⟩, ⟨r1, m1⟩, ⟨r2, m2⟩] (.returned (.slice (some ⟨w1.heap.size, 0, none⟩) 3 3)) (w1.alloc (.cells #[.slice A0 r0.length c0, .int .i64 m0, .slice A1 r1.length c1, .int .i64 m1, .slice A2 r2.length c2, .int .i64 m2] 100))) := by
    refine ⟨_, 3, [w1.heap.size] ++ [f0, f1, f2].flatten, rfl, three_parts hgn (k1.alloc _) (k2.alloc _) (k3.alloc _), fun x hx i => ?_, fun x hx => ?_, List.nodup_append.2 ⟨by simp, k6, fun a ha b hb => ?_⟩, hB2⟩
    · rcases List.mem_append.1 hx with hx | hx
      · simp at hx; subst hx; exact frozen_of_heap hgn
      · exact (k4.keep fun b hm => Below.heap_alloc _ _ _ (hlt b hm)) x hx i
    · rcases List.mem_append.1 hx with hx | hx
      · simp at hx; omega
      · have := k5 x hx; have := HZ2.out; omega
    · have := hlt b hb; simp at ha; omega
  clear k1 k2 k3 k4 k5 k6 k7 hlt hgn hB hB2 hgz
  go_wp2
  go_ret
  exact HX.out

theorem newParts_q (A : Option Addr) (c : Nat) (rs : List R) (m0 m1 m2 : Int) (L : List Pt) (hL : npL rs m0 m1 m2 = L) (w : World) (fp : List Nat) (hs : rs.length ≤ 12) (hfit : Fits rs) (ha : Rd w 4 (.slice A rs.length c) (rcs rs) fp) :
    Calls Tryz.prog 28 #[.slice A rs.length c, .agg #[.int .i64 m0, .int .i64 m1, .int .i64 m2]] w (CopySl partK w L) := by
  subst hL
  exact newParts_c A c rs m0 m1 m2 w fp hs hfit ha
def AskPartsFrom : Prop := ∀ (A : Option Addr) (c : Nat) (rs : List R) (m : Int) (w : World) (fp : List Nat), rs.length ≤ 1048576 → (∀ r ∈ rs, WfR r) → (Lit.int .i64 m).wf = true → Rd w 4 (.slice A rs.length c) (rcs rs) fp →
  Calls Tryz.prog 6 #[.slice A rs.length c, .int .i64 m] w (PsResPost w (poC rs m) (ppL rs m))
theorem partsFromFn (B : Nat) (m : Int) (w : World) (hB : w.cell? ⟨B, 0, none⟩ = some (.int .i64 m)) (hBz : B < w.heap.size) (W : World) (k : Nat) (hb : Below w.heap.size w W) :
    Calls Tryz.prog 27 (#[.int .i64 (k : Int)] ++ #[.pointer (some ⟨B, 0, none⟩)]) W fun e w' => e = .returned (.int .i64 m) ∧ W = w' := by
  have g0 := (hb.cell (p := ⟨B, 0, none⟩) hBz).trans hB
  have m1 := Nat.lt_of_lt_of_le hBz hb.size
  clear hb hB
  show Calls Tryz.prog 27 #[.int .i64 (k : Int), .pointer (some ⟨B, 0, none⟩)] W _
  go_enter Tryz.func27, Tryz.ntmps27
  go_wp2
  go_ret
  exact ⟨rfl, rfl⟩
theorem filledPred (w : World) : PredRow 30 #[] (fun r => !emptyB r) w := fun W x _ _ => isFilled_b x (emptyB x) rfl W

set_option maxRecDepth 100000 in
set_option maxHeartbeats 4000000 in
theorem implPartsFrom_a : AskPartsFrom := by
  intro A c rs m w fp hs hwf _ ha
  have hb0 : Below w.heap.size w ((w.alloc (.cells #[.int .i64 m] 2)).alloc (.cells #[.int .i64 0, .slice none 0 0] 29)) := below_more (below_new _) _
  have HB0 := Lib.hid hb0
  have HM0 := Lib.hid (heap_old (o' := .cells #[.int .i64 0, .slice none 0 0] 29) (heap_new w (.cells #[.int .i64 m] 2) rfl))
  have HG0 := Lib.hid (heap_new (w.alloc (.cells #[.int .i64 m] 2)) (.cells #[.int .i64 0, .slice none 0 0] 29) (g := w.heap.size + 1) (by simp))
  have HA := Lib.hid (ha.below' hb0); have HWF := Lib.hid hwf; have HAP := Lib.hid ha.lt
  clear ha hwf hb0
  by_cases h0 : rowsF rs = 0
  case neg =>
    have hC : poC rs m = rowsF rs := by unfold poC; rw [if_neg h0]
    have hL : ppL rs m = [] := by unfold ppL; rw [if_neg (by rw [hC]; exact h0)]
    rw [hC, hL]
    generalize hV : rowsF rs = V at h0 ⊢
    have HV := Lib.hid hV
    have t1 : (V != 0) = true := by simpa using h0
    clear h0 hC hL hV
    go_enter Tryz.func6, Tryz.ntmps6
    go_wp2_with fail
    refine (implRowsFault_a A c rs _ fp hs HWF.out HA.out).mono ?_
    rw [HV.out]
    rintro e w1 ⟨rfl, hb1⟩
    have HB1 := Lib.hid (HB0.out.trans (hb1.mono HB0.out.size))
    obtain ⟨y0, y1, z0, z1, yz⟩ := two_at ((hb1.block _ (heap_lt HG0.out)).trans HG0.out)
    clear hb1
    go_wp2_with fail
    exact bodyPost_ret (v := psv V (.slice none 0 0)) (by simp [results, Tryz.results6, go_sem, y0, y1]) rfl (psres_none (HB1.out.trans ((But.two _ (w.heap.size + 1) 0 1 _ _).below HB1.out.size (by intro b hb; simp at hb; omega))))
  cases h1 : inB m 0 999
  case false =>
    have hC : poC rs m = 3 := by unfold poC; rw [if_pos h0, h1]; rfl
    have hL : ppL rs m = [] := by unfold ppL; rw [if_neg (by rw [hC]; decide)]
    rw [hC, hL]
    have H0 := Lib.hid h0; have H1 := Lib.hid h1
    clear h0 hC hL h1
    go_enter Tryz.func6, Tryz.ntmps6
    go_wp2_with fail
    refine (implRowsFault_a A c rs _ fp hs HWF.out HA.out).mono ?_
    rw [H0.out]
    rintro e w1 ⟨rfl, hb1⟩
    have HB1 := Lib.hid (HB0.out.trans (hb1.mono HB0.out.size))
    obtain ⟨k0, _, kz⟩ := one_at7 ((hb1.block _ (heap_lt HM0.out)).trans HM0.out)
    obtain ⟨y0, y1, z0, z1, yz⟩ := two_at ((hb1.block _ (heap_lt HG0.out)).trans HG0.out)
    clear hb1
    go_wp2_with fail
    refine (isMark_b m false H1.out _).mono ?_
    rintro e w' ⟨rfl, hw⟩
    subst hw
    go_wp2_with fail
    exact bodyPost_ret (v := psv 3 (.slice none 0 0)) (by simp [results, Tryz.results6, go_sem, y0, y1]) rfl (psres_none (HB1.out.trans ((But.two _ (w.heap.size + 1) 0 1 _ _).below HB1.out.size (by intro b hb; simp at hb; omega))))
  have hC : poC rs m = 0 := by unfold poC; rw [if_pos h0, h1]; rfl
  have hL : ppL rs m = partsOf rs m := by unfold ppL; rw [if_pos hC]
  rw [hC, hL]
  obtain ⟨hfit, h12⟩ := rowsF_fits h0
  have eg : ∀ args w, (callFunc 27 args).run Tryz.prog w = .ok (.enter 27 args) w := enters_of Tryz.func27 (by kernel_rfl) rfl
  have eg2 : ∀ args w, (callFunc 30 args).run Tryz.prog w = .ok (.enter 30 args) w := enters_of Tryz.func30 (by kernel_rfl) rfl
  have EG := Lib.hid eg; have EG2 := Lib.hid eg2
  have H0 := Lib.hid h0; have H1 := Lib.hid h1; have HFIT := Lib.hid hfit
  obtain ⟨L, hLe⟩ : ∃ L, L = partsOf rs m := ⟨_, rfl⟩
  have HLE : Hid (npL (solidL rs) m m m = L) := (npL_solid rs m).trans hLe.symm
  have hL3 : L.length = 3 := by rw [hLe]; exact partsOf_len rs m
  rw [← hLe]
  have hfs : Fits (solidL rs) := fun j hj => by
    have hm : (solidL rs)[j] ∈ solidL rs := List.getElem_mem hj
    unfold solidL at hm
    obtain ⟨i, hi, e⟩ := List.mem_iff_getElem.1 (List.mem_filter.1 hm).1
    have e' : rs[i] = (solidL rs)[j] := e
    rw [← e']; exact hfit i hi
  have hsl := solid_len rs rs.length
  rw [List.take_length] at hsl
  have HFS := Lib.hid hfs; have HL3 := Lib.hid hL3
  clear h0 hC hL h1 hfit eg eg2 hLe hfs hL3
  go_enter Tryz.func6, Tryz.ntmps6
  go_wp2_with fail
  refine (implRowsFault_a A c rs _ fp hs HWF.out HA.out).mono ?_
  rw [H0.out]
  rintro e w1 ⟨rfl, hb1⟩
  have HB1 := Lib.hid (HB0.out.trans (hb1.mono HB0.out.size))
  have HG1 := Lib.hid ((hb1.block _ (heap_lt HG0.out)).trans HG0.out)
  have HM1 := Lib.hid ((hb1.block _ (heap_lt HM0.out)).trans HM0.out)
  have HA1 := Lib.hid (HA.out.below' hb1)
  obtain ⟨k0, _, kz⟩ := one_at7 HM1.out
  clear hb1
  go_wp2_with fail
  refine (isMark_b m true H1.out _).mono ?_
  rintro e w' ⟨rfl, hw⟩
  subst hw
  have HC1 := Lib.hid (forInts_c 27 #[.pointer (some ⟨w.heap.size, 0, none⟩)] EG.out (fun _ => m) w1 (fun W k _ hb => partsFromFn w.heap.size m w1 k0 kz W k hb))
  clear k0 kz
  go_wp2_with fail
  refine HC1.out.mono ?_
  rintro e w2 ⟨rfl, hb2⟩
  have HB2 := Lib.hid (below_more (HB1.out.trans (hb2.mono HB1.out.size)) (.cells #[.int .i64 m, .int .i64 m, .int .i64 m] 59))
  have HG2 := Lib.hid (heap_old (o' := .cells #[.int .i64 m, .int .i64 m, .int .i64 m] 59) ((hb2.block _ (heap_lt HG1.out)).trans HG1.out))
  have HK2 := Lib.hid (heap_new w2 (.cells #[.int .i64 m, .int .i64 m, .int .i64 m] 59) rfl)
  have HA2 := Lib.hid ((HA1.out.below' hb2).alloc (.cells #[.int .i64 m, .int .i64 m, .int .i64 m] 59))
  have hzz : w.heap.size + 1 < w2.heap.size := by have := heap_lt HG1.out; have := hb2.size; omega
  clear hb2
  generalize hW3 : w2.alloc (.cells #[.int .i64 m, .int .i64 m, .int .i64 m] 59) = W3 at HB2 HG2 HK2 HA2
  have HW3 := Lib.hid hW3; clear hW3
  generalize hgm : w2.heap.size = gm at HK2 hzz
  have HGM := Lib.hid hgm; clear hgm
  obtain ⟨a0, a1, a2, _, _, _, az⟩ := three_at6 HK2.out
  obtain ⟨y0, y1, z0, z1, yz⟩ := two_at HG2.out
  go_wp2_with fail
  rw [HW3.out, HGM.out]
  have hld : ∀ w', But [w.heap.size + 1] W3 w' → w'.cell? ⟨gm, 0, none⟩ = some (.int .i64 m) ∧ w'.cell? ⟨gm, 1, none⟩ = some (.int .i64 m) ∧ w'.cell? ⟨gm, 2, none⟩ = some (.int .i64 m) := fun w' h => ⟨(h.cell (p := ⟨gm, 0, none⟩) az (by simp; omega)).trans a0, (h.cell (p := ⟨gm, 1, none⟩) az (by simp; omega)).trans a1, (h.cell (p := ⟨gm, 2, none⟩) az (by simp; omega)).trans a2⟩
  have HLD := Lib.hid hld; clear hld
  refine wp_region_sched (fun w' => But [w.heap.size + 1] W3 w') [(0, true), (2, true), (1, false), (3, false), (4, true), (5, false)] (by kernel_rfl) (by kernel_rfl) (by kernel_rfl) (by kernel_rfl) (fun _ _ d _ _ h => by cases d <;> exact h) (But.drewN (But.refl _ _) 1) ?_
  simp only [opsOf, List.filterMap_cons, List.filterMap_nil, Option.map_some, List.getElem?_toArray, List.getElem?_cons_zero, List.getElem?_cons_succ]
  generalize hW0 : ({ heap := W3.heap, tape := W3.tape, drawn := W3.drawn + 1, os := W3.os, output := W3.output } : World) = v0
  have hv0 : But [w.heap.size + 1] W3 v0 := by rw [← hW0]; exact (But.drewN (But.refl _ _) 1)
  have HGV0 : Hid (v0.heap[w.heap.size + 1]? = some (.cells #[.int .i64 0, .slice none 0 0] 29 (0, 0))) := by rw [← hW0]; exact HG2.out
  clear hW0
  refine sched_run (v := ?_) (by rfl) ?_ ?_
  rotate_left
  · (intro w' hS'; go_simp; try with_reducible rfl)
  try simp only [Act.put, List.setIfInBounds_toArray, List.set_cons_zero, List.set_cons_succ]
  refine sched_run (v := ?_) (by rfl) ?_ ?_
  rotate_left
  · (intro w' hS'; obtain ⟨b0, b1, b2⟩ := HLD.out w' hS'; go_simp; try with_reducible rfl)
  try simp only [Act.put, List.setIfInBounds_toArray, List.set_cons_zero, List.set_cons_succ]
  refine sched_call (by rfl) (fun K hK => ?_)
  go_simp
  refine (keep_c 30 #[] (fun r => !emptyB r) EG2.out A c rs _ fp (by omega) HFIT.out (filledPred _) (HA2.out.but hv0 (fun b hb => by have := HAP.out b hb; simp; omega))).mono ?_
  rintro e v1 ⟨s1, f1, rfl, hr1, hn1, hf1, hbv0, _⟩
  have hv1 : But [w.heap.size + 1] W3 v1 := hv0.trans (But.of_below hbv0 _)
  have HGV1 := Lib.hid ((hbv0.block _ (heap_lt HGV0.out)).trans HGV0.out)
  obtain ⟨A1, c1, rfl⟩ := hr1.rows_form
  have HR1 : Hid (Rd v1 4 (.slice A1 (solidL rs).length c1) (rcs (solidL rs)) f1) := hr1
  clear hr1 hn1 hf1
  clear hbv0
  refine hK _ _ hv1 ?_
  try simp only [Act.put, List.setIfInBounds_toArray, List.set_cons_zero, List.set_cons_succ]
  refine sched_call (by rfl) (fun K hK => ?_)
  go_simp
  refine (newParts_q A1 c1 (solidL rs) m m m L HLE.out _ f1 (by omega) HFS.out HR1.out).mono ?_
  rintro e v2 ⟨A2, c2, f2, rfl, hr2, hn2, hf2, hd2, hbv1⟩
  have hv2 : But [w.heap.size + 1] W3 v2 := hv1.trans (But.of_below hbv1 _)
  have HGV2 := Lib.hid ((hbv1.block _ (heap_lt HGV1.out)).trans HGV1.out)
  obtain ⟨s0, s1, t0, t1, sz⟩ := two_at HGV2.out
  have HX2 : Hid (RdP v2 (.slice A2 L.length c2) L f2 ∧ NF v2 f2 ∧ From (w.heap.size + 1 + 1) f2 ∧ f2.Nodup ∧ But [w.heap.size + 1] W3 v2) := ⟨hr2, hn2, hf2.mono (by have := hv1.size; have := yz; omega), hd2, hv2⟩
  clear hr2 hn2 hf2 hd2
  clear hbv1
  refine hK _ _ hv2 ?_
  try simp only [Act.put, List.setIfInBounds_toArray, List.set_cons_zero, List.set_cons_succ]
  refine sched_run (v := ?_) (by rfl) ?_ ?_
  rotate_left
  · (intro w' hS'; go_simp; try with_reducible rfl)
  try simp only [Act.put, List.setIfInBounds_toArray, List.set_cons_zero, List.set_cons_succ]
  refine sched_call (by rfl) (fun K hK => ?_)
  go_simp
  refine hK _ _ ?_ ?_
  · exact (hv2.setCell (p := ⟨w.heap.size + 1, 0, none⟩) (by simp) _ |>.setCell (p := ⟨w.heap.size + 1, 1, none⟩) (by simp) _)
  try simp only [Act.put, List.setIfInBounds_toArray, List.set_cons_zero, List.set_cons_succ]
  refine sched_done ?_
  go_wp2_with fail
  obtain ⟨k1, k2, k3, k4, k5⟩ := HX2.out
  exact bodyPost_ret (v := psv 0 (.slice A2 L.length c2)) (by simp [results, Tryz.results6, go_sem, s0, s1]) rfl (psres_stored (HB2.out.trans (k5.below HB2.out.size (fun b hb => by simp at hb; omega))) (by omega) k1 k2 k3 k4)
end Go.Proofs.YtoabohllphoioaaGreat

/-
  The program's functions of chapter 7, fifth part: WritePart.
-/
namespace Go.Proofs.YtoabohllphoioaaGreat
open Go.RowKit

def AskWritePart : Prop := ∀ (A : Option Addr) (c : Nat) (l : List Pt) (r : R) (m : Int) (w : World) (fp : List Nat), psz l ≤ 1048576 → WfT l → WfR r → (Lit.int .i64 m).wf = true → RdP w (.slice A l.length c) l fp →
  Calls Tryz.prog 8 #[.slice A l.length c, rv r, .int .i64 m] w (PsResPost w (wqC l r m) (wqL l r m))

theorem prC_ok {M : List R} {r : R} (h : rowsF M = 0) (h1 : rowF r = 0) : prC M r = if 12 < (setR M r).length then 8 else 0 := by
  unfold prC; rw [if_neg (by simpa using h), if_neg (by simpa using h1)]
/-- The parts of all rows are the parts. -/
theorem np_same {l : List Pt} (h : partsF l = 0) : npL (mergeAll (allR l)) (l.getD 0 default).mark (l.getD 1 default).mark (l.getD 2 default).mark = l := by
  have h3 := (partsF_zero h).1
  have p0 := all_part h (j := 0) (by omega)
  have p1 := all_part h (j := 1) (by omega)
  have p2 := all_part h (j := 2) (by omega)
  unfold npL
  rw [p0, p1, p2]
  obtain ⟨a, b, c, rfl⟩ := eq_three h3
  rfl
/-- The parts of the rows with a row put among them. -/
theorem np_put {l : List Pt} {r : R} {m : Int} (h : partsF l = 0) (hr : rowF r = 0) (j : Nat) (hj : j < l.length) (he : rpart r = (j : Int)) :
    npL (setR (mergeAll (allR l)) r) (if j = 0 then m else (l.getD 0 default).mark) (if j = 1 then m else (l.getD 1 default).mark) (if j = 2 then m else (l.getD 2 default).mark) = l.set j ⟨setR l[j].rows r, m⟩ := by
  have h3 := (partsF_zero h).1
  have p0 := put_part h hr (j := 0) (by omega)
  have p1 := put_part h hr (j := 1) (by omega)
  have p2 := put_part h hr (j := 2) (by omega)
  unfold npL
  rw [p0, p1, p2]
  obtain ⟨a, b, c, rfl⟩ := eq_three h3
  simp only [List.length_cons, List.length_nil] at hj
  have hjj : j = 0 ∨ j = 1 ∨ j = 2 := by omega
  rcases hjj with rfl | rfl | rfl <;> simp [he]
theorem rising_fits {L : List R} (h : rowsF L = 0) : Fits L ∧ L.length ≤ 12 := rowsF_fits h
theorem set_wf {L : List R} {r : R} (hL : ∀ x ∈ L, WfR x) (hr : WfR r) : ∀ x ∈ setR L r, WfR x := fun x hx => by
  rcases mem_setR.1 hx with h | h
  · exact hL x h.1
  · rw [h.1]; exact hr
theorem merge_wf {l : List Pt} (h0 : partsF l = 0) (hw : WfT l) : ∀ x ∈ mergeAll (allR l), WfR x := fun x hx => by
  have hx := ((roL_facts h0).2.1 x).1 hx
  obtain ⟨k, hk, hx⟩ := mem_allR.1 hx
  exact (hw _ (List.getElem_mem hk)).2 x hx

set_option maxRecDepth 100000 in
set_option maxHeartbeats 8000000 in
theorem implWritePart_a : AskWritePart := by
  intro A c l r m w fp hs hwf hwr _ ha
  have hn := below_more (below_new (w := w) (.cells #[.int .i64 r.1, .int .i64 r.2.1, .int .i64 r.2.2.1, .int .i64 r.2.2.2] 32)) (.cells #[.int .i64 0, .slice none 0 0] 29)
  have GR := Lib.hid (heap_old (o' := .cells #[.int .i64 0, .slice none 0 0] 29) (heap_new w (.cells #[.int .i64 r.1, .int .i64 r.2.1, .int .i64 r.2.2.1, .int .i64 r.2.2.2] 32) rfl))
  have GZ := Lib.hid (heap_new (w.alloc (.cells #[.int .i64 r.1, .int .i64 r.2.1, .int .i64 r.2.2.1, .int .i64 r.2.2.2] 32)) (.cells #[.int .i64 0, .slice none 0 0] 29) (g := w.heap.size + 1) (by simp))
  have HB := Lib.hid hn
  have HA := Lib.hid (ha.below' hn)
  have hcall := implRowsOf_a A c l _ fp hs hwf (ha.below' hn)
  have HWR := Lib.hid hwr
  clear ha hn
  by_cases h0 : partsF l = 0
  case neg =>
    rw [wqC_a h0, wqL_no (by rw [wqC_a h0]; exact h0)]
    have e1 : roC l = partsF l := rfl
    have e2 : roL l = [] := by unfold roL; rw [if_neg h0]
    rw [e1, e2] at hcall
    have HC := Lib.hid hcall
    generalize partsF l = V at *
    have t1 : (V != 0) = true := by simpa using h0
    clear h0 hs hwf hwr hcall e1 e2
    go_enter Tryz.func8, Tryz.ntmps8
    go_wp2_with fail
    refine HC.out.mono ?_
    rintro e w1 ⟨q, rfl, ⟨v1, f1, rfl, hr1, hn1, hf1⟩, hb1⟩
    obtain ⟨A1, c1, hv1⟩ := Rd.rows_form (rs := []) hr1
    have hv1 : v1 = .slice A1 0 c1 := hv1
    subst hv1
    have HB1 := Lib.hid (below_more (HB.out.trans (hb1.mono HB.out.size)) (.cells #[.int .i64 V, .slice A1 0 c1] 46))
    have GZ1 := Lib.hid (heap_old (o' := .cells #[.int .i64 V, .slice A1 0 c1] 46) ((hb1.block _ (heap_lt GZ.out)).trans GZ.out))
    obtain ⟨y0, y1, z0, z1, yz⟩ := two_at GZ1.out
    clear hb1 hr1 hn1 hf1
    go_wp2_with fail
    exact bodyPost_ret (v := psv V (.slice none 0 0)) (by simp [results, Tryz.results8, go_sem, y0, y1]) rfl (psres_none (HB1.out.trans ((But.two _ (w.heap.size + 1) 0 1 _ _).below HB1.out.size (by intro b hb; simp at hb; omega))))
  have e1 : roC l = 0 := h0
  have e2 : roL l = mergeAll (allR l) := by unfold roL; rw [if_pos h0]
  rw [e1, e2] at hcall
  obtain ⟨_, _, hm12, hmz⟩ := roL_facts h0
  have hmw := merge_wf h0 hwf
  obtain ⟨M, hM⟩ : ∃ M, M = mergeAll (allR l) := ⟨_, rfl⟩
  rw [← hM] at hcall hm12 hmz hmw
  have HC := Lib.hid hcall; have HMZ := Lib.hid hmz; have HMW := Lib.hid hmw; have HM := Lib.hid hM
  have hmf := (rising_fits hmz).1
  have HMF := Lib.hid hmf
  clear hcall e1 e2 hmz hmw hmf hwf
  by_cases h1 : rowF r = 0
  case neg =>
    rw [wqC_b h0 h1, wqL_no (by rw [wqC_b h0 h1]; exact h1)]
    obtain ⟨V, hV⟩ : ∃ V, V = rowF r := ⟨_, rfl⟩
    have HV := Lib.hid hV.symm
    rw [← hV] at h1 ⊢
    have t1 : (V != 0) = true := by simpa using h1
    clear h0 h1 hV hs hM hwr
    go_enter Tryz.func8, Tryz.ntmps8
    go_wp2_with fail
    refine HC.out.mono ?_
    rintro e w1 ⟨q, rfl, ⟨v1, f1, rfl, hr1, hn1, hf1⟩, hb1⟩
    obtain ⟨A1, c1, rfl⟩ := hr1.rows_form
    have HB1 := Lib.hid (below_more (HB.out.trans (hb1.mono HB.out.size)) (.cells #[.int .i64 0, .slice A1 M.length c1] 46))
    have GZ1 := Lib.hid (heap_old (o' := .cells #[.int .i64 0, .slice A1 M.length c1] 46) ((hb1.block _ (heap_lt GZ.out)).trans GZ.out))
    have GR1 := Lib.hid (heap_old (o' := .cells #[.int .i64 0, .slice A1 M.length c1] 46) ((hb1.block _ (heap_lt GR.out)).trans GR.out))
    obtain ⟨r0, r1, r2, r3, _, _, _, _, rz⟩ := four_at GR1.out
    clear hb1 hr1 hn1 hf1
    go_wp2_with fail
    clear r0 r1 r2 r3 rz
    refine (implRowFault_a r _ HWR.out).mono ?_
    rw [HV.out]
    rintro e w2 ⟨rfl, hb2⟩
    have HB2 := Lib.hid (HB1.out.trans (hb2.mono HB1.out.size))
    obtain ⟨y0, y1, z0, z1, yz⟩ := two_at ((hb2.block _ (heap_lt GZ1.out)).trans GZ1.out)
    clear hb2
    go_wp2_with fail
    exact bodyPost_ret (v := psv V (.slice none 0 0)) (by simp [results, Tryz.results8, go_sem, y0, y1]) rfl (psres_none (HB2.out.trans ((But.two _ (w.heap.size + 1) 0 1 _ _).below HB2.out.size (by intro b hb; simp at hb; omega))))
  have H1 := Lib.hid h1
  cases h2 : inB m 0 999
  case false =>
    rw [wqC_c h0 h1 h2, wqL_no (by rw [wqC_c h0 h1 h2]; decide)]
    have H2 := Lib.hid h2
    clear h0 h1 h2 hs hM hwr
    go_enter Tryz.func8, Tryz.ntmps8
    go_wp2_with fail
    refine HC.out.mono ?_
    rintro e w1 ⟨q, rfl, ⟨v1, f1, rfl, hr1, hn1, hf1⟩, hb1⟩
    obtain ⟨A1, c1, rfl⟩ := hr1.rows_form
    have HB1 := Lib.hid (below_more (HB.out.trans (hb1.mono HB.out.size)) (.cells #[.int .i64 0, .slice A1 M.length c1] 46))
    have GZ1 := Lib.hid (heap_old (o' := .cells #[.int .i64 0, .slice A1 M.length c1] 46) ((hb1.block _ (heap_lt GZ.out)).trans GZ.out))
    have GR1 := Lib.hid (heap_old (o' := .cells #[.int .i64 0, .slice A1 M.length c1] 46) ((hb1.block _ (heap_lt GR.out)).trans GR.out))
    obtain ⟨r0, r1, r2, r3, _, _, _, _, rz⟩ := four_at GR1.out
    clear hb1 hr1 hn1 hf1
    go_wp2_with fail
    clear r0 r1 r2 r3 rz
    refine (implRowFault_a r _ HWR.out).mono ?_
    rw [H1.out]
    rintro e w2 ⟨rfl, hb2⟩
    have HB2 := Lib.hid (HB1.out.trans (hb2.mono HB1.out.size))
    have GZ2 := Lib.hid ((hb2.block _ (heap_lt GZ1.out)).trans GZ1.out)
    obtain ⟨y0, y1, z0, z1, yz⟩ := two_at GZ2.out
    clear hb2
    go_wp2_with fail
    refine (isMark_b m false H2.out _).mono ?_
    rintro e w' ⟨rfl, hw⟩
    subst hw
    go_wp2_with fail
    exact bodyPost_ret (v := psv 3 (.slice none 0 0)) (by simp [results, Tryz.results8, go_sem, y0, y1]) rfl (psres_none (HB2.out.trans ((But.two _ (w.heap.size + 1) 0 1 _ _).below HB2.out.size (by intro b hb; simp at hb; omega))))
  have H2 := Lib.hid h2
  have h3 := (partsF_zero h0).1
  obtain ⟨q1, q2⟩ := rpart_nat h3 r
  obtain ⟨j, hj⟩ : ∃ j, j = (rpart r).toNat := ⟨_, rfl⟩
  rw [← hj] at q1 q2
  have hold := fun hm => wqP_old (l := l) (m := m) j q1 q2.symm hm
  have hnew := fun hm => wqP_new (m := m) h0 j q1 q2.symm hm
  have hsame := np_same h0
  have hput := np_put (m := m) h0 h1 j q1 q2.symm
  have htot := put_tot (m := m) h0 h1 j q1 q2.symm
  have hcode := wqC_d h0 h1 h2
  have htl : totP l ≤ 12 := (partsF_zero h0).2.2
  have hlist : wqL l r m = if 12 < totP (wqP l r m) then [] else wqP l r m := by
    unfold wqL
    rw [hcode]
    by_cases h : 12 < totP (wqP l r m)
    · rw [if_pos h, if_pos h]; rfl
    · rw [if_neg h, if_neg h]; rfl
  rw [hcode, hlist]
  rw [← hM] at hsame hput htot
  have hmk := fun (w : World) (fp : List Nat) (ha : RdP w (.slice A l.length c) l fp) => partMarks_c A c l w fp h3 ha
  have hfr := fit_of_rowF h1
  have hj3 : j < 3 := by omega
  have hgd : l[j].mark = (if j = 0 then (l.getD 0 default).mark else if j = 1 then (l.getD 1 default).mark else (l.getD 2 default).mark) := by
    have := getD_at l j q1
    rw [← this]
    have hjj : j = 0 ∨ j = 1 ∨ j = 2 := by omega
    rcases hjj with rfl | rfl | rfl <;> rfl
  have HQ : Hid (rpart r = (j : Int)) := q2.symm
  have HFR := Lib.hid hfr; have HMK := Lib.hid hmk
  obtain ⟨K, hK⟩ : ∃ K, K = l[j].mark := ⟨_, rfl⟩
  rw [← hK] at hold hnew hgd
  obtain ⟨k0, hk0⟩ : ∃ k, k = (l.getD 0 default).mark := ⟨_, rfl⟩
  obtain ⟨k1, hk1⟩ : ∃ k, k = (l.getD 1 default).mark := ⟨_, rfl⟩
  obtain ⟨k2, hk2⟩ : ∃ k, k = (l.getD 2 default).mark := ⟨_, rfl⟩
  rw [← hk0, ← hk1, ← hk2] at hsame hput hgd HMK
  have j0 : (0 : Int) ≤ (j : Int) := by omega
  have j3 : (j : Int) < 3 := by omega
  have hcj : (#[Value.int .i64 k0, .int .i64 k1, .int .i64 k2] : Array Value)[j]? = some (.int .i64 K) := by
    rw [hgd]
    have hjj : j = 0 ∨ j = 1 ∨ j = 2 := by omega
    rcases hjj with rfl | rfl | rfl <;> rfl
  have HCJ := Lib.hid hcj; have HSAME := Lib.hid hsame
  obtain ⟨a0, ha0⟩ : ∃ a, a = (if j = 0 then m else k0) := ⟨_, rfl⟩
  obtain ⟨a1, ha1⟩ : ∃ a, a = (if j = 1 then m else k1) := ⟨_, rfl⟩
  obtain ⟨a2, ha2⟩ : ∃ a, a = (if j = 2 then m else k2) := ⟨_, rfl⟩
  have hset : (#[Value.int .i64 k0, .int .i64 k1, .int .i64 k2] : Array Value).setIfInBounds j (.int .i64 m) = #[.int .i64 a0, .int .i64 a1, .int .i64 a2] := by
    rw [ha0, ha1, ha2]
    have hjj : j = 0 ∨ j = 1 ∨ j = 2 := by omega
    rcases hjj with rfl | rfl | rfl <;> rfl
  rw [← ha0, ← ha1, ← ha2] at hput
  have HSET := Lib.hid hset; have HPUT := Lib.hid hput
  have hpr := prC_ok HMZ.out H1.out
  have hpl : prL M r = if prC M r = 0 then setR M r else [] := rfl
  have HPR := Lib.hid hpr; have HPL := Lib.hid hpl
  have hcond : (m ≤ K ∧ wqP l r m = l) ∨ (¬ m ≤ K ∧ wqP l r m = l.set j ⟨setR l[j].rows r, m⟩) := by
    by_cases h : m ≤ K
    · exact .inl ⟨h, hold h⟩
    · exact .inr ⟨h, hnew h⟩
  have hl3 : (l.set j ⟨setR l[j].rows r, m⟩).length = l.length := List.length_set
  generalize l.set j ⟨setR l[j].rows r, m⟩ = L at *
  have HCOND := Lib.hid hcond; have HTOT := Lib.hid htot; have HTL := Lib.hid htl; have HL3 := Lib.hid h3; have HLL := Lib.hid hl3
  clear h0 h1 h2 hs hM hwr hj q1 q2 hold hnew hsame hput htot hcode htl hlist hmk hfr hgd hcj ha0 ha1 ha2 hset hpr hpl hcond hK hk0 hk1 hk2 h3 hl3
  rcases HCOND.out with ⟨hle, hw⟩ | ⟨hgt, hw⟩
  all_goals
    rw [hw]
    have HW := Lib.hid hw; clear hw HCOND
  · rw [if_neg (by have := HTL.out; omega), if_neg (by have := HTL.out; omega)]
    go_enter Tryz.func8, Tryz.ntmps8
    go_wp2_with fail
    refine HC.out.mono ?_
    rintro e w1 ⟨q, rfl, ⟨v1, f1, rfl, hr1, hn1, hf1⟩, hb1⟩
    obtain ⟨A1, c1, rfl⟩ := hr1.rows_form
    replace GR := Lib.hid ((hb1.block _ (heap_lt GR.out)).trans GR.out)
    replace GZ := Lib.hid ((hb1.block _ (heap_lt GZ.out)).trans GZ.out)
    replace HA := Lib.hid (HA.out.below' hb1)
    replace HB := Lib.hid (HB.out.trans (hb1.mono HB.out.size))
    have RM := Lib.hid (hr1.alloc (.cells #[.int .i64 0, .slice A1 M.length c1] 46))
    have GX := Lib.hid (heap_new w1 (.cells #[.int .i64 0, .slice A1 M.length c1] 46) rfl)
    replace GR := Lib.hid (heap_old (o' := (.cells #[.int .i64 0, .slice A1 M.length c1] 46)) GR.out)
    replace GZ := Lib.hid (heap_old (o' := (.cells #[.int .i64 0, .slice A1 M.length c1] 46)) GZ.out)
    replace HA := Lib.hid (HA.out.alloc (.cells #[.int .i64 0, .slice A1 M.length c1] 46))
    replace HB := Lib.hid (below_more HB.out (.cells #[.int .i64 0, .slice A1 M.length c1] 46))
    have hgx : w.heap.size + 1 < w1.heap.size := by
      have h := heap_lt GZ.out
      have h2 := hb1.size
      simp at h h2
      omega
    clear hb1 hr1 hn1 hf1
    obtain ⟨r0, r1, r2, r3, _, _, _, _, rz⟩ := four_at GR.out
    obtain ⟨x0, x1, _, _, xz⟩ := two_at GX.out
    go_wp2_with fail
    clear r0 r1 r2 r3 rz x0 x1 xz
    generalize hW1 : w1.alloc (.cells #[.int .i64 0, .slice A1 M.length c1] 46) = W1 at GR GZ HA HB RM GX ⊢
    generalize w1.heap.size = g1 at *
    clear hW1
    refine (implRowFault_a r _ HWR.out).mono ?_
    rw [H1.out]
    rintro e w2 ⟨rfl, hb2⟩
    replace GR := Lib.hid ((hb2.block _ (heap_lt GR.out)).trans GR.out)
    replace GZ := Lib.hid ((hb2.block _ (heap_lt GZ.out)).trans GZ.out)
    replace GX := Lib.hid ((hb2.block _ (heap_lt GX.out)).trans GX.out)
    replace HA := Lib.hid (HA.out.below' hb2)
    replace RM := Lib.hid (RM.out.below' hb2)
    replace HB := Lib.hid (HB.out.trans (hb2.mono HB.out.size))
    clear hb2
    go_wp2_with fail
    refine (isMark_b m true H2.out _).mono ?_
    rintro e w' ⟨rfl, hw⟩
    subst hw
    go_wp2_with fail
    refine (HMK.out _ fp HA.out).mono ?_
    rintro e w3 ⟨rfl, hb3⟩
    replace GR := Lib.hid ((hb3.block _ (heap_lt GR.out)).trans GR.out)
    replace GZ := Lib.hid ((hb3.block _ (heap_lt GZ.out)).trans GZ.out)
    replace GX := Lib.hid ((hb3.block _ (heap_lt GX.out)).trans GX.out)
    replace HA := Lib.hid (HA.out.below' hb3)
    replace RM := Lib.hid (RM.out.below' hb3)
    replace HB := Lib.hid (HB.out.trans (hb3.mono HB.out.size))
    have hgm := heap_lt GX.out
    have hgz3 := heap_lt GZ.out
    have GM := Lib.hid (heap_new w3 (.cells #[.int .i64 k0, .int .i64 k1, .int .i64 k2] 59) rfl)
    replace GR := Lib.hid (heap_old (o' := (.cells #[.int .i64 k0, .int .i64 k1, .int .i64 k2] 59)) GR.out)
    replace GZ := Lib.hid (heap_old (o' := (.cells #[.int .i64 k0, .int .i64 k1, .int .i64 k2] 59)) GZ.out)
    replace GX := Lib.hid (heap_old (o' := (.cells #[.int .i64 k0, .int .i64 k1, .int .i64 k2] 59)) GX.out)
    replace RM := Lib.hid (RM.out.alloc (.cells #[.int .i64 k0, .int .i64 k1, .int .i64 k2] 59))
    replace HB := Lib.hid (below_more HB.out (.cells #[.int .i64 k0, .int .i64 k1, .int .i64 k2] 59))
    clear hb3
    obtain ⟨r0, r1, r2, r3, _, _, _, _, rz⟩ := four_at GR.out
    go_wp2_with fail
    clear r0 r1 r2 r3 rz
    generalize hW3 : w3.alloc (.cells #[.int .i64 k0, .int .i64 k1, .int .i64 k2] 59) = W3 at GR GZ GX GM RM HB ⊢
    generalize w3.heap.size = gm at *
    clear hW3
    refine (rowPart_q r (j : Int) HQ.out _ HFR.out).mono ?_
    rintro e w4 ⟨rfl, hb4⟩
    replace GR := Lib.hid ((hb4.block _ (heap_lt GR.out)).trans GR.out)
    replace GZ := Lib.hid ((hb4.block _ (heap_lt GZ.out)).trans GZ.out)
    replace GX := Lib.hid ((hb4.block _ (heap_lt GX.out)).trans GX.out)
    replace GM := Lib.hid ((hb4.block _ (heap_lt GM.out)).trans GM.out)
    replace RM := Lib.hid (RM.out.below' hb4)
    replace HB := Lib.hid (HB.out.trans (hb4.mono HB.out.size))
    clear hb4
    have mj : w4.cell? ⟨gm, j, none⟩ = some (.int .i64 K) := (cell_of_heap GM.out).trans HCJ.out
    have mz := heap_lt GM.out
    obtain ⟨m0, m1, m2, _, _, _, _⟩ := three_at6 GM.out
    obtain ⟨x0, x1, _, _, xz⟩ := two_at GX.out
    go_wp2_with fail
    refine (newParts_q A1 c1 M k0 k1 k2 l HSAME.out _ f1 hm12 HMF.out RM.out).mono ?_
    rintro e w5 ⟨A5, c5, f5, rfl, hr5, hn5, hf5, hd5, hb5⟩
    obtain ⟨y0, y1, z0, z1, yz⟩ := two_at ((hb5.block _ (heap_lt GZ.out)).trans GZ.out)
    have HX := Lib.hid (psres_stored (code := 0) (g := w.heap.size + 1) (HB.out.trans (hb5.mono HB.out.size)) (by omega) hr5 hn5 (hf5.mono (heap_lt GZ.out)) hd5)
    clear hr5 hn5 hf5 hd5 hb5
    go_wp2_with fail
    exact bodyPost_ret (v := psv 0 (.slice A5 l.length c5)) (by simp [results, Tryz.results8, go_sem, y0, y1]) rfl HX.out
  · by_cases h5 : 12 < (setR M r).length
    · rw [if_pos (by rw [HTOT.out]; exact h5), if_pos (by rw [HTOT.out]; exact h5)]
      go_enter Tryz.func8, Tryz.ntmps8
      go_wp2_with fail
      refine HC.out.mono ?_
      rintro e w1 ⟨q, rfl, ⟨v1, f1, rfl, hr1, hn1, hf1⟩, hb1⟩
      obtain ⟨A1, c1, rfl⟩ := hr1.rows_form
      replace GR := Lib.hid ((hb1.block _ (heap_lt GR.out)).trans GR.out)
      replace GZ := Lib.hid ((hb1.block _ (heap_lt GZ.out)).trans GZ.out)
      replace HA := Lib.hid (HA.out.below' hb1)
      replace HB := Lib.hid (HB.out.trans (hb1.mono HB.out.size))
      have RM := Lib.hid (hr1.alloc (.cells #[.int .i64 0, .slice A1 M.length c1] 46))
      have GX := Lib.hid (heap_new w1 (.cells #[.int .i64 0, .slice A1 M.length c1] 46) rfl)
      replace GR := Lib.hid (heap_old (o' := (.cells #[.int .i64 0, .slice A1 M.length c1] 46)) GR.out)
      replace GZ := Lib.hid (heap_old (o' := (.cells #[.int .i64 0, .slice A1 M.length c1] 46)) GZ.out)
      replace HA := Lib.hid (HA.out.alloc (.cells #[.int .i64 0, .slice A1 M.length c1] 46))
      replace HB := Lib.hid (below_more HB.out (.cells #[.int .i64 0, .slice A1 M.length c1] 46))
      have hgx : w.heap.size + 1 < w1.heap.size := by
        have h := heap_lt GZ.out
        have h2 := hb1.size
        simp at h h2
        omega
      clear hb1 hr1 hn1 hf1
      obtain ⟨r0, r1, r2, r3, _, _, _, _, rz⟩ := four_at GR.out
      obtain ⟨x0, x1, _, _, xz⟩ := two_at GX.out
      go_wp2_with fail
      clear r0 r1 r2 r3 rz x0 x1 xz
      generalize hW1 : w1.alloc (.cells #[.int .i64 0, .slice A1 M.length c1] 46) = W1 at GR GZ HA HB RM GX ⊢
      generalize w1.heap.size = g1 at *
      clear hW1
      refine (implRowFault_a r _ HWR.out).mono ?_
      rw [H1.out]
      rintro e w2 ⟨rfl, hb2⟩
      replace GR := Lib.hid ((hb2.block _ (heap_lt GR.out)).trans GR.out)
      replace GZ := Lib.hid ((hb2.block _ (heap_lt GZ.out)).trans GZ.out)
      replace GX := Lib.hid ((hb2.block _ (heap_lt GX.out)).trans GX.out)
      replace HA := Lib.hid (HA.out.below' hb2)
      replace RM := Lib.hid (RM.out.below' hb2)
      replace HB := Lib.hid (HB.out.trans (hb2.mono HB.out.size))
      clear hb2
      go_wp2_with fail
      refine (isMark_b m true H2.out _).mono ?_
      rintro e w' ⟨rfl, hw⟩
      subst hw
      go_wp2_with fail
      refine (HMK.out _ fp HA.out).mono ?_
      rintro e w3 ⟨rfl, hb3⟩
      replace GR := Lib.hid ((hb3.block _ (heap_lt GR.out)).trans GR.out)
      replace GZ := Lib.hid ((hb3.block _ (heap_lt GZ.out)).trans GZ.out)
      replace GX := Lib.hid ((hb3.block _ (heap_lt GX.out)).trans GX.out)
      replace HA := Lib.hid (HA.out.below' hb3)
      replace RM := Lib.hid (RM.out.below' hb3)
      replace HB := Lib.hid (HB.out.trans (hb3.mono HB.out.size))
      have hgm := heap_lt GX.out
      have hgz3 := heap_lt GZ.out
      have GM := Lib.hid (heap_new w3 (.cells #[.int .i64 k0, .int .i64 k1, .int .i64 k2] 59) rfl)
      replace GR := Lib.hid (heap_old (o' := (.cells #[.int .i64 k0, .int .i64 k1, .int .i64 k2] 59)) GR.out)
      replace GZ := Lib.hid (heap_old (o' := (.cells #[.int .i64 k0, .int .i64 k1, .int .i64 k2] 59)) GZ.out)
      replace GX := Lib.hid (heap_old (o' := (.cells #[.int .i64 k0, .int .i64 k1, .int .i64 k2] 59)) GX.out)
      replace RM := Lib.hid (RM.out.alloc (.cells #[.int .i64 k0, .int .i64 k1, .int .i64 k2] 59))
      replace HB := Lib.hid (below_more HB.out (.cells #[.int .i64 k0, .int .i64 k1, .int .i64 k2] 59))
      clear hb3
      obtain ⟨r0, r1, r2, r3, _, _, _, _, rz⟩ := four_at GR.out
      go_wp2_with fail
      clear r0 r1 r2 r3 rz
      generalize hW3 : w3.alloc (.cells #[.int .i64 k0, .int .i64 k1, .int .i64 k2] 59) = W3 at GR GZ GX GM RM HB ⊢
      generalize w3.heap.size = gm at *
      clear hW3
      refine (rowPart_q r (j : Int) HQ.out _ HFR.out).mono ?_
      rintro e w4 ⟨rfl, hb4⟩
      replace GR := Lib.hid ((hb4.block _ (heap_lt GR.out)).trans GR.out)
      replace GZ := Lib.hid ((hb4.block _ (heap_lt GZ.out)).trans GZ.out)
      replace GX := Lib.hid ((hb4.block _ (heap_lt GX.out)).trans GX.out)
      replace GM := Lib.hid ((hb4.block _ (heap_lt GM.out)).trans GM.out)
      replace RM := Lib.hid (RM.out.below' hb4)
      replace HB := Lib.hid (HB.out.trans (hb4.mono HB.out.size))
      clear hb4
      have mj : w4.cell? ⟨gm, j, none⟩ = some (.int .i64 K) := (cell_of_heap GM.out).trans HCJ.out
      have mz := heap_lt GM.out
      obtain ⟨m0, m1, m2, _, _, _, _⟩ := three_at6 GM.out
      obtain ⟨x0, x1, _, _, xz⟩ := two_at GX.out
      obtain ⟨r0, r1, r2, r3, _, _, _, _, rz⟩ := four_at GR.out
      have HPT := Lib.hid (implPutRow_a A1 c1 M r w4 f1 (by omega) HMW.out HWR.out RM.out)
      have hpr := HPR.out
      have hpl := HPL.out
      rw [if_pos h5] at hpr
      rw [hpr, if_neg (by decide)] at hpl
      have HP1 := Lib.hid hpr; have HP2 := Lib.hid hpl
      clear hpr hpl h5
      go_wp2_with fail
      refine HPT.out.mono ?_
      rw [HP1.out, HP2.out]
      rintro e w5 ⟨q, rfl, ⟨v5, f5, rfl, hr5, hn5, hf5⟩, hb5⟩
      obtain ⟨A5, c5, hv5⟩ := Rd.rows_form (rs := []) hr5
      have hv5 : v5 = .slice A5 0 c5 := hv5
      subst hv5
      have GZ5 := Lib.hid (heap_old (o' := .cells #[.int .i64 8, .slice A5 0 c5] 46) ((hb5.block _ (heap_lt GZ.out)).trans GZ.out))
      have HB5 := Lib.hid (below_more (HB.out.trans (hb5.mono HB.out.size)) (.cells #[.int .i64 8, .slice A5 0 c5] 46))
      obtain ⟨y0, y1, z0, z1, yz⟩ := two_at GZ5.out
      clear hb5 hr5 hn5 hf5 r0 r1 r2 r3 rz mj mz m0 m1 m2 x0 x1 xz
      go_wp2_with fail
      exact bodyPost_ret (v := psv 8 (.slice none 0 0)) (by simp [results, Tryz.results8, go_sem, y0, y1]) rfl (psres_none (HB5.out.trans ((But.two _ (w.heap.size + 1) 0 1 _ _).below HB5.out.size (by intro b hb; simp at hb; omega))))
    · rw [if_neg (by rw [HTOT.out]; exact h5), if_neg (by rw [HTOT.out]; exact h5)]
      go_enter Tryz.func8, Tryz.ntmps8
      go_wp2_with fail
      refine HC.out.mono ?_
      rintro e w1 ⟨q, rfl, ⟨v1, f1, rfl, hr1, hn1, hf1⟩, hb1⟩
      obtain ⟨A1, c1, rfl⟩ := hr1.rows_form
      replace GR := Lib.hid ((hb1.block _ (heap_lt GR.out)).trans GR.out)
      replace GZ := Lib.hid ((hb1.block _ (heap_lt GZ.out)).trans GZ.out)
      replace HA := Lib.hid (HA.out.below' hb1)
      replace HB := Lib.hid (HB.out.trans (hb1.mono HB.out.size))
      have RM := Lib.hid (hr1.alloc (.cells #[.int .i64 0, .slice A1 M.length c1] 46))
      have GX := Lib.hid (heap_new w1 (.cells #[.int .i64 0, .slice A1 M.length c1] 46) rfl)
      replace GR := Lib.hid (heap_old (o' := (.cells #[.int .i64 0, .slice A1 M.length c1] 46)) GR.out)
      replace GZ := Lib.hid (heap_old (o' := (.cells #[.int .i64 0, .slice A1 M.length c1] 46)) GZ.out)
      replace HA := Lib.hid (HA.out.alloc (.cells #[.int .i64 0, .slice A1 M.length c1] 46))
      replace HB := Lib.hid (below_more HB.out (.cells #[.int .i64 0, .slice A1 M.length c1] 46))
      have hgx : w.heap.size + 1 < w1.heap.size := by
        have h := heap_lt GZ.out
        have h2 := hb1.size
        simp at h h2
        omega
      clear hb1 hr1 hn1 hf1
      obtain ⟨r0, r1, r2, r3, _, _, _, _, rz⟩ := four_at GR.out
      obtain ⟨x0, x1, _, _, xz⟩ := two_at GX.out
      go_wp2_with fail
      clear r0 r1 r2 r3 rz x0 x1 xz
      generalize hW1 : w1.alloc (.cells #[.int .i64 0, .slice A1 M.length c1] 46) = W1 at GR GZ HA HB RM GX ⊢
      generalize w1.heap.size = g1 at *
      clear hW1
      refine (implRowFault_a r _ HWR.out).mono ?_
      rw [H1.out]
      rintro e w2 ⟨rfl, hb2⟩
      replace GR := Lib.hid ((hb2.block _ (heap_lt GR.out)).trans GR.out)
      replace GZ := Lib.hid ((hb2.block _ (heap_lt GZ.out)).trans GZ.out)
      replace GX := Lib.hid ((hb2.block _ (heap_lt GX.out)).trans GX.out)
      replace HA := Lib.hid (HA.out.below' hb2)
      replace RM := Lib.hid (RM.out.below' hb2)
      replace HB := Lib.hid (HB.out.trans (hb2.mono HB.out.size))
      clear hb2
      go_wp2_with fail
      refine (isMark_b m true H2.out _).mono ?_
      rintro e w' ⟨rfl, hw⟩
      subst hw
      go_wp2_with fail
      refine (HMK.out _ fp HA.out).mono ?_
      rintro e w3 ⟨rfl, hb3⟩
      replace GR := Lib.hid ((hb3.block _ (heap_lt GR.out)).trans GR.out)
      replace GZ := Lib.hid ((hb3.block _ (heap_lt GZ.out)).trans GZ.out)
      replace GX := Lib.hid ((hb3.block _ (heap_lt GX.out)).trans GX.out)
      replace HA := Lib.hid (HA.out.below' hb3)
      replace RM := Lib.hid (RM.out.below' hb3)
      replace HB := Lib.hid (HB.out.trans (hb3.mono HB.out.size))
      have hgm := heap_lt GX.out
      have hgz3 := heap_lt GZ.out
      have GM := Lib.hid (heap_new w3 (.cells #[.int .i64 k0, .int .i64 k1, .int .i64 k2] 59) rfl)
      replace GR := Lib.hid (heap_old (o' := (.cells #[.int .i64 k0, .int .i64 k1, .int .i64 k2] 59)) GR.out)
      replace GZ := Lib.hid (heap_old (o' := (.cells #[.int .i64 k0, .int .i64 k1, .int .i64 k2] 59)) GZ.out)
      replace GX := Lib.hid (heap_old (o' := (.cells #[.int .i64 k0, .int .i64 k1, .int .i64 k2] 59)) GX.out)
      replace RM := Lib.hid (RM.out.alloc (.cells #[.int .i64 k0, .int .i64 k1, .int .i64 k2] 59))
      replace HB := Lib.hid (below_more HB.out (.cells #[.int .i64 k0, .int .i64 k1, .int .i64 k2] 59))
      clear hb3
      obtain ⟨r0, r1, r2, r3, _, _, _, _, rz⟩ := four_at GR.out
      go_wp2_with fail
      clear r0 r1 r2 r3 rz
      generalize hW3 : w3.alloc (.cells #[.int .i64 k0, .int .i64 k1, .int .i64 k2] 59) = W3 at GR GZ GX GM RM HB ⊢
      generalize w3.heap.size = gm at *
      clear hW3
      refine (rowPart_q r (j : Int) HQ.out _ HFR.out).mono ?_
      rintro e w4 ⟨rfl, hb4⟩
      replace GR := Lib.hid ((hb4.block _ (heap_lt GR.out)).trans GR.out)
      replace GZ := Lib.hid ((hb4.block _ (heap_lt GZ.out)).trans GZ.out)
      replace GX := Lib.hid ((hb4.block _ (heap_lt GX.out)).trans GX.out)
      replace GM := Lib.hid ((hb4.block _ (heap_lt GM.out)).trans GM.out)
      replace RM := Lib.hid (RM.out.below' hb4)
      replace HB := Lib.hid (HB.out.trans (hb4.mono HB.out.size))
      clear hb4
      have mj : w4.cell? ⟨gm, j, none⟩ = some (.int .i64 K) := (cell_of_heap GM.out).trans HCJ.out
      have mz := heap_lt GM.out
      obtain ⟨m0, m1, m2, _, _, _, _⟩ := three_at6 GM.out
      obtain ⟨x0, x1, _, _, xz⟩ := two_at GX.out
      obtain ⟨r0, r1, r2, r3, _, _, _, _, rz⟩ := four_at GR.out
      have HPT := Lib.hid (implPutRow_a A1 c1 M r w4 f1 (by omega) HMW.out HWR.out RM.out)
      have hpr := HPR.out
      have hpl := HPL.out
      rw [if_neg h5] at hpr
      rw [hpr, if_pos rfl] at hpl
      have HP1 := Lib.hid hpr; have HP2 := Lib.hid hpl; have H5 := Lib.hid h5
      clear hpr hpl h5
      go_wp2_with fail
      refine HPT.out.mono ?_
      rw [HP1.out, HP2.out]
      rintro e w5 ⟨q, rfl, ⟨v5, f5, rfl, hr5, hn5, hf5⟩, hb5⟩
      obtain ⟨A5, c5, rfl⟩ := hr5.rows_form
      have hgm5 := Nat.lt_of_lt_of_le (heap_lt GM.out) hb5.size
      have GX5 := Lib.hid (heap_new w5 (.cells #[.int .i64 0, .slice A5 (setR M r).length c5] 46) rfl)
      have GM5 := Lib.hid (heap_old (o' := (.cells #[.int .i64 0, .slice A5 (setR M r).length c5] 46)) ((hb5.block _ (heap_lt GM.out)).trans GM.out))
      have GZ5 := Lib.hid (heap_old (o' := (.cells #[.int .i64 0, .slice A5 (setR M r).length c5] 46)) ((hb5.block _ (heap_lt GZ.out)).trans GZ.out))
      have HB5 := Lib.hid (below_more (HB.out.trans (hb5.mono HB.out.size)) (.cells #[.int .i64 0, .slice A5 (setR M r).length c5] 46))
      have RM5 := Lib.hid (hr5.alloc (.cells #[.int .i64 0, .slice A5 (setR M r).length c5] 46))
      have HF5 : Hid (∀ x ∈ f5, x ≠ gm) := fun x hx e => by have := hf5 x hx; have := heap_lt GM.out; omega
      have mj5 : (w5.alloc (.cells #[.int .i64 0, .slice A5 (setR M r).length c5] 46)).cell? ⟨gm, j, none⟩ = some (.int .i64 K) := (cell_of_heap GM5.out).trans HCJ.out
      have mf5 : (w5.alloc (.cells #[.int .i64 0, .slice A5 (setR M r).length c5] 46)).frozen? ⟨gm, j, none⟩ = false := frozen_of_heap GM5.out
      have mz5 := heap_lt GM5.out
      obtain ⟨s0, s1, _, _, sz⟩ := two_at GX5.out
      have HMW5 := Lib.hid ((hb5.block _ (heap_lt GM.out)).trans GM.out)
      have HZW5 := Lib.hid ((hb5.block _ (heap_lt GZ.out)).trans GZ.out)
      have HBW5 := Lib.hid (HB.out.trans (hb5.mono HB.out.size))
      have HRW5 := Lib.hid hr5
      have hgzm : w.heap.size + 1 < gm := by omega
      clear hb5 hr5 hn5 hf5 r0 r1 r2 r3 rz mj mz m0 m1 m2 x0 x1 xz
      go_upto_region 17 with (fail)
      have HM6 : Hid (((w5.setCell ⟨gm, j, none⟩ (.int .i64 m)).alloc (.cells #[.int .i64 0, .slice A5 (setR M r).length c5] 46)).heap[gm]? = some (.cells ((#[.int .i64 k0, .int .i64 k1, .int .i64 k2] : Array Value).setIfInBounds j (.int .i64 m)) 59 (0, 0))) := heap_old (heap_set1 (i := j) (v := .int .i64 m) HMW5.out)
      have HT6 : Hid (But [gm] w5 ((w5.setCell ⟨gm, j, none⟩ (.int .i64 m)).alloc (.cells #[.int .i64 0, .slice A5 (setR M r).length c5] 46))) := ((But.refl _ _).setCell (by simp) _).alloc _
      have HX6 : Hid (((w5.setCell ⟨gm, j, none⟩ (.int .i64 m)).alloc (.cells #[.int .i64 0, .slice A5 (setR M r).length c5] 46)).heap[w5.heap.size]? = some (.cells #[.int .i64 0, .slice A5 (setR M r).length c5] 46 (0, 0))) := heap_new _ _ (by simp [World.setCell])
      generalize hW6 : ((w5.setCell ⟨gm, j, none⟩ (.int .i64 m)).alloc (.cells #[.int .i64 0, .slice A5 (setR M r).length c5] 46)) = W6 at HM6 HT6 HX6 ⊢
      clear hW6 mj5 mf5 mz5 s0 s1 sz
      have hm6 := HM6.out
      rw [HSET.out] at hm6
      obtain ⟨m0, m1, m2, _, _, _, mz⟩ := three_at6 hm6
      obtain ⟨s0, s1, _, _, sz⟩ := two_at HX6.out
      have HZ6 := Lib.hid (HT6.out.heap HZW5.out (by simp; omega))
      have RM6 := Lib.hid (HRW5.out.but HT6.out (fun x hx he => HF5.out x hx (by simpa using he)))
      have HB6 := Lib.hid (HBW5.out.trans (HT6.out.below HBW5.out.size (by intro b hb; simp at hb; omega)))
      have hfs : Fits (setR M r) := fun k hk => fit_of_rowF (((setR_rising (rowsF_rising HMZ.out).1 H1.out).above _ (List.getElem_mem hk)).1)
      have HFS := Lib.hid hfs
      clear hm6 hfs
      go_wp2_with fail
      refine (newParts_q A5 c5 (setR M r) a0 a1 a2 L HPUT.out _ f5 (by have := H5.out; omega) HFS.out RM6.out).mono ?_
      rintro e w7 ⟨A7, c7, f7, rfl, hr7, hn7, hf7, hd7, hb7⟩
      obtain ⟨y0, y1, z0, z1, yz⟩ := two_at ((hb7.block _ (heap_lt HZ6.out)).trans HZ6.out)
      have HX := Lib.hid (psres_stored (code := 0) (g := w.heap.size + 1) (HB6.out.trans (hb7.mono HB6.out.size)) (by omega) hr7 hn7 (hf7.mono (heap_lt HZ6.out)) hd7)
      clear hr7 hn7 hf7 hd7 hb7
      go_wp2_with fail
      exact bodyPost_ret (v := psv 0 (.slice A7 L.length c7)) (by simp [results, Tryz.results8, go_sem, y0, y1]) rfl HX.out
end Go.Proofs.YtoabohllphoioaaGreat
