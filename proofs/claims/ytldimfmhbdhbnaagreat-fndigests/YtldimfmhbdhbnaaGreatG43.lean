/-
  Chapter 7, plain facts: rows laid into parts, all rows of parts, a row written into parts.
-/
import Derived.Test.YtldimfmhbdhbnaaGreatModel7
import Derived.Test.YtldimfmhbdhbnaaGreatG48
import Derived.Test.YtldimfmhbdhbnaaGreatG18
import Derived.Test.YtldimfmhbdhbnaaGreatG27
namespace Go.Proofs.YtldimfmhbdhbnaaGreat

/-- All rows of parts, part by part. -/
def allR (l : List Pt) : List R := l.flatMap Pt.rows
/-- Rows merged one by one. -/
def mergeAll (L : List R) : List R := L.foldl (fun o r => mergeGo r false o) []
def roC (l : List Pt) : Int := partsF l
def roL (l : List Pt) : List R := if partsF l = 0 then mergeAll (allR l) else []
/-- The rows of each part. -/
def pcsOf (rs : List R) : List (List R) := (List.range 3).map fun (i : Nat) => rs.filter (fitB i)
def partsOf (rs : List R) (m : Int) : List Pt := (List.range 3).map fun (i : Nat) => ⟨rs.filter (fitB i), m⟩
def ppL (rs : List R) (m : Int) : List Pt := if poC rs m = 0 then partsOf rs m else []
/-- The least mark. -/
def leastI : List Int → Int
  | [] => 0
  | z :: t => t.foldl (fun n q => if n < q then n else q) z
def leastP (l : List Pt) : Int := leastI (l.map Pt.mark)
theorem leastI_take (zs : List Int) (k : Nat) (h1 : 1 ≤ k) (h : k < zs.length) : leastI (zs.take (k + 1)) = if leastI (zs.take k) < zs[k] then leastI (zs.take k) else zs[k] := by
  obtain ⟨j, rfl⟩ : ∃ j, k = j + 1 := ⟨k - 1, by omega⟩
  match zs, h with
  | z :: t, h =>
    have hj : j < t.length := by simpa using h
    rw [List.take_succ_cons, List.take_succ_cons, List.take_succ_eq_append_getElem hj]
    simp only [leastI, List.foldl_append, List.foldl_cons, List.foldl_nil, List.getElem_cons_succ]
    rfl
theorem leastI_one (z : Int) (t : List Int) : leastI ((z :: t).take 1) = z := rfl
def lmV (l : List Pt) : Int := if partsF l = 0 then leastP l else 0
def lmP (l : List Pt) : Int × Int := (partsF l, lmV l)
/-- A row written into its part. -/
def wqP (l : List Pt) (r : R) (m : Int) : List Pt :=
  if m ≤ (l.getD (rpart r).toNat default).mark then l else l.set (rpart r).toNat ⟨setR (l.getD (rpart r).toNat default).rows r, m⟩
def wqC (l : List Pt) (r : R) (m : Int) : Int := if partsF l = 0 then (if rowF r = 0 then (if inB m 0 999 then (if 12 < totP (wqP l r m) then 8 else 0) else 3) else rowF r) else partsF l
def wqL (l : List Pt) (r : R) (m : Int) : List Pt := if wqC l r m = 0 then wqP l r m else []
theorem wqC_a {l : List Pt} {r : R} {m : Int} (h : partsF l ≠ 0) : wqC l r m = partsF l := by unfold wqC; rw [if_neg h]
theorem wqC_b {l : List Pt} {r : R} {m : Int} (h : partsF l = 0) (h1 : rowF r ≠ 0) : wqC l r m = rowF r := by unfold wqC; rw [if_pos h, if_neg h1]
theorem wqC_c {l : List Pt} {r : R} {m : Int} (h : partsF l = 0) (h1 : rowF r = 0) (h2 : inB m 0 999 = false) : wqC l r m = 3 := by unfold wqC; rw [if_pos h, if_pos h1, h2]; rfl
theorem wqC_d {l : List Pt} {r : R} {m : Int} (h : partsF l = 0) (h1 : rowF r = 0) (h2 : inB m 0 999 = true) : wqC l r m = if 12 < totP (wqP l r m) then 8 else 0 := by unfold wqC; rw [if_pos h, if_pos h1, h2]; rfl
theorem wqL_no {l : List Pt} {r : R} {m : Int} (h : wqC l r m ≠ 0) : wqL l r m = [] := by unfold wqL; rw [if_neg h]

theorem partsOf_len (rs : List R) (m : Int) : (partsOf rs m).length = 3 := by simp [partsOf]
theorem partsOf_get (rs : List R) (m : Int) (i : Nat) (h : i < (partsOf rs m).length) : (partsOf rs m)[i] = ⟨rs.filter (fitB i), m⟩ := by simp [partsOf]
theorem three_tot (a b c : Pt) : totP [a, b, c] = a.rows.length + (b.rows.length + (c.rows.length + 0)) := rfl
/-- Each row lies in one part. -/
theorem split3 (L : List R) : L.length = (L.filter fun r => decide (rpart r = ((0 : Nat) : Int))).length + ((L.filter fun r => decide (rpart r = ((1 : Nat) : Int))).length + ((L.filter fun r => decide (rpart r = ((2 : Nat) : Int))).length + 0)) := by
  induction L with
  | nil => rfl
  | cons x t ih =>
    have hb := rpart_bd x
    have h : rpart x = 0 ∨ rpart x = 1 ∨ rpart x = 2 := by omega
    rcases h with h | h | h <;> simp [h, List.filter_cons] <;> simp at ih <;> omega
theorem filter_le7 (p : R → Bool) (rs : List R) : (rs.filter p).length ≤ rs.length := List.length_filter_le _ _
theorem partsOf_sz (rs : List R) (m : Int) (h : rs.length ≤ 12) : psz (partsOf rs m) ≤ 1048576 := by
  have h0 := filter_le7 (fitB (0 : Nat)) rs; have h1 := filter_le7 (fitB (1 : Nat)) rs; have h2 := filter_le7 (fitB (2 : Nat)) rs
  have e : totP (partsOf rs m) = (rs.filter (fitB (0 : Nat))).length + ((rs.filter (fitB (1 : Nat))).length + ((rs.filter (fitB (2 : Nat))).length + 0)) := rfl
  unfold psz; rw [partsOf_len, e]; omega
theorem poC_zero {rs : List R} {m : Int} (h : poC rs m = 0) : rowsF rs = 0 ∧ inB m 0 999 = true := by
  unfold poC at h
  split at h
  · rename_i h0
    refine ⟨h0, ?_⟩
    cases h1 : inB m 0 999
    · rw [h1] at h; cases h
    · rfl
  · rename_i h0; exact absurd h h0
theorem ppL_sz (rs : List R) (m : Int) : psz (ppL rs m) ≤ 1048576 := by
  unfold ppL
  split
  · rename_i h
    exact partsOf_sz rs m (rowsF_fits (poC_zero h).1).2
  · unfold psz totP cntL; simp

theorem rpart_key {x y : R} (hx : Fit x) (hy : Fit y) (h : keyR x = keyR y) : rpart x = rpart y := by
  obtain ⟨h1, h2⟩ := (key_inj hx hy).1 h
  unfold rpart; rw [h1, h2]
theorem fitB_true {at_ : Int} {r : R} : fitB at_ r = true ↔ rpart r = at_ ∧ emptyB r = false := by
  unfold fitB; simp

/-- Right rows with keys that differ, merged, rise; they are the same rows. -/
theorem mergeAll_fold : ∀ (L o : List R), (∀ x ∈ L, rowF x = 0) → L.Pairwise (fun a b => keyR a ≠ keyR b) → Rising none o → (∀ x ∈ o, ∀ y ∈ L, keyR x ≠ keyR y) →
    Rising none (L.foldl (fun o r => mergeGo r false o) o) ∧ (∀ x, x ∈ L.foldl (fun o r => mergeGo r false o) o ↔ x ∈ o ∨ x ∈ L) ∧ (L.foldl (fun o r => mergeGo r false o) o).length = o.length + L.length := by
  intro L
  induction L with
  | nil => intro o _ _ ho _; exact ⟨ho, by simp, by simp⟩
  | cons r t ih =>
    intro o h0 hp ho hne
    rw [List.pairwise_cons] at hp
    have hr := h0 r (by simp)
    have hm := merge_rising hr o none false ho (fun x hx => hne x hx r (by simp)) (by simp)
    obtain ⟨a1, a2, a3⟩ := ih (mergeGo r false o) (fun x hx => h0 x (by simp [hx])) hp.2 hm (fun x hx y hy => by
      rcases merge_mem_iff.1 hx with rfl | hx
      · exact hp.1 y hy
      · exact hne x hx y (by simp [hy]))
    refine ⟨a1, fun x => ?_, ?_⟩
    · rw [List.foldl_cons, a2 x, merge_mem_iff, List.mem_cons]
      constructor
      · rintro ((h | h) | h)
        · exact .inr (.inl h)
        · exact .inl h
        · exact .inr (.inr h)
      · rintro (h | h | h)
        · exact .inl (.inr h)
        · exact .inl (.inl h)
        · exact .inr h
    · rw [List.foldl_cons, a3, (merge_length r o).1, List.length_cons]; omega
theorem mergeAll_right {L : List R} (h0 : ∀ x ∈ L, rowF x = 0) (hp : L.Pairwise (fun a b => keyR a ≠ keyR b)) : Rising none (mergeAll L) ∧ (∀ x, x ∈ mergeAll L ↔ x ∈ L) ∧ (mergeAll L).length = L.length := by
  obtain ⟨a1, a2, a3⟩ := mergeAll_fold L [] h0 hp trivial (by simp)
  exact ⟨a1, fun x => by rw [mergeAll, a2 x]; simp, by rw [mergeAll, a3]; simp⟩
theorem mergeAll_snoc (L : List R) (r : R) : mergeAll (L ++ [r]) = mergeGo r false (mergeAll L) := by simp [mergeAll]
theorem allR_tot (l : List Pt) : (allR l).length = totP l := by
  unfold allR totP
  induction l with
  | nil => rfl
  | cons a t ih => rw [List.flatMap_cons, List.length_append, ih, cntL_cons]
/-- The rows of right parts: right, and no two with one key. -/
theorem parts_rows {l : List Pt} (h : partsF l = 0) : (∀ x ∈ allR l, rowF x = 0) ∧ (allR l).Pairwise (fun a b => keyR a ≠ keyR b) ∧ (allR l).length ≤ 12 := by
  obtain ⟨h3, hz, ht⟩ := partsF_zero h
  have hx0 : ∀ k (hk : k < l.length), ∀ x ∈ l[k].rows, rowF x = 0 := fun k hk x hx => ((rowsF_rising (hz k hk).2.2.1).1.above x hx).1
  refine ⟨fun x hx => ?_, ?_, by rw [allR_tot]; exact ht⟩
  · unfold allR at hx
    rw [List.mem_flatMap] at hx
    obtain ⟨p, hp, hx⟩ := hx
    obtain ⟨k, hk, rfl⟩ := List.mem_iff_getElem.1 hp
    exact hx0 k hk x hx
  · unfold allR
    rw [List.flatMap_def, List.pairwise_flatten]
    refine ⟨fun rs hrs => ?_, ?_⟩
    · obtain ⟨p, hp, rfl⟩ := List.mem_map.1 hrs
      obtain ⟨k, hk, rfl⟩ := List.mem_iff_getElem.1 hp
      exact (rising_pairwise (rowsF_rising (hz k hk).2.2.1).1).imp fun h => by omega
    · rw [List.pairwise_map, List.pairwise_iff_getElem]
      intro i j hi hj hij x hx y hy e
      have hxi := fitB_true.1 (List.all_eq_true.1 (hz i hi).2.2.2 x hx)
      have hyj := fitB_true.1 (List.all_eq_true.1 (hz j hj).2.2.2 y hy)
      have := rpart_key (fit_of_rowF (hx0 i hi x hx)) (fit_of_rowF (hx0 j hj y hy)) e
      omega
theorem roL_facts {l : List Pt} (h : partsF l = 0) : Rising none (mergeAll (allR l)) ∧ (∀ x, x ∈ mergeAll (allR l) ↔ x ∈ allR l) ∧ (mergeAll (allR l)).length ≤ 12 ∧ rowsF (mergeAll (allR l)) = 0 := by
  obtain ⟨h0, hp, hl⟩ := parts_rows h
  obtain ⟨a1, a2, a3⟩ := mergeAll_right h0 hp
  exact ⟨a1, a2, by omega, rising_rowsF a1 (by omega)⟩
theorem roL_len (l : List Pt) : (roL l).length ≤ 12 := by
  unfold roL
  split
  · rename_i h; exact (roL_facts h).2.2.1
  · simp
theorem mem_allR {l : List Pt} {x : R} : x ∈ allR l ↔ ∃ k, ∃ h : k < l.length, x ∈ l[k].rows := by
  unfold allR
  rw [List.mem_flatMap]
  constructor
  · rintro ⟨p, hp, hx⟩
    obtain ⟨k, hk, rfl⟩ := List.mem_iff_getElem.1 hp
    exact ⟨k, hk, hx⟩
  · rintro ⟨k, hk, hx⟩
    exact ⟨l[k], List.getElem_mem hk, hx⟩
theorem rising_filter {p : R → Bool} : ∀ {rs : List R} {q : Option Int}, Rising q rs → Rising q (rs.filter p) := by
  intro rs
  induction rs with
  | nil => intro q _; trivial
  | cons x t ih =>
    intro q h
    rw [List.filter_cons]
    split
    · exact ⟨h.1, h.2.1, ih h.2.2⟩
    · exact (ih h.2.2).weaken fun k hk => ⟨_, rfl, by have := h.2.1 k hk; omega⟩
/-- The rows of part j among all rows. -/
theorem all_part {l : List Pt} (h : partsF l = 0) {j : Nat} (hj : j < l.length) : (mergeAll (allR l)).filter (fun r => decide (rpart r = (j : Int))) = l[j].rows := by
  obtain ⟨a1, a2, _, _⟩ := roL_facts h
  obtain ⟨h3, hz, ht⟩ := partsF_zero h
  refine rising_ext (rising_filter a1) (rowsF_rising (hz j hj).2.2.1).1 fun x => ?_
  rw [List.mem_filter, a2 x, mem_allR]
  constructor
  · rintro ⟨⟨k, hk, hx⟩, e⟩
    have := fitB_true.1 (List.all_eq_true.1 (hz k hk).2.2.2 x hx)
    have e' : rpart x = j := by simpa using e
    obtain rfl : k = j := by omega
    exact hx
  · intro hx
    have := fitB_true.1 (List.all_eq_true.1 (hz j hj).2.2.2 x hx)
    exact ⟨⟨j, hj, hx⟩, by simpa using this.1⟩
theorem mem_setR {rs : List R} {r x : R} : x ∈ setR rs r ↔ (x ∈ rs ∧ keyR x ≠ keyR r) ∨ (x = r ∧ emptyB r = false) := by
  unfold setR
  cases h : emptyB r
  · rw [(setGo_perm r rs).mem_iff]; simp
  · rw [setGo_true]; simp
theorem setR_rising {rs : List R} {r : R} (h : Rising none rs) (hr : rowF r = 0) : Rising none (setR rs r) := setGo_rising hr rs none (emptyB r) h (by simp)
/-- A row put among all rows: part j. -/
theorem put_part {l : List Pt} {r : R} (h : partsF l = 0) (hr : rowF r = 0) {j : Nat} (hj : j < l.length) :
    (setR (mergeAll (allR l)) r).filter (fun x => decide (rpart x = (j : Int))) = if rpart r = (j : Int) then setR l[j].rows r else l[j].rows := by
  obtain ⟨a1, a2, _, _⟩ := roL_facts h
  obtain ⟨h0, _, _⟩ := parts_rows h
  obtain ⟨h3, hz, ht⟩ := partsF_zero h
  have hrj := (rowsF_rising (hz j hj).2.2.1).1
  have hpart := all_part h hj
  have hmem : ∀ x, x ∈ l[j].rows ↔ x ∈ mergeAll (allR l) ∧ rpart x = (j : Int) := fun x => by rw [← hpart, List.mem_filter]; simp
  have hkey : ∀ x ∈ mergeAll (allR l), keyR x = keyR r → rpart x = rpart r := fun x hx e => rpart_key (fit_of_rowF (h0 x ((a2 x).1 hx))) (fit_of_rowF hr) e
  by_cases hc : rpart r = (j : Int)
  · rw [if_pos hc]
    refine rising_ext (rising_filter (setR_rising a1 hr)) (setR_rising hrj hr) fun x => ?_
    rw [List.mem_filter, mem_setR, mem_setR, hmem x]
    constructor
    · rintro ⟨⟨q1, q2⟩ | ⟨rfl, q2⟩, e⟩
      · exact .inl ⟨⟨q1, by simpa using e⟩, q2⟩
      · exact .inr ⟨rfl, q2⟩
    · rintro (⟨⟨q1, q3⟩, q2⟩ | ⟨rfl, q2⟩)
      · exact ⟨.inl ⟨q1, q2⟩, by simpa using q3⟩
      · exact ⟨.inr ⟨rfl, q2⟩, by simpa using hc⟩
  · rw [if_neg hc]
    refine rising_ext (rising_filter (setR_rising a1 hr)) hrj fun x => ?_
    rw [List.mem_filter, mem_setR, hmem x]
    constructor
    · rintro ⟨⟨q1, q2⟩ | ⟨rfl, q2⟩, e⟩
      · exact ⟨q1, by simpa using e⟩
      · exact absurd (by simpa using e) hc
    · rintro ⟨q1, q2⟩
      exact ⟨.inl ⟨q1, fun e => hc (by rw [← hkey x q1 e]; exact q2)⟩, by simpa using q2⟩
theorem rpart_nat {l : List Pt} (h : l.length = 3) (r : R) : (rpart r).toNat < l.length ∧ ((rpart r).toNat : Int) = rpart r := by
  have := rpart_bd r; omega
theorem getD_at (l : List Pt) (j : Nat) (hj : j < l.length) : l.getD j default = l[j] := by rw [List.getD_eq_getElem?_getD, List.getElem?_eq_getElem hj]; rfl
/-- The parts behind the write, where the mark is new. -/
theorem wqP_new {l : List Pt} {r : R} {m : Int} (h : partsF l = 0) (j : Nat) (hj : j < l.length) (he : rpart r = (j : Int)) (hm : ¬ m ≤ l[j].mark) : wqP l r m = l.set j ⟨setR l[j].rows r, m⟩ := by
  have e : (rpart r).toNat = j := by omega
  unfold wqP
  rw [e, getD_at l j hj, if_neg hm]
theorem wqP_old {l : List Pt} {r : R} {m : Int} (j : Nat) (hj : j < l.length) (he : rpart r = (j : Int)) (hm : m ≤ l[j].mark) : wqP l r m = l := by
  have e : (rpart r).toNat = j := by omega
  unfold wqP
  rw [e, getD_at l j hj, if_pos hm]
theorem eq_three {l : List Pt} (h : l.length = 3) : ∃ a b c, l = [a, b, c] := by
  match l, h with
  | [a, b, c], _ => exact ⟨a, b, c, rfl⟩
/-- As many rows in all as the put makes. -/
theorem put_tot {l : List Pt} {r : R} {m : Int} (h : partsF l = 0) (hr : rowF r = 0) (j : Nat) (hj : j < l.length) (he : rpart r = (j : Int)) : totP (l.set j ⟨setR l[j].rows r, m⟩) = (setR (mergeAll (allR l)) r).length := by
  have h3 := (partsF_zero h).1
  have p0 := put_part h hr (j := 0) (by omega)
  have p1 := put_part h hr (j := 1) (by omega)
  have p2 := put_part h hr (j := 2) (by omega)
  rw [split3, p0, p1, p2]
  obtain ⟨a, b, c, rfl⟩ := eq_three h3
  simp only [List.length_cons, List.length_nil] at hj
  have hjj : j = 0 ∨ j = 1 ∨ j = 2 := by omega
  rcases hjj with rfl | rfl | rfl <;> simp only [List.set_cons_zero, List.set_cons_succ, three_tot, he, List.getElem_cons_zero, List.getElem_cons_succ] <;> simp
theorem setR_len12 {l : List R} {r : R} (h : l.length ≤ 12) : (setR l r).length ≤ 25 := by
  have := setGo_len r (emptyB r) l
  unfold setR; omega
theorem wqP_sz {l : List Pt} {r : R} {m : Int} (h : partsF l = 0) (hr : rowF r = 0) : (wqP l r m).length = 3 ∧ totP (wqP l r m) ≤ 25 := by
  obtain ⟨h3, hz, ht⟩ := partsF_zero h
  obtain ⟨k1, k2⟩ := rpart_nat h3 r
  by_cases hm : m ≤ l[(rpart r).toNat].mark
  · rw [wqP_old _ k1 k2.symm hm]; exact ⟨h3, by omega⟩
  · rw [wqP_new h _ k1 k2.symm hm, List.length_set, put_tot h hr _ k1 k2.symm]
    exact ⟨h3, setR_len12 (roL_facts h).2.2.1⟩
theorem wqL_sz (l : List Pt) (r : R) (m : Int) : psz (wqL l r m) ≤ 1048576 := by
  unfold wqL
  split
  · rename_i h
    have h0 : partsF l = 0 := by
      by_cases h0 : partsF l = 0
      · exact h0
      · rw [wqC_a h0] at h; exact absurd h h0
    have h1 : rowF r = 0 := by
      by_cases h1 : rowF r = 0
      · exact h1
      · rw [wqC_b h0 h1] at h; exact absurd h h1
    have := wqP_sz (m := m) h0 h1
    unfold psz; omega
  · unfold psz totP cntL; simp
end Go.Proofs.YtldimfmhbdhbnaaGreat

/-
  The checksum, and the part of a row: the model's functions and the program's.
-/
namespace Go.Proofs.YtldimfmhbdhbnaaGreat
open Go.RowKit

set_option maxRecDepth 100000 in
set_option maxHeartbeats 1000000 in
theorem l1Sum_c (A : Option Addr) (c : Nat) (zs : List Int) (w : World) (fp : List Nat) (hz : Byt zs) (ha : Rd w 1 (.slice A zs.length c) (cellsOf .u8 zs) fp) :
    Calls Tryz.prog 93 #[.slice A zs.length c] w fun e w' => e = .returned (.int .i64 (sumL zs)) ∧ w = w' := by
  have hmax := ha.len_le
  have HZ := Lib.hid hz; have HA := Lib.hid ha
  clear hz ha
  go_enter Tryz.func93, Tryz.ntmps93
  go_wp2
  go_loop [3, 4] (fun s i => ∃ k : Nat, k ≤ zs.length ∧ i = .int .i64 k ∧ ∃ n : Int, s = .int .i64 n ∧ Hid (n = sumL (zs.take k)) ∧ 0 ≤ n ∧ n ≤ 65520) (fun _ i => zs.length - (intOf i).toNat)
  case atStart => exact ⟨0, Nat.zero_le _, rfl, 19, rfl, Lib.hid rfl, by omega, by omega⟩
  case round =>
    obtain ⟨k, hk, rfl, n, rfl, hn, n0, n1⟩ := hrel
    by_cases hlt : k < zs.length
    · obtain ⟨b, off, rfl, _, hbl, hc⟩ := HA.out.ints_at hlt
      obtain ⟨z0, z1⟩ := HZ.out.at_ hlt
      have ht := sumL_take zs k hlt
      rw [← hn.out] at ht
      have hbd := sumStep_bd n zs[k]
      generalize zs[k] = z at *
      have HT := Lib.hid ht; clear ht
      go_wp2
      exact ⟨⟨k + 1, by omega, by go_num, sumStep n z, rfl, Lib.hid HT.out.symm, hbd.1, hbd.2⟩, by simp [intOf]; omega⟩
    · obtain rfl : k = zs.length := by omega
      have h := hn.out
      rw [List.take_length] at h
      have H := Lib.hid h; clear h
      go_wp2
      go_ret
      exact ⟨by rw [H.out]; rfl, rfl⟩

theorem nextSum_c (n z : Int) (w : World) (h0 : 0 ≤ n) (h1 : n ≤ 65520) (z0 : 0 ≤ z) (z1 : z ≤ 255) :
    Calls Tryz.prog 113 #[.int .i64 n, .int .u8 z] w fun e w' => e = .returned (.int .i64 (sumStep n z)) ∧ w = w' := by
  go_enter Tryz.func113, Tryz.ntmps113
  go_wp2
  go_ret
  exact ⟨by unfold sumStep; rw [show n * 241 + z + 1 = 241 * n + z + 1 by omega]; rfl, rfl⟩

set_option maxRecDepth 100000 in
set_option maxHeartbeats 1000000 in
theorem sumBytes_c (A : Option Addr) (c : Nat) (zs : List Int) (w : World) (fp : List Nat) (hz : Byt zs) (ha : Rd w 1 (.slice A zs.length c) (cellsOf .u8 zs) fp) :
    Calls Tryz.prog 88 #[.slice A zs.length c] w fun e w' => e = .returned (.int .i64 (sumL zs)) ∧ w = w' := by
  have hmax := ha.len_le
  have HZ := Lib.hid hz; have HA := Lib.hid ha
  clear hz ha
  go_enter Tryz.func88, Tryz.ntmps88
  go_wp2
  go_loop [3, 8] (fun s i => ∃ k : Nat, k ≤ zs.length ∧ i = .int .i64 k ∧ ∃ n : Int, s = .int .i64 n ∧ Hid (n = sumL (zs.take k)) ∧ 0 ≤ n ∧ n ≤ 65520) (fun _ i => zs.length - (intOf i).toNat)
  case atStart => exact ⟨0, Nat.zero_le _, rfl, 19, rfl, Lib.hid rfl, by omega, by omega⟩
  case round =>
    obtain ⟨k, hk, rfl, n, rfl, hn, n0, n1⟩ := hrel
    by_cases hlt : k < zs.length
    · obtain ⟨b, off, rfl, _, hbl, hc⟩ := HA.out.ints_at hlt
      obtain ⟨z0, z1⟩ := HZ.out.at_ hlt
      have ht := sumL_take zs k hlt
      rw [← hn.out] at ht
      have hbd := sumStep_bd n zs[k]
      generalize zs[k] = z at *
      have HT := Lib.hid ht; clear ht
      go_wp2_with fail
      refine (nextSum_c n z _ n0 n1 z0 z1).mono ?_
      rintro e w1 ⟨rfl, hw⟩
      subst hw
      go_wp2_with fail
      exact ⟨⟨k + 1, by omega, by go_num, sumStep n z, rfl, Lib.hid HT.out.symm, hbd.1, hbd.2⟩, by simp [intOf]; omega⟩
    · obtain rfl : k = zs.length := by omega
      have h := hn.out
      rw [List.take_length] at h
      have H := Lib.hid h; clear h
      go_wp2
      go_ret
      exact ⟨by rw [H.out]; rfl, rfl⟩

theorem shortB_of {z : Int} (h0 : 0 ≤ z) (h1 : z ≤ 100) : shortB z = true := inB_true.2 ⟨by omega, by omega⟩
theorem allShort_two {l s : Int} (h0 : 0 ≤ l) (h1 : l ≤ 100) (h2 : 0 ≤ s) (h3 : s ≤ 100) : allShort [l, s] := by
  intro k hk
  match k, hk with
  | 0, _ => exact shortB_of h0 h1
  | 1, _ => exact shortB_of h2 h3
theorem byt_pk (l s : Int) : Byt (pk [l, s] 2) := by
  intro z hz
  simp only [pk, List.length_cons, List.length_nil, List.take_succ_cons, List.take_zero, List.flatMap_cons, List.flatMap_nil, List.append_nil, put2, List.mem_cons, List.mem_append, List.not_mem_nil, or_false] at hz
  omega
/-- Two integers in a block of their own. -/
theorem two_ints (w : World) (l s : Int) (t : TypeId) : Rd (w.alloc (.cells #[.int .i64 l, .int .i64 s] t)) 1 (.slice (some ⟨w.heap.size, 0, none⟩) [l, s].length 2) (cellsOf .i64 [l, s]) [w.heap.size] :=
  ⟨_, 2, 2, rfl, rfl, by unfold maxLen; omega, Nat.le_refl _, .inr ⟨_, 0, rfl, rfl, heap_lt (heap_new w _ rfl), fun i u hu => by
    rw [Nat.zero_add, cell_of_heap (heap_new w _ rfl), List.getElem?_toArray]; exact hu⟩⟩

theorem l1Sum_q (A : Option Addr) (c : Nat) (zs : List Int) (S : Int) (hS : sumL zs = S) (w : World) (fp : List Nat) (hz : Byt zs) (ha : Rd w 1 (.slice A zs.length c) (cellsOf .u8 zs) fp) :
    Calls Tryz.prog 93 #[.slice A zs.length c] w fun e w' => e = .returned (.int .i64 S) ∧ w = w' := by subst hS; exact l1Sum_c A c zs w fp hz ha
theorem sumBytes_q (A : Option Addr) (c : Nat) (zs : List Int) (S : Int) (hS : sumL zs = S) (w : World) (fp : List Nat) (hz : Byt zs) (ha : Rd w 1 (.slice A zs.length c) (cellsOf .u8 zs) fp) :
    Calls Tryz.prog 88 #[.slice A zs.length c] w fun e w' => e = .returned (.int .i64 S) ∧ w = w' := by subst hS; exact sumBytes_c A c zs w fp hz ha
/-- Two short numbers packed, in memory of the call's own. -/
theorem packTwo_c (l s : Int) (w : World) (B : Nat) (t : TypeId) (P : List Int) (hP : pk [l, s] 2 = P) (h0 : 0 ≤ l) (h1 : l ≤ 100) (h2 : 0 ≤ s) (h3 : s ≤ 100) (hB : w.heap.size = B) :
    Calls Tryz.prog 94 #[.slice (some ⟨B, 0, none⟩) 2 2] (w.alloc (.cells #[.int .i64 l, .int .i64 s] t)) (SlicePost .u8 (w.alloc (.cells #[.int .i64 l, .int .i64 s] t)) P) := by
  subst hP hB
  exact l1Pack_c _ 2 [l, s] _ _ (by simp) (allShort_two h0 h1 h2 h3) (two_ints w l s t)
theorem packTwoI_c (l s : Int) (w : World) (B : Nat) (t : TypeId) (P : List Int) (hP : pk [l, s] 2 = P) (h0 : 0 ≤ l) (h1 : l ≤ 100) (h2 : 0 ≤ s) (h3 : s ≤ 100) (hB : w.heap.size = B) :
    Calls Tryz.prog 89 #[.slice (some ⟨B, 0, none⟩) 2 2] (w.alloc (.cells #[.int .i64 l, .int .i64 s] t)) (BytesPost (w.alloc (.cells #[.int .i64 l, .int .i64 s] t)) 0 P) := by
  subst hP hB
  have h := implPackNumbers_c _ 2 [l, s] _ _ (two_ints w l s t)
  rw [packC_0 (by simp) (allShort_two h0 h1 h2 h3), packL_0 (by simp) (allShort_two h0 h1 h2 h3)] at h
  exact h

set_option maxRecDepth 100000 in
set_option maxHeartbeats 1000000 in
theorem l7Part_c (l s : Int) (w : World) (h0 : 0 ≤ l) (h1 : l ≤ 3) (h2 : 1 ≤ s) (h3 : s ≤ 20) :
    Calls Tryz.prog 72 #[.int .i64 l, .int .i64 s] w fun e w' => e = .returned (.int .i64 (partI l s)) ∧ Below w.heap.size w w' := by
  unfold partI
  have hbd := sumL_bd (pk [l, s] 2)
  have hby := byt_pk l s
  generalize hP : pk [l, s] 2 = P at *
  generalize hS : sumL P = S at *
  have hcall := packTwo_c l s w w.heap.size 2 P hP h0 (by omega) (by omega) (by omega) rfl
  have HS := Lib.hid hS; have HBY := Lib.hid hby; have HC := Lib.hid hcall
  clear hP hS hby hcall h0 h1 h2 h3
  go_enter Tryz.func72, Tryz.ntmps72
  go_wp2_with fail
  refine HC.out.mono ?_
  rintro e w1 ⟨v1, f1, rfl, hr1, hn1, hf1, hb1⟩
  obtain ⟨A1, c1, rfl⟩ := hr1.form
  have HR1 := Lib.hid hr1
  have HB := Lib.hid ((below_new (w := w) (.cells #[.int .i64 l, .int .i64 s] 2)).trans (hb1.mono (by simp)))
  clear hr1 hn1 hf1 hb1
  go_wp2_with fail
  refine (l1Sum_q A1 c1 P S HS.out _ f1 HBY.out HR1.out).mono ?_
  rintro e w2 ⟨rfl, hw⟩
  subst hw
  go_wp2
  go_ret
  exact ⟨rfl, HB.out⟩

theorem fldB7 (x y : Value) (w : World) : (Instr.field 120 (.agg #[x, y]) 1).run Tryz.prog w = .ok y w := by kernel_rfl

set_option maxRecDepth 100000 in
set_option maxHeartbeats 1000000 in
theorem rowPart_c (r : R) (w : World) (hf : Fit r) :
    Calls Tryz.prog 99 #[rv r] w fun e w' => e = .returned (.int .i64 (rpart r)) ∧ Below w.heap.size w w' := by
  obtain ⟨l, s, h, d⟩ := r
  obtain ⟨h0, h1, h2, h3⟩ := hf
  simp only at h0 h1 h2 h3
  unfold rpart partI
  simp only
  have hbd := sumL_bd (pk [l, s] 2)
  have hby := byt_pk l s
  generalize hP : pk [l, s] 2 = P at *
  generalize hS : sumL P = S at *
  have hcall := packTwoI_c l s (w.alloc (.cells #[.int .i64 l, .int .i64 s, .int .i64 h, .int .i64 d] 40)) (w.heap.size + 1) 2 P hP h0 (by omega) (by omega) (by omega) (by simp)
  have HS := Lib.hid hS; have HBY := Lib.hid hby; have HC := Lib.hid hcall
  clear hP hS hby hcall h0 h1 h2 h3
  go_enter Tryz.func99, Tryz.ntmps99
  go_wp2_with fail
  refine HC.out.mono ?_
  rintro e w1 ⟨q, rfl, ⟨v1, f1, rfl, hr1, hn1, hf1⟩, hb1⟩
  obtain ⟨A1, c1, rfl⟩ := hr1.form
  have HR1 := Lib.hid hr1
  have HB := Lib.hid ((below_more (below_new (w := w) (.cells #[.int .i64 l, .int .i64 s, .int .i64 h, .int .i64 d] 40)) (.cells #[.int .i64 l, .int .i64 s] 2)).trans (hb1.mono (by simp; omega)))
  have q1 := fun w => fldB7 (.int .i64 0) (.slice A1 P.length c1) w
  clear hr1 hn1 hf1 hb1
  go_wp2_with fail
  refine (sumBytes_q A1 c1 P S HS.out _ f1 HBY.out HR1.out).mono ?_
  rintro e w2 ⟨rfl, hw⟩
  subst hw
  clear q1
  go_wp2
  go_ret
  exact ⟨rfl, HB.out⟩

def poP (l s : Int) : Int × Int := if isB l s then (0, partI l s) else (3, 0)
end Go.Proofs.YtldimfmhbdhbnaaGreat
