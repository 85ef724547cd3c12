/-
  Chapter 7, plain: what a part has seen turns it no more; the rows of parts are the rows of places.
-/
import Derived.Test.YtldimfmhbdhbnaaGreatG43
import Derived.Test.YtldimfmhbdhbnaaGreatG28
import Derived.Test.YtldimfmhbdhbnaaGreatG16
import Derived.Test.YtldimfmhbdhbnaaGreatG49
import Derived.Test.YtldimfmhbdhbnaaGreatG48
import Derived.Test.YtldimfmhbdhbnaaGreatG14
namespace Go.Proofs.YtldimfmhbdhbnaaGreat

theorem partsF_of {l : List Pt} (h3 : l.length = 3) (hp : ∀ k (hk : k < l.length), partF l[k] k = 0) (ht : totP l ≤ 12) : partsF l = 0 := by
  have e : restG l 0 = 0 := by
    rw [restG_ok (by omega) (hp 0 (by omega)), restG_ok (by omega) (hp 1 (by omega)), restG_ok (by omega) (hp 2 (by omega))]
    have := restG_end l
    rw [h3] at this
    exact this
  rw [partsF_many h3 e, if_neg (by omega)]
theorem partF_of {p : Pt} {at_ : Int} (hm : inB p.mark 0 999 = true) (hr : rowsF p.rows = 0) (ha : p.rows.all (fitB at_) = true) : partF p at_ = 0 := by
  rw [partF_rows hm]; unfold fitF; rw [if_neg (by simp [hr]), if_pos ha]
theorem placesF_of {p : Pl} (h4 : p.fs.length = 4) (hm : inB p.mark 0 999 = true) (hp : ∀ k (hk : k < p.fs.length), fileF p.fs[k] k = 0) (ht : totS p.fs ≤ 12) : placesF p = 0 := by
  have e : restF p.fs 0 = 0 := by
    rw [restF_ok (by omega) (hp 0 (by omega)), restF_ok (by omega) (hp 1 (by omega)), restF_ok (by omega) (hp 2 (by omega)), restF_ok (by omega) (hp 3 (by omega))]
    have := restF_end p.fs
    rw [h4] at this
    exact this
  rw [placesF_many h4 hm e, if_neg (by omega)]
theorem fileF_of {rs : List R} {loc : Int} (hr : rowsF rs = 0) (ha : rs.all (solidAt loc) = true) : fileF rs loc = 0 := by
  unfold fileF; rw [if_neg (by simp [hr]), if_pos ha]
theorem wf_of_rowF {x : R} (h : rowF x = 0) : WfR x := by
  have hz := rowF_zero h
  have e1 : IntKind.i64.min = -9223372036854775808 := rfl
  have e2 : IntKind.i64.max = 9223372036854775807 := rfl
  unfold WfR
  simp only [Lit.wf, Bool.and_eq_true, decide_eq_true_eq]
  omega
theorem wfT_right {l : List Pt} (h : partsF l = 0) : WfT l := by
  obtain ⟨h3, hz, ht⟩ := partsF_zero h
  intro p hp
  obtain ⟨k, hk, rfl⟩ := List.mem_iff_getElem.1 hp
  obtain ⟨a, b, c, _⟩ := hz k hk
  refine ⟨?_, fun r hr => wf_of_rowF ((rowsF_rising c).1.above r hr).1⟩
  have : IntKind.i64.min = -9223372036854775808 := rfl
  have : IntKind.i64.max = 9223372036854775807 := rfl
  simp only [Lit.wf, Bool.and_eq_true, decide_eq_true_eq]
  omega
theorem wq_zero {l : List Pt} {r : R} {m : Int} (h : wqC l r m = 0) : partsF l = 0 ∧ rowF r = 0 ∧ inB m 0 999 = true ∧ totP (wqP l r m) ≤ 12 := by
  by_cases h0 : partsF l = 0
  · by_cases h1 : rowF r = 0
    · cases h2 : inB m 0 999
      · rw [wqC_c h0 h1 h2] at h; cases h
      · rw [wqC_d h0 h1 h2] at h
        refine ⟨h0, h1, rfl, ?_⟩
        split at h
        · cases h
        · omega
    · rw [wqC_b h0 h1] at h; exact absurd h h1
  · rw [wqC_a h0] at h; exact absurd h h0
/-- Where a write succeeds: the parts are right; written once more, nothing turns. -/
theorem wq_fault {l : List Pt} {r : R} {m : Int} (h : wqC l r m = 0) : partsF (wqL l r m) = 0 ∧ wqL (wqL l r m) r m = wqL l r m := by
  obtain ⟨h0, h1, h2, h5⟩ := wq_zero h
  have e : wqL l r m = wqP l r m := by unfold wqL; rw [if_pos h]
  rw [e]
  obtain ⟨h3, hz, ht⟩ := partsF_zero h0
  obtain ⟨k1, k2⟩ := rpart_nat h3 r
  have key : partsF (wqP l r m) = 0 ∧ ∃ hk : (rpart r).toNat < (wqP l r m).length, m ≤ (wqP l r m)[(rpart r).toNat].mark := by
    by_cases hm : m ≤ l[(rpart r).toNat].mark
    · rw [wqP_old _ k1 k2.symm hm]; exact ⟨h0, k1, hm⟩
    · have hP := wqP_new h0 _ k1 k2.symm hm
      rw [hP] at h5 ⊢
      generalize (rpart r).toNat = j at *
      have hlen : (l.set j ⟨setR l[j].rows r, m⟩).length = 3 := by rw [List.length_set]; exact h3
      refine ⟨partsF_of hlen (fun k hk => ?_) h5, by rw [List.length_set]; exact k1, by rw [List.getElem_set_self]; exact Int.le_refl m⟩
      by_cases hjk : j = k
      · subst hjk
        rw [List.getElem_set_self]
        have hl : (setR l[j].rows r).length ≤ 12 := by
          have := len_of_totP (l.set j ⟨setR l[j].rows r, m⟩) j hk
          rw [List.getElem_set_self] at this
          exact Nat.le_trans this h5
        refine partF_of h2 (setR_right (hz j k1).2.2.1 h1 hl) (List.all_eq_true.2 fun x hx => ?_)
        rcases mem_setR.1 hx with ⟨hx, _⟩ | ⟨rfl, hx⟩
        · exact List.all_eq_true.1 (hz j k1).2.2.2 x hx
        · exact fitB_true.2 ⟨k2.symm, hx⟩
      · rw [List.getElem_set_ne hjk]
        have hk' : k < l.length := by omega
        obtain ⟨a, b, c, d⟩ := hz k hk'
        exact partF_of (inB_true.2 ⟨a, b⟩) c d
  obtain ⟨q1, q2, q3⟩ := key
  refine ⟨q1, ?_⟩
  have hold : wqP (wqP l r m) r m = wqP l r m := wqP_old _ q2 k2.symm q3
  have hc : wqC (wqP l r m) r m = 0 := by rw [wqC_d q1 h1 h2, hold, if_neg (by omega)]
  unfold wqL
  rw [if_pos hc, hold]

theorem rising_of {L : List R} : ∀ {q : Option Int}, (∀ x ∈ L, rowF x = 0) → Asc L → (∀ k, q = some k → ∀ x ∈ L, k < keyR x) → Rising q L := by
  induction L with
  | nil => intro q _ _ _; trivial
  | cons x t ih =>
    intro q h0 ha hq
    have ha' := List.pairwise_cons.1 ha
    exact ⟨h0 x (by simp), fun k hk => hq k hk x (by simp), ih (fun y hy => h0 y (by simp [hy])) ha'.2 fun k hk y hy => by injection hk with hk; subst hk; exact ha'.1 y hy⟩
theorem solidL_mem {rs : List R} {x : R} : x ∈ solidL rs ↔ x ∈ rs ∧ emptyB x = false := by unfold solidL; rw [List.mem_filter]; simp
theorem files_tot (rs : List R) : totS (filesOf rs) ≤ rs.length := by
  have e : totS (filesOf rs) = (rs.filter (solidAt (0 : Nat))).length + ((rs.filter (solidAt (1 : Nat))).length + ((rs.filter (solidAt (2 : Nat))).length + ((rs.filter (solidAt (3 : Nat))).length + 0))) := rfl
  rw [e]
  induction rs with
  | nil => simp
  | cons x t ih =>
    have ih' := ih rfl
    have one : ∀ i : Nat, ((x :: t).filter (solidAt i)).length = (if x.1 = (i : Int) ∧ emptyB x = false then 1 else 0) + (t.filter (solidAt i)).length := fun i => by
      rw [List.filter_cons]
      by_cases h : x.1 = (i : Int) ∧ emptyB x = false
      · have : solidAt i x = true := by unfold solidAt; simp [h]
        rw [if_pos this, if_pos h, List.length_cons]; omega
      · have : ¬ solidAt i x = true := by unfold solidAt; simpa using h
        rw [if_neg this, if_neg h]; omega
    rw [one 0, one 1, one 2, one 3, List.length_cons]
    by_cases h0 : x.1 = ((0 : Nat) : Int) ∧ emptyB x = false
    · rw [if_pos h0, if_neg (by omega), if_neg (by omega), if_neg (by omega)]; omega
    · by_cases h1 : x.1 = ((1 : Nat) : Int) ∧ emptyB x = false
      · rw [if_neg h0, if_pos h1, if_neg (by omega), if_neg (by omega)]; omega
      · by_cases h2 : x.1 = ((2 : Nat) : Int) ∧ emptyB x = false
        · rw [if_neg h0, if_neg h1, if_pos h2, if_neg (by omega)]; omega
        · rw [if_neg h0, if_neg h1, if_neg h2]; split <;> omega
theorem parts_tot (rs : List R) (m : Int) : totP (partsOf rs m) = (solidL rs).length := by
  have e : totP (partsOf rs m) = (rs.filter (fitB (0 : Nat))).length + ((rs.filter (fitB (1 : Nat))).length + ((rs.filter (fitB (2 : Nat))).length + 0)) := rfl
  rw [e, split3 (solidL rs)]
  unfold solidL
  simp only [List.filter_filter]
  rfl
/-- Rows that are right, laid into parts and into places. -/
theorem pp_right {rs : List R} {m : Int} (h : poC rs m = 0) : partsF (ppL rs m) = 0 ∧ roL (ppL rs m) = riL (poL rs m) ∧ lmV (ppL rs m) = m := by
  obtain ⟨h0, hm⟩ := poC_zero h
  have e1 : ppL rs m = partsOf rs m := by unfold ppL; rw [if_pos h]
  have e2 : poL rs m = ⟨filesOf rs, m⟩ := by unfold poL; rw [if_pos h]
  rw [e1, e2]
  have hr := (rowsF_rising h0).1
  have hl := (rowsF_rising h0).2
  have hs : (solidL rs).length ≤ rs.length := List.length_filter_le _ _
  have hP : partsF (partsOf rs m) = 0 := by
    refine partsF_of (partsOf_len rs m) (fun k hk => ?_) (by rw [parts_tot]; omega)
    rw [partsOf_get]
    exact partF_of hm (rising_rowsF (rising_filter hr) (Nat.le_trans (List.length_filter_le _ _) hl)) (List.all_eq_true.2 fun x hx => (List.mem_filter.1 hx).2)
  have hQ : placesF ⟨filesOf rs, m⟩ = 0 := by
    refine placesF_of (filesOf_len rs) hm (fun k hk => ?_) (Nat.le_trans (files_tot rs) hl)
    show fileF ((filesOf rs)[k]) k = 0
    rw [filesOf_get]
    exact fileF_of (rising_rowsF (rising_filter hr) (Nat.le_trans (List.length_filter_le _ _) hl)) (List.all_eq_true.2 fun x hx => (List.mem_filter.1 hx).2)
  have hfit : ∀ x ∈ rs, Fit x := fun x hx => fit_of_rowF (hr.above x hx).1
  refine ⟨hP, ?_, ?_⟩
  · unfold roL riL
    rw [if_pos hP, if_pos hQ]
    obtain ⟨a1, a2, _, _⟩ := roL_facts hP
    have hfz : ∀ x ∈ (filesOf rs).flatten, x ∈ rs ∧ emptyB x = false ∧ rowF x = 0 := fun x hx => by
      obtain ⟨f, hf, hx⟩ := List.mem_flatten.1 hx
      obtain ⟨k, hk, rfl⟩ := List.mem_iff_getElem.1 hf
      rw [filesOf_get] at hx
      obtain ⟨b1, b2⟩ := List.mem_filter.1 hx
      unfold solidAt at b2
      simp only [Bool.and_eq_true, Bool.not_eq_true'] at b2
      exact ⟨b1, b2.2, (hr.above x b1).1⟩
    refine rising_ext a1 (rising_of (q := none) (fun x hx => (hfz x hx).2.2) (asc_places hQ) (by simp)) fun x => ?_
    rw [a2 x, mem_allR]
    constructor
    · rintro ⟨k, hk, hx⟩
      rw [partsOf_get] at hx
      obtain ⟨b1, b2⟩ := List.mem_filter.1 hx
      have b3 := (fitB_true.1 b2).2
      have hf := hfit x b1
      unfold Fit at hf
      have hi : x.1.toNat < (filesOf rs).length := by rw [filesOf_len]; omega
      refine List.mem_flatten.2 ⟨(filesOf rs)[x.1.toNat], List.getElem_mem hi, ?_⟩
      rw [filesOf_get]
      refine List.mem_filter.2 ⟨b1, ?_⟩
      unfold solidAt
      simp [b3]; omega
    · intro hx
      obtain ⟨b1, b2, _⟩ := hfz x hx
      have hb := rpart_bd x
      have hi : (rpart x).toNat < (partsOf rs m).length := by rw [partsOf_len]; omega
      refine ⟨(rpart x).toNat, hi, ?_⟩
      rw [partsOf_get]
      exact List.mem_filter.2 ⟨b1, fitB_true.2 ⟨by omega, b2⟩⟩
  · unfold lmV
    rw [if_pos hP]
    unfold leastP partsOf
    simp [leastI, List.range_succ]
end Go.Proofs.YtldimfmhbdhbnaaGreat

/-
  A row written into places, plainly.
-/
namespace Go.Proofs.YtldimfmhbdhbnaaGreat
open Go.RowKit

/-- The files with the row put into its file. -/
def wpF (p : Pl) (r : R) : List (List R) := p.fs.set r.1.toNat (setR (p.fs.getD r.1.toNat []) r)
def wpC (p : Pl) (r : R) (m : Int) : Int := if placesF p = 0 then (if rowF r = 0 then (if m = p.mark + 1 ∧ m ≤ 999 then (if 12 < totS (wpF p r) then 8 else 0) else 9) else rowF r) else placesF p
def wpL (p : Pl) (r : R) (m : Int) : Pl := if wpC p r m = 0 then ⟨wpF p r, m⟩ else ⟨[], 0⟩
theorem wpC_a {p : Pl} {r : R} {m : Int} (h : placesF p ≠ 0) : wpC p r m = placesF p := by unfold wpC; rw [if_neg h]
theorem wpC_b {p : Pl} {r : R} {m : Int} (h : placesF p = 0) (h1 : rowF r ≠ 0) : wpC p r m = rowF r := by unfold wpC; rw [if_pos h, if_neg h1]
theorem wpC_c {p : Pl} {r : R} {m : Int} (h : placesF p = 0) (h1 : rowF r = 0) (h2 : ¬ (m = p.mark + 1 ∧ m ≤ 999)) : wpC p r m = 9 := by unfold wpC; rw [if_pos h, if_pos h1, if_neg h2]
theorem wpC_d {p : Pl} {r : R} {m : Int} (h : placesF p = 0) (h1 : rowF r = 0) (h2 : m = p.mark + 1) (h3 : m ≤ 999) : wpC p r m = if 12 < totS (wpF p r) then 8 else 0 := by unfold wpC; rw [if_pos h, if_pos h1, if_pos ⟨h2, h3⟩]
theorem wpL_no {p : Pl} {r : R} {m : Int} (h : wpC p r m ≠ 0) : wpL p r m = ⟨[], 0⟩ := by unfold wpL; rw [if_neg h]
theorem wpF_at {p : Pl} {r : R} {j : Nat} (h : r.1 = (j : Int)) (hj : j < p.fs.length) : wpF p r = p.fs.set j (setR p.fs[j] r) := by
  unfold wpF
  have e : r.1.toNat = j := by omega
  rw [e, List.getD_eq_getElem?_getD, List.getElem?_eq_getElem hj]; rfl
theorem setR_len6 {l : List R} {r : R} (h : l.length ≤ 12) : (setR l r).length ≤ 25 := by
  have := setGo_len r (emptyB r) l
  unfold setR; omega
theorem tot_set (l : List (List R)) (j : Nat) (hj : j < l.length) (x : List R) : totS (l.set j x) + l[j].length = totS l + x.length := by
  have e1 : l = l.take j ++ l[j] :: l.drop (j + 1) := by rw [← List.drop_eq_getElem_cons hj, List.take_append_drop]
  have e2 : l.set j x = l.take j ++ x :: l.drop (j + 1) := by rw [List.set_eq_take_append_cons_drop, if_pos hj]
  have h1 : totS (l.take j ++ x :: l.drop (j + 1)) = totS (l.take j) + (x.length + totS (l.drop (j + 1))) := by unfold totS; rw [cntL_append, cntL_cons]
  have h2 : totS l = totS (l.take j) + (l[j].length + totS (l.drop (j + 1))) := by
    conv => lhs; rw [e1]
    unfold totS; rw [cntL_append, cntL_cons]
  rw [e2, h1, h2]; omega
theorem wp_tot {l : List (List R)} {j : Nat} {x : List R} (h : totS l ≤ 12) (hj : j < l.length) (hx : x.length ≤ 25) : totS (l.set j x) ≤ 100 := by
  have := tot_set l j hj x; omega
theorem wpL_sz (p : Pl) (r : R) (m : Int) : plsz (wpL p r m) ≤ 1048576 := by
  unfold wpL
  split
  · rename_i h
    have h0 : placesF p = 0 := by
      by_cases h0 : placesF p = 0
      · exact h0
      · rw [wpC_a h0] at h; exact absurd h h0
    have h1 : rowF r = 0 := by
      by_cases h1 : rowF r = 0
      · exact h1
      · rw [wpC_b h0 h1] at h; exact absurd h h1
    have hr := rowF_zero h1
    have hl := (placesF_zero h0).1
    have hj : r.1.toNat < p.fs.length := by omega
    have ht := (placesF_zero h0).2.2.2.2
    rw [show wpF p r = p.fs.set r.1.toNat (setR p.fs[r.1.toNat] r) from wpF_at (by omega) hj]
    have h12 := (rowsF_fits ((placesF_zero h0).2.2.2.1 _ hj).1).2
    have := wp_tot ht hj (setR_len6 (r := r) h12)
    show fsz _ ≤ _
    unfold fsz
    rw [List.length_set]; simp only; omega
  · show fsz [] ≤ 1048576
    unfold fsz totS cntL; simp
/-- The blocks of a call: two boxes, the answer's. -/
theorem three_new6 (w : World) (a b c : Obj) : Below w.heap.size w (((w.alloc a).alloc b).alloc c) ∧ (((w.alloc a).alloc b).alloc c).heap[w.heap.size]? = some a ∧ (((w.alloc a).alloc b).alloc c).heap[w.heap.size + 1]? = some b ∧ (((w.alloc a).alloc b).alloc c).heap[w.heap.size + 2]? = some c :=
  ⟨below_more (below_more (below_new _) _) _, heap_old (heap_old (heap_new w a rfl)), heap_old (heap_new _ b (by simp)), heap_new _ c (by simp)⟩
end Go.Proofs.YtldimfmhbdhbnaaGreat
