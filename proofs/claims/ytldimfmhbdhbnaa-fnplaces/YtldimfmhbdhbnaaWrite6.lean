/-
  A row written into places, plainly.
-/
import Derived.Test.YtldimfmhbdhbnaaPlace6
import Derived.Test.YtldimfmhbdhbnaaG14
namespace Go.Proofs.Ytldimfmhbdhbnaa
open Go.RowKit

/-- The files with the row put into its file. -/
def wpF (p : Pl) (r : R) : List (List R) := p.fs.set r.1.toNat (setR (p.fs.getD r.1.toNat []) r)
def wpC (p : Pl) (r : R) (m : Int) : Int := if placesF p = 0 then (if rowF r = 0 then (if m = p.mark + 1 ∧ m ≤ 999 then (if 12 < totS (wpF p r) then 8 else 0) else 9) else rowF r) else placesF p
def wpL (p : Pl) (r : R) (m : Int) : Pl := if wpC p r m = 0 then ⟨wpF p r, m⟩ else ⟨[], 0⟩
theorem wpC_a {p : Pl} {r : R} {m : Int} (h : placesF p ≠ 0) : wpC p r m = placesF p := by unfold wpC; rw [if_neg h]
theorem wpC_b {p : Pl} {r : R} {m : Int} (h : placesF p = 0) (h1 : rowF r ≠ 0) : wpC p r m = rowF r := by unfold wpC; rw [if_pos h, if_neg h1]
theorem wpC_c {p : Pl} {r : R} {m : Int} (h : placesF p = 0) (h1 : rowF r = 0) (h2 : ¬ (m = p.mark + 1 ∧ m ≤ 999)) : wpC p r m = 9 := by unfold wpC; rw [if_pos h, if_pos h1, if_neg h2]
theorem wpC_d {p : Pl} {r : R} {m : Int} (h : placesF p = 0) (h1 : rowF r = 0) (h2 : m = p.mark + 1) (h3 : m ≤ 999) : wpC p r m = if 12 < totS (wpF p r) then 8 else 0 := by unfold wpC; rw [if_pos h, if_pos h1, if_pos ⟨h2, h3⟩]
theorem wpL_no {p : Pl} {r : R} {m : Int} (h : wpC p r m ≠ 0) : wpL p r m = ⟨[], 0⟩ := by unfold wpL; rw [if_neg h]
theorem wpF_at {p : Pl} {r : R} {j : Nat} (h : r.1 = (j : Int)) (hj : j < p.fs.length) : wpF p r = p.fs.set j (setR p.fs[j] r) := by
  unfold wpF
  have e : r.1.toNat = j := by omega
  rw [e, List.getD_eq_getElem?_getD, List.getElem?_eq_getElem hj]; rfl
theorem setR_len6 {l : List R} {r : R} (h : l.length ≤ 12) : (setR l r).length ≤ 25 := by
  have := setGo_len r (emptyB r) l
  unfold setR; omega
theorem tot_set (l : List (List R)) (j : Nat) (hj : j < l.length) (x : List R) : totS (l.set j x) + l[j].length = totS l + x.length := by
  have e1 : l = l.take j ++ l[j] :: l.drop (j + 1) := by rw [← List.drop_eq_getElem_cons hj, List.take_append_drop]
  have e2 : l.set j x = l.take j ++ x :: l.drop (j + 1) := by rw [List.set_eq_take_append_cons_drop, if_pos hj]
  have h1 : totS (l.take j ++ x :: l.drop (j + 1)) = totS (l.take j) + (x.length + totS (l.drop (j + 1))) := by unfold totS; rw [cntL_append, cntL_cons]
  have h2 : totS l = totS (l.take j) + (l[j].length + totS (l.drop (j + 1))) := by
    conv => lhs; rw [e1]
    unfold totS; rw [cntL_append, cntL_cons]
  rw [e2, h1, h2]; omega
theorem wp_tot {l : List (List R)} {j : Nat} {x : List R} (h : totS l ≤ 12) (hj : j < l.length) (hx : x.length ≤ 25) : totS (l.set j x) ≤ 100 := by
  have := tot_set l j hj x; omega
theorem wpL_sz (p : Pl) (r : R) (m : Int) : plsz (wpL p r m) ≤ 1048576 := by
  unfold wpL
  split
  · rename_i h
    have h0 : placesF p = 0 := by
      by_cases h0 : placesF p = 0
      · exact h0
      · rw [wpC_a h0] at h; exact absurd h h0
    have h1 : rowF r = 0 := by
      by_cases h1 : rowF r = 0
      · exact h1
      · rw [wpC_b h0 h1] at h; exact absurd h h1
    have hr := rowF_zero h1
    have hl := (placesF_zero h0).1
    have hj : r.1.toNat < p.fs.length := by omega
    have ht := (placesF_zero h0).2.2.2.2
    rw [show wpF p r = p.fs.set r.1.toNat (setR p.fs[r.1.toNat] r) from wpF_at (by omega) hj]
    have h12 := (rowsF_fits ((placesF_zero h0).2.2.2.1 _ hj).1).2
    have := wp_tot ht hj (setR_len6 (r := r) h12)
    show fsz _ ≤ _
    unfold fsz
    rw [List.length_set]; simp only; omega
  · show fsz [] ≤ 1048576
    unfold fsz totS cntL; simp
/-- The blocks of a call: two boxes, the answer's. -/
theorem three_new6 (w : World) (a b c : Obj) : Below w.heap.size w (((w.alloc a).alloc b).alloc c) ∧ (((w.alloc a).alloc b).alloc c).heap[w.heap.size]? = some a ∧ (((w.alloc a).alloc b).alloc c).heap[w.heap.size + 1]? = some b ∧ (((w.alloc a).alloc b).alloc c).heap[w.heap.size + 2]? = some c :=
  ⟨below_more (below_more (below_new _) _) _, heap_old (heap_old (heap_new w a rfl)), heap_old (heap_new _ b (by simp)), heap_new _ c (by simp)⟩
end Go.Proofs.Ytldimfmhbdhbnaa
