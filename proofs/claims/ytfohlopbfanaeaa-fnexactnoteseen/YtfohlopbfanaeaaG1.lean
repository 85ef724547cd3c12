/-
  Rows: four integers each. A slice of rows reads as a list of rows.
-/
import Derived.Test.YtfohlopbfanaeaaWords
import Derived.Test.YtfohlopbfanaeaaSmall
namespace Go.Proofs.Ytfohlopbfanaeaa
open Go.RowKit

/-- A row: Loc, Sku, Hand, Held. -/
abbrev R := Int × Int × Int × Int
/-- Its four cells. -/
def rc (r : R) : List Value := [.int .i64 r.1, .int .i64 r.2.1, .int .i64 r.2.2.1, .int .i64 r.2.2.2]
/-- The cells of a list of rows. -/
def rcs (rs : List R) : List Value := rs.flatMap rc
/-- A row as a value. -/
abbrev rv (r : R) : Value := .agg #[.int .i64 r.1, .int .i64 r.2.1, .int .i64 r.2.2.1, .int .i64 r.2.2.2]

/-- A code and a row as a value. -/
abbrev rrv (code : Int) (r : R) : Value := .agg #[.int .i64 code, .int .i64 r.1, .int .i64 r.2.1, .int .i64 r.2.2.1, .int .i64 r.2.2.2]

theorem rcs_cons (r : R) (t : List R) : rcs (r :: t) = rc r ++ rcs t := rfl
theorem rcs_append (s t : List R) : rcs (s ++ t) = rcs s ++ rcs t := List.flatMap_append ..
theorem rcs_length (rs : List R) : (rcs rs).length = rs.length * 4 := by
  induction rs with
  | nil => rfl
  | cons r t ih => rw [rcs_cons, List.length_append, ih, List.length_cons]; simp [rc]; omega
theorem rcs_get (rs : List R) (k j : Nat) (hk : k < rs.length) (hj : j < 4) : (rcs rs)[k * 4 + j]? = (rc rs[k])[j]? := by
  induction rs generalizing k with
  | nil => simp at hk
  | cons r t ih =>
    rw [rcs_cons]
    match k, hk with
    | 0, _ => rw [List.getElem?_append_left (by simp [rc]; omega)]; simp
    | k + 1, hk =>
      rw [List.getElem?_append_right (by simp [rc]; omega)]
      have e : (k + 1) * 4 + j - (rc r).length = k * 4 + j := by simp [rc]; omega
      rw [e, ih k (by simpa using hk)]
      rfl

theorem Rd.rows_len {w : World} {rs : List R} {fp : List Nat} {A : Option Addr} {n c : Nat} (h : Rd w 4 (.slice A n c) (rcs rs) fp) : n = rs.length := by
  obtain ⟨A', n', c', e, h1, h2, h2', h3⟩ := h
  injection e with e1 e2 e3
  subst e2
  rw [rcs_length] at h1
  omega
theorem Rd.rows_form {w : World} {rs : List R} {fp : List Nat} {v : Value} (h : Rd w 4 v (rcs rs) fp) : ∃ A c, v = .slice A rs.length c := by
  have h' := h
  obtain ⟨A', n', c', rfl, _⟩ := h'
  exact ⟨A', c', by rw [h.rows_len]⟩
/-- The k-th row of a slice lies there. -/
theorem Rd.row_at {w : World} {rs : List R} {fp : List Nat} {A : Option Addr} {c k : Nat} (h : Rd w 4 (.slice A rs.length c) (rcs rs) fp) (hk : k < rs.length) :
    ∃ b off, A = some ⟨b, off, none⟩ ∧ fp = [b] ∧ b < w.heap.size ∧ w.cell? ⟨b, off + k * 4, none⟩ = some (.int .i64 rs[k].1) ∧ w.cell? ⟨b, off + k * 4 + 1, none⟩ = some (.int .i64 rs[k].2.1) ∧
      w.cell? ⟨b, off + k * 4 + 2, none⟩ = some (.int .i64 rs[k].2.2.1) ∧ w.cell? ⟨b, off + k * 4 + 3, none⟩ = some (.int .i64 rs[k].2.2.2) := by
  obtain ⟨A', n', c', e, h1, h2, h2', h3⟩ := h
  injection e with e1 e2 e3
  subst e1 e2 e3
  rcases h3 with ⟨h3, _⟩ | ⟨b, off, rfl, rfl, hlt, hc⟩
  · omega
  · refine ⟨b, off, rfl, rfl, hlt, ?_, ?_, ?_, ?_⟩
    · exact hc (k * 4 + 0) _ (by rw [rcs_get rs k 0 hk (by omega)]; rfl)
    · rw [Nat.add_assoc]; exact hc (k * 4 + 1) _ (by rw [rcs_get rs k 1 hk (by omega)]; rfl)
    · rw [Nat.add_assoc]; exact hc (k * 4 + 2) _ (by rw [rcs_get rs k 2 hk (by omega)]; rfl)
    · rw [Nat.add_assoc]; exact hc (k * 4 + 3) _ (by rw [rcs_get rs k 3 hk (by omega)]; rfl)

/-- The first k rows filled, the others still zero. -/
def partR (rs : List R) (k : Nat) : Array Value := (rcs (rs.take k ++ List.replicate (rs.length - k) (0, 0, 0, 0))).toArray
theorem partR_full (rs : List R) : partR rs rs.length = (rcs rs).toArray := by simp [partR]
theorem partR_size (rs : List R) (k : Nat) (h : k ≤ rs.length) : (partR rs k).size = rs.length * 4 := by
  unfold partR
  rw [List.size_toArray, rcs_length, List.length_append, List.length_take, List.length_replicate]
  omega
theorem rcs_zeros (n : Nat) : rcs (List.replicate n (0, 0, 0, 0)) = List.replicate (n * 4) (.int .i64 0) := by
  induction n with
  | zero => rfl
  | succ n ih =>
    rw [List.replicate_succ, rcs_cons, ih]
    have e : (n + 1) * 4 = n * 4 + 1 + 1 + 1 + 1 := by omega
    rw [e]
    simp only [List.replicate_succ]
    rfl
theorem partR_zero (rs : List R) : partR rs 0 = madeCells (rv (0, 0, 0, 0)).cells (rs.length * 4) := by
  unfold partR madeCells
  rw [List.take_zero, List.nil_append, Nat.sub_zero, rcs_zeros]
  apply Array.ext'
  apply List.ext_getElem?
  intro i
  simp only [List.getElem?_replicate, Array.toList_map, Array.toList_range, List.getElem?_map]
  by_cases h : i < rs.length * 4
  · have h4 : i % 4 < 4 := Nat.mod_lt _ (by omega)
    simp only [h, if_true, List.getElem?_range h, Option.map_some, Value.cells]
    have : i % 4 = 0 ∨ i % 4 = 1 ∨ i % 4 = 2 ∨ i % 4 = 3 := by omega
    rcases this with e | e | e | e <;> simp [e]
  · simp [h]
theorem rc_length (r : R) : (rc r).length = 4 := rfl
/-- Four cells in a row of rows are set. -/
theorem rcs_set (s t : List R) (q r : R) : ((((rcs (s ++ q :: t)).toArray.setIfInBounds (s.length * 4) (.int .i64 r.1)).setIfInBounds (s.length * 4 + 1) (.int .i64 r.2.1)).setIfInBounds (s.length * 4 + 2) (.int .i64 r.2.2.1)).setIfInBounds (s.length * 4 + 3) (.int .i64 r.2.2.2) = (rcs (s ++ r :: t)).toArray := by
  have hl := rcs_length s
  rw [rcs_append, rcs_append, rcs_cons, rcs_cons]
  simp only [List.setIfInBounds_toArray]
  congr 1
  rw [List.set_append_right _ _ (by omega), List.set_append_right _ _ (by omega), List.set_append_right _ _ (by omega), List.set_append_right _ _ (by omega)]
  congr 1
  have e0 : s.length * 4 - (rcs s).length = 0 := by omega
  have e1 : s.length * 4 + 1 - (rcs s).length = 1 := by omega
  have e2 : s.length * 4 + 2 - (rcs s).length = 2 := by omega
  have e3 : s.length * 4 + 3 - (rcs s).length = 3 := by omega
  rw [e0, e1, e2, e3]
  rfl
theorem partR_step (rs : List R) (k : Nat) (h : k < rs.length) : ((((partR rs k).setIfInBounds (k * 4) (.int .i64 rs[k].1)).setIfInBounds (k * 4 + 1) (.int .i64 rs[k].2.1)).setIfInBounds (k * 4 + 2) (.int .i64 rs[k].2.2.1)).setIfInBounds (k * 4 + 3) (.int .i64 rs[k].2.2.2) = partR rs (k + 1) := by
  unfold partR
  have e : rs.length - k = (rs.length - (k + 1)) + 1 := by omega
  have hl : (rs.take k).length = k := by rw [List.length_take]; omega
  have hs := rcs_set (rs.take k) (List.replicate (rs.length - (k + 1)) (0, 0, 0, 0)) (0, 0, 0, 0) rs[k]
  rw [hl] at hs
  rw [e, List.replicate_succ, hs, List.take_succ_eq_append_getElem h, List.append_assoc]
  rfl
/-- A block of cells behind four stores. -/
theorem heap_set4 {w : World} {g i0 i1 i2 i3 : Nat} {cs : Array Value} {t : TypeId} {a b c d : Value} (h : w.heap[g]? = some (.cells cs t (0, 0))) :
    ((((w.setCell ⟨g, i0, none⟩ a).setCell ⟨g, i1, none⟩ b).setCell ⟨g, i2, none⟩ c).setCell ⟨g, i3, none⟩ d).heap[g]? = some (.cells ((((cs.setIfInBounds i0 a).setIfInBounds i1 b).setIfInBounds i2 c).setIfInBounds i3 d) t (0, 0)) := by
  simp [World.setCell, Array.getElem?_modify, h]
theorem partR_cells {w : World} {g k : Nat} {t : TypeId} {rs : List R} (h : w.heap[g]? = some (.cells (partR rs k) t (0, 0))) (hk : k < rs.length) :
    w.cell? ⟨g, k * 4, none⟩ = some (.int .i64 0) ∧ w.cell? ⟨g, k * 4 + 1, none⟩ = some (.int .i64 0) ∧ w.cell? ⟨g, k * 4 + 2, none⟩ = some (.int .i64 0) ∧ w.cell? ⟨g, k * 4 + 3, none⟩ = some (.int .i64 0) := by
  have hl : (rs.take k).length = k := by rw [List.length_take]; omega
  have hn : k < (rs.take k ++ List.replicate (rs.length - k) ((0, 0, 0, 0) : R)).length := by rw [List.length_append, hl, List.length_replicate]; omega
  have hz : (rs.take k ++ List.replicate (rs.length - k) ((0, 0, 0, 0) : R))[k] = (0, 0, 0, 0) := by
    rw [List.getElem_append_right (by omega)]; simp
  have key : ∀ j, j < 4 → w.cell? ⟨g, k * 4 + j, none⟩ = (rc (0, 0, 0, 0))[j]? := fun j hj => by
    rw [cell_of_heap h]
    unfold partR
    rw [List.getElem?_toArray, rcs_get _ k j hn hj, hz]
  exact ⟨key 0 (by omega), key 1 (by omega), key 2 (by omega), key 3 (by omega)⟩

/-- What a copy of rows answers. -/
def CopyRows (w : World) (rs : List R) (e : Ending) (w' : World) : Prop :=
  ∃ A c fp, e = .returned (.slice A rs.length c) ∧ Rd w' 4 (.slice A rs.length c) (rcs rs) fp ∧ NF w' fp ∧ From w.heap.size fp ∧ Below w.heap.size w w'

theorem markR_done {wr : World} {b off n c : Nat} {q : Int} {old : Nat → Value} (hn : n ≤ maxLen) (hc : n ≤ c) (hb : b < wr.heap.size)
    (hcl : ∀ j, j < n * 4 → wr.cell? ⟨b, off + j, none⟩ = some (if j < n * 4 then .int .i64 ((fun x => x) (q + j)) else old j)) :
    Rd wr 4 (.slice (some ⟨b, off, none⟩) n c) (cellsOf .i64 (marks (fun x => x) q (n * 4))) [b] := by
  refine ⟨_, n, c, rfl, by simp [marks], hn, hc, .inr ⟨b, off, rfl, rfl, hb, fun i u hu => ?_⟩⟩
  have hi : i < n * 4 := by
    rcases Nat.lt_or_ge i (n * 4) with h | h
    · exact h
    · rw [List.getElem?_eq_none (by simpa [marks] using h)] at hu; cases hu
  rw [hcl i hi, if_pos hi, ← hu]
  simp [marks, hi]
/-- The cells of the k-th element of a slice of rows that bears marks. -/
theorem Rd.marks_at {w : World} {fp : List Nat} {A : Option Addr} {n c k : Nat} {q : Int} (h : Rd w 4 (.slice A n c) (cellsOf .i64 (marks (fun x => x) q (n * 4))) fp) (hk : k < n) :
    ∃ b off, A = some ⟨b, off, none⟩ ∧ fp = [b] ∧ b < w.heap.size ∧ ∀ j, j < 4 → w.cell? ⟨b, off + k * 4 + j, none⟩ = some (.int .i64 (q + ((k * 4 + j : Nat) : Int))) := by
  obtain ⟨A', n', c', e, h1, h2, h2', h3⟩ := h
  injection e with e1 e2 e3
  subst e1 e2 e3
  rcases h3 with ⟨h3, _⟩ | ⟨b, off, rfl, rfl, hlt, hc⟩
  · omega
  · refine ⟨b, off, rfl, rfl, hlt, fun j hj => ?_⟩
    rw [Nat.add_assoc]
    refine hc (k * 4 + j) _ ?_
    have : k * 4 + j < n * 4 := by omega
    simp [marks, this]
end Go.Proofs.Ytfohlopbfanaeaa

/-
  Chapter 2 as plain functions on lists of rows.
-/
namespace Go.Proofs.Ytfohlopbfanaeaa

def isB (l s : Int) : Bool := inB l 0 3 && inB s 1 20
def keyR (r : R) : Int := 21 * r.1 + r.2.1
/-- The code of a row. -/
def rowF (r : R) : Int := if isB r.1 r.2.1 && inB r.2.2.1 0 9999 && inB r.2.2.2 0 9999 then (if r.2.2.1 < r.2.2.2 then 7 else 0) else 3
theorem rowF_zero {r : R} (h : rowF r = 0) : 0 ≤ r.1 ∧ r.1 ≤ 3 ∧ 1 ≤ r.2.1 ∧ r.2.1 ≤ 20 ∧ 0 ≤ r.2.2.1 ∧ r.2.2.1 ≤ 9999 ∧ 0 ≤ r.2.2.2 ∧ r.2.2.2 ≤ r.2.2.1 := by
  unfold rowF at h
  split at h
  · rename_i hh
    simp only [Bool.and_eq_true, isB, inB_true] at hh
    split at h
    · omega
    · omega
  · omega
/-- A place and a thing in range. -/
def Fit (r : R) : Prop := 0 ≤ r.1 ∧ r.1 ≤ 3 ∧ 1 ≤ r.2.1 ∧ r.2.1 ≤ 20
def Fits (rs : List R) : Prop := ∀ j (h : j < rs.length), Fit rs[j]
theorem fit_of_rowF {r : R} (h : rowF r = 0) : Fit r := by have := rowF_zero h; unfold Fit; omega
/-- A row with nothing. -/
def emptyB (r : R) : Bool := (r.2.2.1 == 0) && (r.2.2.2 == 0)
/-- The code of the rows behind a key (none at the beginning). -/
def scanF : Option Int → List R → Int
  | _, [] => 0
  | p, r :: t => if rowF r ≠ 0 then rowF r else if (p.map fun k => decide (keyR r ≤ k)) = some true then 1 else scanF (some (keyR r)) t
/-- The code of a list of rows. -/
def rowsF (rs : List R) : Int := if 12 < rs.length then 2 else scanF none rs
/-- The key ahead of the k-th row. -/
def prevK (rs : List R) (k : Nat) : Option Int := if k = 0 then none else (rs[k - 1]?).map keyR
theorem prevK_succ (rs : List R) (k : Nat) (h : k < rs.length) : prevK rs (k + 1) = some (keyR rs[k]) := by
  unfold prevK; rw [if_neg (by omega), Nat.add_sub_cancel, List.getElem?_eq_getElem h]; rfl
theorem scanF_at (rs : List R) (k : Nat) (h : k < rs.length) : scanF (prevK rs k) (rs.drop k) = if rowF rs[k] ≠ 0 then rowF rs[k] else if ((prevK rs k).map fun q => decide (keyR rs[k] ≤ q)) = some true then 1 else scanF (prevK rs (k + 1)) (rs.drop (k + 1)) := by
  rw [List.drop_eq_getElem_cons h, scanF, prevK_succ rs k h]
theorem scanF_fits : ∀ (p : Option Int) (rs : List R), scanF p rs = 0 → ∀ j (h : j < rs.length), rowF rs[j] = 0 := by
  intro p rs
  induction rs generalizing p with
  | nil => intro _ j h; simp at h
  | cons r t ih =>
    intro h j hj
    unfold scanF at h
    by_cases h0 : rowF r = 0
    · rw [if_neg (by simpa using h0)] at h
      by_cases h1 : (p.map fun k => decide (keyR r ≤ k)) = some true
      · rw [if_pos h1] at h; cases h
      · rw [if_neg h1] at h
        match j, hj with
        | 0, _ => exact h0
        | j + 1, hj => exact ih _ h j (by simpa using hj)
    · rw [if_pos h0] at h; exact absurd h h0
theorem rowsF_fits {rs : List R} (h : rowsF rs = 0) : Fits rs ∧ rs.length ≤ 12 := by
  unfold rowsF at h
  split at h
  · cases h
  · exact ⟨fun j hj => fit_of_rowF (scanF_fits none rs h j hj), by omega⟩
end Go.Proofs.Ytfohlopbfanaeaa
