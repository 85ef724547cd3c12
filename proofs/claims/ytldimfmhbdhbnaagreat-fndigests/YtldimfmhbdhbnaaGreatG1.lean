/-
  Rows: four integers each. A slice of rows reads as a list of rows.
-/
import Derived.Test.YtldimfmhbdhbnaaGreatG26
import Derived.Test.YtldimfmhbdhbnaaGreatProg
import Derived.WalkSpells
import Derived.Laws.MakeOwn
import Derived.RegionTactic
import Derived.Deep.QuietTactic
import Derived.BigQuiet
import Derived.IntWalk
import Derived.Deep.RegionHeld3
namespace Go.Proofs.YtldimfmhbdhbnaaGreat
open Go.RowKit

/-- A row: Loc, Sku, Hand, Held. -/
abbrev R := Int × Int × Int × Int
/-- Its four cells. -/
def rc (r : R) : List Value := [.int .i64 r.1, .int .i64 r.2.1, .int .i64 r.2.2.1, .int .i64 r.2.2.2]
/-- The cells of a list of rows. -/
def rcs (rs : List R) : List Value := rs.flatMap rc
/-- A row as a value. -/
abbrev rv (r : R) : Value := .agg #[.int .i64 r.1, .int .i64 r.2.1, .int .i64 r.2.2.1, .int .i64 r.2.2.2]

/-- A code and a row as a value. -/
abbrev rrv (code : Int) (r : R) : Value := .agg #[.int .i64 code, .int .i64 r.1, .int .i64 r.2.1, .int .i64 r.2.2.1, .int .i64 r.2.2.2]

theorem rcs_cons (r : R) (t : List R) : rcs (r :: t) = rc r ++ rcs t := rfl
theorem rcs_append (s t : List R) : rcs (s ++ t) = rcs s ++ rcs t := List.flatMap_append ..
theorem rcs_length (rs : List R) : (rcs rs).length = rs.length * 4 := by
  induction rs with
  | nil => rfl
  | cons r t ih => rw [rcs_cons, List.length_append, ih, List.length_cons]; simp [rc]; omega
theorem rcs_get (rs : List R) (k j : Nat) (hk : k < rs.length) (hj : j < 4) : (rcs rs)[k * 4 + j]? = (rc rs[k])[j]? := by
  induction rs generalizing k with
  | nil => simp at hk
  | cons r t ih =>
    rw [rcs_cons]
    match k, hk with
    | 0, _ => rw [List.getElem?_append_left (by simp [rc]; omega)]; simp
    | k + 1, hk =>
      rw [List.getElem?_append_right (by simp [rc]; omega)]
      have e : (k + 1) * 4 + j - (rc r).length = k * 4 + j := by simp [rc]; omega
      rw [e, ih k (by simpa using hk)]
      rfl

theorem Rd.rows_len {w : World} {rs : List R} {fp : List Nat} {A : Option Addr} {n c : Nat} (h : Rd w 4 (.slice A n c) (rcs rs) fp) : n = rs.length := by
  obtain ⟨A', n', c', e, h1, h2, h2', h3⟩ := h
  injection e with e1 e2 e3
  subst e2
  rw [rcs_length] at h1
  omega
theorem Rd.rows_form {w : World} {rs : List R} {fp : List Nat} {v : Value} (h : Rd w 4 v (rcs rs) fp) : ∃ A c, v = .slice A rs.length c := by
  have h' := h
  obtain ⟨A', n', c', rfl, _⟩ := h'
  exact ⟨A', c', by rw [h.rows_len]⟩
/-- The k-th row of a slice lies there. -/
theorem Rd.row_at {w : World} {rs : List R} {fp : List Nat} {A : Option Addr} {c k : Nat} (h : Rd w 4 (.slice A rs.length c) (rcs rs) fp) (hk : k < rs.length) :
    ∃ b off, A = some ⟨b, off, none⟩ ∧ fp = [b] ∧ b < w.heap.size ∧ w.cell? ⟨b, off + k * 4, none⟩ = some (.int .i64 rs[k].1) ∧ w.cell? ⟨b, off + k * 4 + 1, none⟩ = some (.int .i64 rs[k].2.1) ∧
      w.cell? ⟨b, off + k * 4 + 2, none⟩ = some (.int .i64 rs[k].2.2.1) ∧ w.cell? ⟨b, off + k * 4 + 3, none⟩ = some (.int .i64 rs[k].2.2.2) := by
  obtain ⟨A', n', c', e, h1, h2, h2', h3⟩ := h
  injection e with e1 e2 e3
  subst e1 e2 e3
  rcases h3 with ⟨h3, _⟩ | ⟨b, off, rfl, rfl, hlt, hc⟩
  · omega
  · refine ⟨b, off, rfl, rfl, hlt, ?_, ?_, ?_, ?_⟩
    · exact hc (k * 4 + 0) _ (by rw [rcs_get rs k 0 hk (by omega)]; rfl)
    · rw [Nat.add_assoc]; exact hc (k * 4 + 1) _ (by rw [rcs_get rs k 1 hk (by omega)]; rfl)
    · rw [Nat.add_assoc]; exact hc (k * 4 + 2) _ (by rw [rcs_get rs k 2 hk (by omega)]; rfl)
    · rw [Nat.add_assoc]; exact hc (k * 4 + 3) _ (by rw [rcs_get rs k 3 hk (by omega)]; rfl)

/-- The first k rows filled, the others still zero. -/
def partR (rs : List R) (k : Nat) : Array Value := (rcs (rs.take k ++ List.replicate (rs.length - k) (0, 0, 0, 0))).toArray
theorem partR_full (rs : List R) : partR rs rs.length = (rcs rs).toArray := by simp [partR]
theorem partR_size (rs : List R) (k : Nat) (h : k ≤ rs.length) : (partR rs k).size = rs.length * 4 := by
  unfold partR
  rw [List.size_toArray, rcs_length, List.length_append, List.length_take, List.length_replicate]
  omega
theorem rcs_zeros (n : Nat) : rcs (List.replicate n (0, 0, 0, 0)) = List.replicate (n * 4) (.int .i64 0) := by
  induction n with
  | zero => rfl
  | succ n ih =>
    rw [List.replicate_succ, rcs_cons, ih]
    have e : (n + 1) * 4 = n * 4 + 1 + 1 + 1 + 1 := by omega
    rw [e]
    simp only [List.replicate_succ]
    rfl
theorem partR_zero (rs : List R) : partR rs 0 = madeCells (rv (0, 0, 0, 0)).cells (rs.length * 4) := by
  unfold partR madeCells
  rw [List.take_zero, List.nil_append, Nat.sub_zero, rcs_zeros]
  apply Array.ext'
  apply List.ext_getElem?
  intro i
  simp only [List.getElem?_replicate, Array.toList_map, Array.toList_range, List.getElem?_map]
  by_cases h : i < rs.length * 4
  · have h4 : i % 4 < 4 := Nat.mod_lt _ (by omega)
    simp only [h, if_true, List.getElem?_range h, Option.map_some, Value.cells]
    have : i % 4 = 0 ∨ i % 4 = 1 ∨ i % 4 = 2 ∨ i % 4 = 3 := by omega
    rcases this with e | e | e | e <;> simp [e]
  · simp [h]
theorem rc_length (r : R) : (rc r).length = 4 := rfl
/-- Four cells in a row of rows are set. -/
theorem rcs_set (s t : List R) (q r : R) : ((((rcs (s ++ q :: t)).toArray.setIfInBounds (s.length * 4) (.int .i64 r.1)).setIfInBounds (s.length * 4 + 1) (.int .i64 r.2.1)).setIfInBounds (s.length * 4 + 2) (.int .i64 r.2.2.1)).setIfInBounds (s.length * 4 + 3) (.int .i64 r.2.2.2) = (rcs (s ++ r :: t)).toArray := by
  have hl := rcs_length s
  rw [rcs_append, rcs_append, rcs_cons, rcs_cons]
  simp only [List.setIfInBounds_toArray]
  congr 1
  rw [List.set_append_right _ _ (by omega), List.set_append_right _ _ (by omega), List.set_append_right _ _ (by omega), List.set_append_right _ _ (by omega)]
  congr 1
  have e0 : s.length * 4 - (rcs s).length = 0 := by omega
  have e1 : s.length * 4 + 1 - (rcs s).length = 1 := by omega
  have e2 : s.length * 4 + 2 - (rcs s).length = 2 := by omega
  have e3 : s.length * 4 + 3 - (rcs s).length = 3 := by omega
  rw [e0, e1, e2, e3]
  rfl
theorem partR_step (rs : List R) (k : Nat) (h : k < rs.length) : ((((partR rs k).setIfInBounds (k * 4) (.int .i64 rs[k].1)).setIfInBounds (k * 4 + 1) (.int .i64 rs[k].2.1)).setIfInBounds (k * 4 + 2) (.int .i64 rs[k].2.2.1)).setIfInBounds (k * 4 + 3) (.int .i64 rs[k].2.2.2) = partR rs (k + 1) := by
  unfold partR
  have e : rs.length - k = (rs.length - (k + 1)) + 1 := by omega
  have hl : (rs.take k).length = k := by rw [List.length_take]; omega
  have hs := rcs_set (rs.take k) (List.replicate (rs.length - (k + 1)) (0, 0, 0, 0)) (0, 0, 0, 0) rs[k]
  rw [hl] at hs
  rw [e, List.replicate_succ, hs, List.take_succ_eq_append_getElem h, List.append_assoc]
  rfl
/-- A block of cells behind four stores. -/
theorem heap_set4 {w : World} {g i0 i1 i2 i3 : Nat} {cs : Array Value} {t : TypeId} {a b c d : Value} (h : w.heap[g]? = some (.cells cs t (0, 0))) :
    ((((w.setCell ⟨g, i0, none⟩ a).setCell ⟨g, i1, none⟩ b).setCell ⟨g, i2, none⟩ c).setCell ⟨g, i3, none⟩ d).heap[g]? = some (.cells ((((cs.setIfInBounds i0 a).setIfInBounds i1 b).setIfInBounds i2 c).setIfInBounds i3 d) t (0, 0)) := by
  simp [World.setCell, Array.getElem?_modify, h]
theorem partR_cells {w : World} {g k : Nat} {t : TypeId} {rs : List R} (h : w.heap[g]? = some (.cells (partR rs k) t (0, 0))) (hk : k < rs.length) :
    w.cell? ⟨g, k * 4, none⟩ = some (.int .i64 0) ∧ w.cell? ⟨g, k * 4 + 1, none⟩ = some (.int .i64 0) ∧ w.cell? ⟨g, k * 4 + 2, none⟩ = some (.int .i64 0) ∧ w.cell? ⟨g, k * 4 + 3, none⟩ = some (.int .i64 0) := by
  have hl : (rs.take k).length = k := by rw [List.length_take]; omega
  have hn : k < (rs.take k ++ List.replicate (rs.length - k) ((0, 0, 0, 0) : R)).length := by rw [List.length_append, hl, List.length_replicate]; omega
  have hz : (rs.take k ++ List.replicate (rs.length - k) ((0, 0, 0, 0) : R))[k] = (0, 0, 0, 0) := by
    rw [List.getElem_append_right (by omega)]; simp
  have key : ∀ j, j < 4 → w.cell? ⟨g, k * 4 + j, none⟩ = (rc (0, 0, 0, 0))[j]? := fun j hj => by
    rw [cell_of_heap h]
    unfold partR
    rw [List.getElem?_toArray, rcs_get _ k j hn hj, hz]
  exact ⟨key 0 (by omega), key 1 (by omega), key 2 (by omega), key 3 (by omega)⟩

/-- What a copy of rows answers. -/
def CopyRows (w : World) (rs : List R) (e : Ending) (w' : World) : Prop :=
  ∃ A c fp, e = .returned (.slice A rs.length c) ∧ Rd w' 4 (.slice A rs.length c) (rcs rs) fp ∧ NF w' fp ∧ From w.heap.size fp ∧ Below w.heap.size w w'

theorem markR_done {wr : World} {b off n c : Nat} {q : Int} {old : Nat → Value} (hn : n ≤ maxLen) (hc : n ≤ c) (hb : b < wr.heap.size)
    (hcl : ∀ j, j < n * 4 → wr.cell? ⟨b, off + j, none⟩ = some (if j < n * 4 then .int .i64 ((fun x => x) (q + j)) else old j)) :
    Rd wr 4 (.slice (some ⟨b, off, none⟩) n c) (cellsOf .i64 (marks (fun x => x) q (n * 4))) [b] := by
  refine ⟨_, n, c, rfl, by simp [marks], hn, hc, .inr ⟨b, off, rfl, rfl, hb, fun i u hu => ?_⟩⟩
  have hi : i < n * 4 := by
    rcases Nat.lt_or_ge i (n * 4) with h | h
    · exact h
    · rw [List.getElem?_eq_none (by simpa [marks] using h)] at hu; cases hu
  rw [hcl i hi, if_pos hi, ← hu]
  simp [marks, hi]
/-- The cells of the k-th element of a slice of rows that bears marks. -/
theorem Rd.marks_at {w : World} {fp : List Nat} {A : Option Addr} {n c k : Nat} {q : Int} (h : Rd w 4 (.slice A n c) (cellsOf .i64 (marks (fun x => x) q (n * 4))) fp) (hk : k < n) :
    ∃ b off, A = some ⟨b, off, none⟩ ∧ fp = [b] ∧ b < w.heap.size ∧ ∀ j, j < 4 → w.cell? ⟨b, off + k * 4 + j, none⟩ = some (.int .i64 (q + ((k * 4 + j : Nat) : Int))) := by
  obtain ⟨A', n', c', e, h1, h2, h2', h3⟩ := h
  injection e with e1 e2 e3
  subst e1 e2 e3
  rcases h3 with ⟨h3, _⟩ | ⟨b, off, rfl, rfl, hlt, hc⟩
  · omega
  · refine ⟨b, off, rfl, rfl, hlt, fun j hj => ?_⟩
    rw [Nat.add_assoc]
    refine hc (k * 4 + j) _ ?_
    have : k * 4 + j < n * 4 := by omega
    simp [marks, this]
end Go.Proofs.YtldimfmhbdhbnaaGreat

/-
  Chapter 2 as plain functions on lists of rows.
-/
namespace Go.Proofs.YtldimfmhbdhbnaaGreat

def isB (l s : Int) : Bool := inB l 0 3 && inB s 1 20
def keyR (r : R) : Int := 21 * r.1 + r.2.1
/-- The code of a row. -/
def rowF (r : R) : Int := if isB r.1 r.2.1 && inB r.2.2.1 0 9999 && inB r.2.2.2 0 9999 then (if r.2.2.1 < r.2.2.2 then 7 else 0) else 3
theorem rowF_zero {r : R} (h : rowF r = 0) : 0 ≤ r.1 ∧ r.1 ≤ 3 ∧ 1 ≤ r.2.1 ∧ r.2.1 ≤ 20 ∧ 0 ≤ r.2.2.1 ∧ r.2.2.1 ≤ 9999 ∧ 0 ≤ r.2.2.2 ∧ r.2.2.2 ≤ r.2.2.1 := by
  unfold rowF at h
  split at h
  · rename_i hh
    simp only [Bool.and_eq_true, isB, inB_true] at hh
    split at h
    · omega
    · omega
  · omega
/-- A place and a thing in range. -/
def Fit (r : R) : Prop := 0 ≤ r.1 ∧ r.1 ≤ 3 ∧ 1 ≤ r.2.1 ∧ r.2.1 ≤ 20
def Fits (rs : List R) : Prop := ∀ j (h : j < rs.length), Fit rs[j]
theorem fit_of_rowF {r : R} (h : rowF r = 0) : Fit r := by have := rowF_zero h; unfold Fit; omega
/-- A row with nothing. -/
def emptyB (r : R) : Bool := (r.2.2.1 == 0) && (r.2.2.2 == 0)
/-- The code of the rows behind a key (none at the beginning). -/
def scanF : Option Int → List R → Int
  | _, [] => 0
  | p, r :: t => if rowF r ≠ 0 then rowF r else if (p.map fun k => decide (keyR r ≤ k)) = some true then 1 else scanF (some (keyR r)) t
/-- The code of a list of rows. -/
def rowsF (rs : List R) : Int := if 12 < rs.length then 2 else scanF none rs
/-- The key ahead of the k-th row. -/
def prevK (rs : List R) (k : Nat) : Option Int := if k = 0 then none else (rs[k - 1]?).map keyR
theorem prevK_succ (rs : List R) (k : Nat) (h : k < rs.length) : prevK rs (k + 1) = some (keyR rs[k]) := by
  unfold prevK; rw [if_neg (by omega), Nat.add_sub_cancel, List.getElem?_eq_getElem h]; rfl
theorem scanF_at (rs : List R) (k : Nat) (h : k < rs.length) : scanF (prevK rs k) (rs.drop k) = if rowF rs[k] ≠ 0 then rowF rs[k] else if ((prevK rs k).map fun q => decide (keyR rs[k] ≤ q)) = some true then 1 else scanF (prevK rs (k + 1)) (rs.drop (k + 1)) := by
  rw [List.drop_eq_getElem_cons h, scanF, prevK_succ rs k h]
theorem scanF_fits : ∀ (p : Option Int) (rs : List R), scanF p rs = 0 → ∀ j (h : j < rs.length), rowF rs[j] = 0 := by
  intro p rs
  induction rs generalizing p with
  | nil => intro _ j h; simp at h
  | cons r t ih =>
    intro h j hj
    unfold scanF at h
    by_cases h0 : rowF r = 0
    · rw [if_neg (by simpa using h0)] at h
      by_cases h1 : (p.map fun k => decide (keyR r ≤ k)) = some true
      · rw [if_pos h1] at h; cases h
      · rw [if_neg h1] at h
        match j, hj with
        | 0, _ => exact h0
        | j + 1, hj => exact ih _ h j (by simpa using hj)
    · rw [if_pos h0] at h; exact absurd h h0
theorem rowsF_fits {rs : List R} (h : rowsF rs = 0) : Fits rs ∧ rs.length ≤ 12 := by
  unfold rowsF at h
  split at h
  · cases h
  · exact ⟨fun j hj => fit_of_rowF (scanF_fits none rs h j hj), by omega⟩
end Go.Proofs.YtldimfmhbdhbnaaGreat

/-
  Contracts of the laws' helpers over rows.
-/
namespace Go.Proofs.YtldimfmhbdhbnaaGreat
open Go.RowKit

set_option maxRecDepth 1000000 in
theorem infoRow : ∃ i, Tryz.prog.info? 40 = some i ∧ i.zero = some (rv (0, 0, 0, 0)) ∧ i.size = 4 ∧ i.bytes = 32 := ⟨_, rfl, rfl, rfl, rfl⟩

theorem makeRowS (n : Nat) (hn : n ≤ 1099511627776) (W : World) : (Instr.makeSlice 24 (.int .i64 (n : Int)) (.int .i64 (n : Int))).run Tryz.prog W = .ok (.slice (some ⟨W.heap.size, 0, none⟩) n n) (W.alloc (.cells (madeCells (rv (0, 0, 0, 0)).cells (n * 4)) 40)) := by
  obtain ⟨i, hi, hz, hsz, hby⟩ := infoRow
  have hr := run_make (P := Tryz.prog) W 24 40 i (rv (0, 0, 0, 0)) Tryz.underlying24 hi hz .i64 .i64 n n (by omega) (by omega) (by rw [hby]; omega) (by omega)
  simp only [Int.toNat_natCast, hsz] at hr
  exact hr

end Go.Proofs.YtldimfmhbdhbnaaGreat

/-
  Contracts of the model's functions of chapter 2.
-/
namespace Go.Proofs.YtldimfmhbdhbnaaGreat
open Go.RowKit

theorem isB_ff {l s : Int} (h : inB l 0 3 = false) : isB l s = false := by simp [isB, h]
theorem isB_tt {l s : Int} (h : inB l 0 3 = true) : isB l s = inB s 1 20 := by simp [isB, h]

theorem l2Is_b (l s : Int) (b : Bool) (hb : isB l s = b) (w : World) :
    Calls Tryz.prog 90 #[.int .i64 l, .int .i64 s] w fun e w' => e = .returned (.bool b) ∧ w' = w := by
  subst hb
  cases h1 : inB l 0 3
  · rw [isB_ff h1]
    go_enter Tryz.func90, Tryz.ntmps90
    go_wp2_with ((go_at_call 56; refine (l1In_c _ _ _ _).mono ?_; rintro e w' ⟨rfl, rfl⟩; rw [h1]))
    go_ret
    exact ⟨rfl, rfl⟩
  · rw [isB_tt h1]
    have H1 := Lib.hid h1; clear h1
    go_enter Tryz.func90, Tryz.ntmps90
    go_wp2_with fail
    refine (l1In_c _ _ _ _).mono ?_
    rintro e w' ⟨rfl, rfl⟩
    rw [H1.out]
    go_wp2_with fail
    refine (l1In_c _ _ _ _).mono ?_
    rintro e w' ⟨rfl, rfl⟩
    go_wp2
    go_ret
    exact ⟨rfl, rfl⟩
theorem l1Qty_b (v : Int) (b : Bool) (hb : inB v 0 9999 = b) (w : World) : Calls Tryz.prog 91 #[.int .i64 v] w fun e w' => e = .returned (.bool b) ∧ w' = w := by
  subst hb
  exact (l1Qty_c v w).mono fun e w' ⟨h1, h2⟩ => ⟨h1, h2.symm⟩

/-- The four cells of a row lie from off on. -/
def RowAt (w : World) (b off : Nat) (r : R) : Prop :=
  w.cell? ⟨b, off, none⟩ = some (.int .i64 r.1) ∧ w.cell? ⟨b, off + 1, none⟩ = some (.int .i64 r.2.1) ∧ w.cell? ⟨b, off + 2, none⟩ = some (.int .i64 r.2.2.1) ∧ w.cell? ⟨b, off + 3, none⟩ = some (.int .i64 r.2.2.2)

set_option maxRecDepth 100000 in
set_option maxHeartbeats 1000000 in
theorem l2Key_c (b off : Nat) (r : R) (w : World) (h : RowAt w b off r) (h0 : 0 ≤ r.1) (h1 : r.1 ≤ 3) (h2 : 1 ≤ r.2.1) (h3 : r.2.1 ≤ 20) :
    Calls Tryz.prog 46 #[.pointer (some ⟨b, off, none⟩)] w fun e w' => e = .returned (.int .i64 (keyR r)) ∧ ∃ m, w' = w.drewN m := by
  obtain ⟨c0, c1, _, _⟩ := h
  obtain ⟨l, s, q⟩ := r
  simp only at c0 c1 h0 h1 h2 h3
  go_enter Tryz.func46, Tryz.ntmps46
  go_wp2_with fail
  go_quiet (fail)
  go_wp2_with fail
  go_ret
  exact ⟨rfl, _, rfl⟩

set_option maxRecDepth 100000 in
set_option maxHeartbeats 2000000 in
theorem l2Row_c (b off : Nat) (r : R) (w : World) (h : RowAt w b off r) :
    Calls Tryz.prog 52 #[.pointer (some ⟨b, off, none⟩)] w fun e w' => e = .returned (.int .i64 (rowF r)) ∧ ∃ m, w' = w.drewN m := by
  obtain ⟨c0, c1, c2, c3⟩ := h
  obtain ⟨l, s, h, d⟩ := r
  simp only at c0 c1 c2 c3
  cases h1 : isB l s
  · have e : rowF (l, s, h, d) = 3 := by simp [rowF, h1]
    rw [e]
    clear e
    have H1 := Lib.hid h1; clear h1
    go_enter Tryz.func52, Tryz.ntmps52
    go_wp2_with fail
    go_quiet ((go_at_call 90; exact Calls.quiet_of_same (l2Is_b _ _ false H1.out _)))
    go_wp2_with fail
    go_ret
    exact ⟨rfl, _, rfl⟩
  · cases h2 : inB h 0 9999
    · have e : rowF (l, s, h, d) = 3 := by simp [rowF, h1, h2]
      rw [e]
      clear e
      have H1 := Lib.hid h1; have H2 := Lib.hid h2; clear h1 h2
      go_enter Tryz.func52, Tryz.ntmps52
      go_wp2_with fail
      go_quiet (first | (go_at_call 90; exact Calls.quiet_of_same (l2Is_b _ _ true H1.out _)) | (go_at_call 91; exact Calls.quiet_of_same (l1Qty_b _ false H2.out _)))
      go_wp2_with fail
      go_ret
      exact ⟨rfl, _, rfl⟩
    · cases h3 : inB d 0 9999
      · have e : rowF (l, s, h, d) = 3 := by simp [rowF, h1, h2, h3]
        rw [e]
        clear e
        have H1 := Lib.hid h1; have H2 := Lib.hid h2; have H3 := Lib.hid h3; clear h1 h2 h3
        go_enter Tryz.func52, Tryz.ntmps52
        go_wp2_with fail
        go_quiet (first | (go_at_call 90; exact Calls.quiet_of_same (l2Is_b _ _ true H1.out _)) | (go_at_call 91; exact Calls.quiet_of_same (l1Qty_b h true H2.out _)) | (go_at_call 91; exact Calls.quiet_of_same (l1Qty_b d false H3.out _)))
        go_wp2_with fail
        go_ret
        exact ⟨rfl, _, rfl⟩
      · by_cases h4 : h < d
        · have e : rowF (l, s, h, d) = 7 := by simp [rowF, h1, h2, h3, h4]
          rw [e]
          clear e
          have H1 := Lib.hid h1; have H2 := Lib.hid h2; have H3 := Lib.hid h3; clear h1 h2 h3
          go_enter Tryz.func52, Tryz.ntmps52
          go_wp2_with fail
          go_quiet (first | (go_at_call 90; exact Calls.quiet_of_same (l2Is_b _ _ true H1.out _)) | (go_at_call 91; exact Calls.quiet_of_same (l1Qty_b h true H2.out _)) | (go_at_call 91; exact Calls.quiet_of_same (l1Qty_b d true H3.out _)))
          go_wp2_with fail
          go_quiet (fail)
          go_wp2_with fail
          go_ret
          exact ⟨rfl, _, World.drewN_drewN _ _ _⟩
        · have e : rowF (l, s, h, d) = 0 := by simp [rowF, h1, h2, h3, h4]
          rw [e]
          clear e
          have H1 := Lib.hid h1; have H2 := Lib.hid h2; have H3 := Lib.hid h3; clear h1 h2 h3
          go_enter Tryz.func52, Tryz.ntmps52
          go_wp2_with fail
          go_quiet (first | (go_at_call 90; exact Calls.quiet_of_same (l2Is_b _ _ true H1.out _)) | (go_at_call 91; exact Calls.quiet_of_same (l1Qty_b h true H2.out _)) | (go_at_call 91; exact Calls.quiet_of_same (l1Qty_b d true H3.out _)))
          go_wp2_with fail
          go_quiet (fail)
          go_wp2_with fail
          go_ret
          exact ⟨rfl, _, World.drewN_drewN _ _ _⟩

theorem RowAt.of_rd {w : World} {rs : List R} {fp : List Nat} {b off c k : Nat} (h : Rd w 4 (.slice (some ⟨b, off, none⟩) rs.length c) (rcs rs) fp) (hk : k < rs.length) : RowAt w b (off + k * 4) rs[k] := by
  obtain ⟨b', off', e, _, _, h0, h1, h2, h3⟩ := h.row_at hk
  injection e with e; injection e with e1 e2 _; subst e1 e2
  exact ⟨h0, h1, h2, h3⟩

set_option maxRecDepth 100000 in
set_option maxHeartbeats 2000000 in
theorem l2Fault_c (A : Option Addr) (c : Nat) (rs : List R) (w : World) (fp : List Nat) (ha : Rd w 4 (.slice A rs.length c) (rcs rs) fp) :
    Calls Tryz.prog 44 #[.slice A rs.length c] w fun e w' => e = .returned (.int .i64 (rowsF rs)) ∧ ∃ m, w' = w.drewN m := by
  have hmax := ha.len_le
  by_cases hbig : 12 < rs.length
  · have e : rowsF rs = 2 := by simp [rowsF, hbig]
    rw [e]
    clear e
    go_enter Tryz.func44, Tryz.ntmps44
    go_wp2
    go_ret
    exact ⟨rfl, 0, rfl⟩
  · have e : rowsF rs = scanF (prevK rs 0) (rs.drop 0) := by simp [rowsF, hbig, prevK]
    rw [e]
    clear e
    generalize hS : scanF (prevK rs 0) (rs.drop 0) = S
    have HS := Lib.hid hS; clear hS
    go_enter Tryz.func44, Tryz.ntmps44
    go_wp2
    go_loopw [3, 4] (fun i _ wr => ∃ k m : Nat, k ≤ rs.length ∧ i = .int .i64 k ∧ wr = w.drewN m ∧ Hid (scanF (prevK rs k) (rs.drop k) = S) ∧ Hid (∀ j (h : j < rs.length), j < k → rowF rs[j] = 0)) (fun i _ _ => rs.length - (intOf i).toNat)
    case atStart => exact ⟨0, 0, Nat.zero_le _, rfl, rfl, HS.out, fun j _ h => by omega⟩
    case round =>
      obtain ⟨k, m, hk, rfl, rfl, hsc, hok⟩ := hrel
      by_cases hlt : k < rs.length
      · obtain ⟨b, off, hA, _, _, _, _, _, _⟩ := ha.row_at hlt
        subst hA
        have hra : RowAt (w.drewN m) b (off + k * 4) rs[k] := RowAt.of_rd (ha.drewN m) hlt
        have hst := hsc.out
        rw [scanF_at rs k hlt] at hst
        have HST := Lib.hid hst; clear hst
        have HRA := Lib.hid hra; clear hra
        go_wp2_with fail
        refine (l2Row_c b (off + k * 4) rs[k] _ HRA.out).mono ?_
        rintro e w1 ⟨rfl, m1, hw1⟩
        rw [World.drewN_drewN] at hw1
        have hr1 : Rd w1 4 (.slice (some ⟨b, off, none⟩) rs.length c) (rcs rs) fp := by rw [hw1]; exact ha.drewN _
        have HW1 := Lib.hid hw1; clear hw1
        have HR1 := Lib.hid hr1; clear hr1
        by_cases hr0 : rowF rs[k] = 0
        · have hst := HST.out
          rw [if_neg (by simpa using hr0)] at hst
          have hb := rowF_zero hr0
          have hok' : ∀ j (h : j < rs.length), j < k + 1 → rowF rs[j] = 0 := fun j h hj => by
            by_cases e : j = k
            · subst e; exact hr0
            · exact hok.out j h (by omega)
          have HOK := Lib.hid hok'; clear hok'
          rw [hr0]
          have HR0 := Lib.hid hr0; clear hr0
          rcases Nat.eq_zero_or_pos k with h0 | h0
          · subst h0
            rw [if_neg (by simp [prevK])] at hst
            have HS1 := Lib.hid hst; clear hst
            have hd : decide ((0 : Int) < ((0 : Nat) : Int)) = false := by simp
            clear hb
            go_wp2_with fail
            go_quiet (fail)
            go_wp2_with fail
            exact ⟨⟨1, _, by omega, rfl, by rw [HW1.out, World.drewN_drewN], HS1.out, HOK.out⟩, by simp [intOf]; omega⟩
          · obtain ⟨j, rfl⟩ : ∃ j, k = j + 1 := ⟨k - 1, by omega⟩
            have hjl : j < rs.length := by omega
            have hbj := rowF_zero (hok.out j hjl (by omega))
            have hpk : prevK rs (j + 1) = some (keyR rs[j]) := prevK_succ rs j hjl
            rw [hpk] at hst
            have hraj : ∀ n, RowAt (w1.drewN n) b (off + j * 4) rs[j] := fun n => RowAt.of_rd (HR1.out.drewN n) hjl
            have hrak : ∀ n, RowAt (w1.drewN n) b (off + (j + 1) * 4) rs[j + 1] := fun n => RowAt.of_rd (HR1.out.drewN n) hlt
            have HJ := Lib.hid hraj; have HK := Lib.hid hrak; have HBJ := Lib.hid hbj; have HBK := Lib.hid hb
            clear hraj hrak hbj hb hpk
            have i0 : (0 : Int) ≤ ((j : Int) + 1) := by omega
            have i1 : ((j : Int) + 1) < (rs.length : Int) := by omega
            have i2 : (j : Int) < (rs.length : Int) := by omega
            have i3 : (0 : Int) < (j : Int) + 1 := by omega
            have i4 : (j : Int) + 1 - 1 = (j : Int) := by omega
            have hd : decide ((0 : Int) < (j : Int) + 1) = true := by rw [decide_eq_true_eq]; omega
            go_wp2_with fail
            go_quiet ((go_at_call 46; first | with_reducible exact Calls.quiet_of (l2Key_c b (off + (j + 1) * 4) rs[j + 1] _ (HK.out _) HBK.out.1 HBK.out.2.1 HBK.out.2.2.1 HBK.out.2.2.2.1) | with_reducible exact Calls.quiet_of (l2Key_c b (off + j * 4) rs[j] _ (HJ.out _) HBJ.out.1 HBJ.out.2.1 HBJ.out.2.2.1 HBJ.out.2.2.2.1)))
            by_cases hle : keyR rs[j + 1] ≤ keyR rs[j]
            · rw [if_pos (by simp [hle])] at hst
              have HF := Lib.hid hst; clear hst
              go_wp2
              go_ret
              exact ⟨congrArg (fun z => Ending.returned (Value.int .i64 z)) HF.out, _, by rw [HW1.out, World.drewN_drewN]⟩
            · rw [if_neg (by simp; omega)] at hst
              have HF := Lib.hid hst; clear hst
              go_wp2
              exact ⟨⟨j + 1 + 1, _, by omega, by go_num, by rw [HW1.out, World.drewN_drewN], HF.out, HOK.out⟩, by simp [intOf]; omega⟩
        · have hne : (rowF rs[k] != 0) = true := by simpa using hr0
          have hfin := HST.out
          rw [if_pos hr0] at hfin
          have HF := Lib.hid hfin; clear hfin hr0
          go_wp2
          go_ret
          exact ⟨congrArg (fun z => Ending.returned (Value.int .i64 z)) HF.out, _, HW1.out⟩
      · obtain rfl : k = rs.length := by omega
        have hfin := hsc.out
        rw [List.drop_length] at hfin
        have e0 : S = 0 := by rw [← hfin]; cases prevK rs rs.length <;> rfl
        have HF := Lib.hid e0; clear hfin e0
        go_wp2
        go_ret
        exact ⟨congrArg (fun z => Ending.returned (Value.int .i64 z)) HF.out.symm, _, rfl⟩
end Go.Proofs.YtldimfmhbdhbnaaGreat
