/-
  Chapter 4 as plain functions on rows and holds: faults, what is held, what is free.
-/
import Derived.Test.YtfohlopbfanaeaaHold5
import Derived.Test.YtfohlopbfanaeaaSpec2b
namespace Go.Proofs.Ytfohlopbfanaeaa

/-- A book: the time, the rows, the holds. -/
structure Bk where
  now : Int
  rs : List R
  hs : List Hd

def holdB (h : Hd) : Bool := inB h.id 1 50 && isB h.lc h.sk && inB h.qt 1 9999 && inB h.un 0 19998
/-- A hold in range. -/
def FitH (h : Hd) : Prop := 1 ≤ h.id ∧ h.id ≤ 50 ∧ 0 ≤ h.lc ∧ h.lc ≤ 3 ∧ 1 ≤ h.sk ∧ h.sk ≤ 20 ∧ 1 ≤ h.qt ∧ h.qt ≤ 9999 ∧ 0 ≤ h.un ∧ h.un ≤ 19998
theorem holdB_iff {h : Hd} : holdB h = true ↔ FitH h := by
  unfold holdB FitH isB
  simp only [Bool.and_eq_true, inB_true]
  omega
/-- The code of the holds behind an id (none at the beginning). -/
def hscanF : Option Int → List Hd → Int
  | _, [] => 0
  | p, h :: t => if holdB h = false then 3 else if (p.map fun k => decide (h.id ≤ k)) = some true then 1 else hscanF (some h.id) t
def holdsF (hs : List Hd) : Int := if 6 < hs.length then 2 else hscanF none hs
/-- The id ahead of the k-th hold. -/
def prevH (hs : List Hd) (k : Nat) : Option Int := if k = 0 then none else (hs[k - 1]?).map Hd.id
theorem prevH_succ (hs : List Hd) (k : Nat) (h : k < hs.length) : prevH hs (k + 1) = some hs[k].id := by
  unfold prevH; rw [if_neg (by omega), Nat.add_sub_cancel, List.getElem?_eq_getElem h]; rfl
theorem hscanF_at (hs : List Hd) (k : Nat) (h : k < hs.length) : hscanF (prevH hs k) (hs.drop k) = if holdB hs[k] = false then 3 else if ((prevH hs k).map fun q => decide (hs[k].id ≤ q)) = some true then 1 else hscanF (prevH hs (k + 1)) (hs.drop (k + 1)) := by
  rw [List.drop_eq_getElem_cons h, hscanF, prevH_succ hs k h]
theorem hscanF_nil (p : Option Int) : hscanF p [] = 0 := by cases p <;> rfl
theorem hscanF_fits : ∀ (p : Option Int) (hs : List Hd), hscanF p hs = 0 → ∀ x ∈ hs, FitH x := by
  intro p hs
  induction hs generalizing p with
  | nil => intro _ x h; cases h
  | cons r t ih =>
    intro h x hx
    unfold hscanF at h
    by_cases h0 : holdB r = false
    · rw [if_pos h0] at h; cases h
    · rw [if_neg h0] at h
      by_cases h1 : (p.map fun k => decide (r.id ≤ k)) = some true
      · rw [if_pos h1] at h; cases h
      · rw [if_neg h1] at h
        rcases List.mem_cons.1 hx with rfl | hx
        · exact holdB_iff.1 (by simpa using h0)
        · exact ih _ h x hx
theorem holdsF_fits {hs : List Hd} (h : holdsF hs = 0) : (∀ x ∈ hs, FitH x) ∧ hs.length ≤ 6 := by
  unfold holdsF at h
  split at h
  · cases h
  · exact ⟨hscanF_fits none hs h, by omega⟩
/-- What all holds of a place and a thing have together. -/
def heldS (hs : List Hd) (l s : Int) : Int := hs.foldl (fun n h => if h.lc = l ∧ h.sk = s then n + h.qt else n) 0
theorem heldS_succ (hs : List Hd) (l s : Int) (k : Nat) (h : k < hs.length) : heldS (hs.take (k + 1)) l s = if hs[k].lc = l ∧ hs[k].sk = s then heldS (hs.take k) l s + hs[k].qt else heldS (hs.take k) l s := by
  unfold heldS
  rw [List.take_succ_eq_append_getElem h, List.foldl_append]
  rfl
theorem heldS_bd (hs : List Hd) (l s : Int) (hf : ∀ x ∈ hs, FitH x) (k : Nat) (hk : k ≤ hs.length) : 0 ≤ heldS (hs.take k) l s ∧ heldS (hs.take k) l s ≤ 9999 * k := by
  induction k with
  | zero => simp [heldS]
  | succ k ih =>
    have ih := ih (by omega)
    have := hf hs[k] (List.getElem_mem (by omega))
    unfold FitH at this
    rw [heldS_succ hs l s k (by omega)]
    split <;> omega
/-- Rows and holds match. -/
def rowsM (rs : List R) (hs : List Hd) : Bool := rs.all fun r => r.2.2.2 == heldS hs r.1 r.2.1
def holdsM (rs : List R) (hs : List Hd) : Bool := hs.all fun h => (getR rs h.lc h.sk).isSome
def matchF (rs : List R) (hs : List Hd) : Int := if rowsM rs hs then (if holdsM rs hs then 0 else 4) else 7
/-- The code of a book. -/
def bookF (b : Bk) : Int := if inB b.now 0 9999 then (if rowsF b.rs = 0 then (if holdsF b.hs = 0 then matchF b.rs b.hs else holdsF b.hs) else rowsF b.rs) else 3
theorem all_step {α : Type} (p : α → Bool) (l : List α) (k : Nat) (h : k < l.length) : (l.drop k).all p = (p l[k] && (l.drop (k + 1)).all p) := by
  rw [List.drop_eq_getElem_cons h]; rfl
theorem bookF_zero {b : Bk} (h : bookF b = 0) : 0 ≤ b.now ∧ b.now ≤ 9999 ∧ rowsF b.rs = 0 ∧ holdsF b.hs = 0 ∧ rowsM b.rs b.hs = true ∧ holdsM b.rs b.hs = true := by
  unfold bookF at h
  split at h
  · rename_i h1
    rw [inB_true] at h1
    split at h
    · rename_i h2
      split at h
      · rename_i h3
        unfold matchF at h
        split at h
        · rename_i h4
          split at h
          · rename_i h5; exact ⟨h1.1, h1.2, h2, h3, h4, h5⟩
          · cases h
        · cases h
      · rename_i h3; exact absurd h h3
    · rename_i h2; exact absurd h h2
  · cases h
end Go.Proofs.Ytfohlopbfanaeaa
