/-
  Chapter 3 as plain functions: operations as seven integers, their fault, their text.
-/
import Derived.Test.YtldimfmhbdhbnaaGreatG1
import Derived.Test.YtldimfmhbdhbnaaGreatProg
import Derived.Test.YtldimfmhbdhbnaaGreatG26
namespace Go.Proofs.YtldimfmhbdhbnaaGreat

/-- An operation: Kind, Req, Loc, To, Sku, Qty, Hold. -/
structure O where
  k : Int
  rq : Int
  lc : Int
  tt : Int
  sk : Int
  qt : Int
  hd : Int

def placedB (k : Int) : Bool := k == 1 || k == 2 || k == 3 || k == 6
def heldB (k : Int) : Bool := k == 3 || k == 4 || k == 5
def toB (k : Int) : Bool := k == 3 || k == 6
def formB (o : O) : Bool := inB o.k 1 7 && (placedB o.k || o.lc == 0 && o.sk == 0) && (placedB o.k || o.k == 7 || o.qt == 0) && (heldB o.k || o.hd == 0) && (toB o.k || o.tt == 0) && (o.k != 7 || o.rq == 0)
def rangeB (o : O) : Bool :=
  if inB o.rq 0 999 then
    (if o.k = 1 ∨ o.k = 2 then isB o.lc o.sk && inB o.qt 1 9999
     else if o.k = 3 then isB o.lc o.sk && inB o.qt 1 9999 && inB o.hd 1 50 && inB o.tt 1 999
     else if o.k = 6 then isB o.lc o.sk && isB o.tt o.sk && inB o.qt 1 9999
     else if o.k = 7 then inB o.qt 1 999
     else inB o.hd 1 50)
  else false
/-- The code of an operation. -/
def opF (o : O) : Int := if formB o then (if rangeB o then (if o.k = 6 ∧ o.tt = o.lc then 6 else 0) else 3) else 1
/-- Its numbers in their order. -/
def opL (o : O) : List Int := [o.k, o.rq, o.lc, o.tt, o.sk, o.qt, o.hd]
theorem isB_iff {l s : Int} : isB l s = true ↔ (0 ≤ l ∧ l ≤ 3) ∧ 1 ≤ s ∧ s ≤ 20 := by unfold isB; rw [Bool.and_eq_true, inB_true, inB_true]
/-- All numbers of an operation with no fault are small. -/
theorem opF_zero {o : O} (h : opF o = 0) : (1 ≤ o.k ∧ o.k ≤ 7) ∧ (0 ≤ o.rq ∧ o.rq ≤ 999) ∧ (0 ≤ o.lc ∧ o.lc ≤ 3) ∧ (0 ≤ o.tt ∧ o.tt ≤ 999) ∧ (0 ≤ o.sk ∧ o.sk ≤ 20) ∧ (0 ≤ o.qt ∧ o.qt ≤ 9999) ∧ (0 ≤ o.hd ∧ o.hd ≤ 50) := by
  obtain ⟨k, rq, lc, tt, sk, qt, hd⟩ := o
  unfold opF at h
  cases hf : formB ⟨k, rq, lc, tt, sk, qt, hd⟩
  · rw [hf] at h; simp at h
  · cases hr : rangeB ⟨k, rq, lc, tt, sk, qt, hd⟩
    · rw [hf, hr] at h; simp at h
    · clear h
      unfold formB at hf
      unfold rangeB at hr
      simp only at hf hr ⊢
      split at hr
      · rename_i hq
        rw [inB_true] at hq
        simp only [Bool.and_eq_true, inB_true] at hf
        obtain ⟨⟨⟨⟨⟨hk, h1⟩, h2⟩, h3⟩, h4⟩, h5⟩ := hf
        have hk7 : k = 1 ∨ k = 2 ∨ k = 3 ∨ k = 4 ∨ k = 5 ∨ k = 6 ∨ k = 7 := by omega
        rcases hk7 with rfl | rfl | rfl | rfl | rfl | rfl | rfl
        all_goals
          simp [placedB, heldB, toB] at h1 h2 h3 h4 h5
          simp [isB_iff, inB_true] at hr
          omega
      · cases hr
end Go.Proofs.YtldimfmhbdhbnaaGreat

/-
  Operations in memory: seven cells.
-/
namespace Go.Proofs.YtldimfmhbdhbnaaGreat
open Go.RowKit

/-- The seven cells of an operation lie from off on. -/
def OpAt (w : World) (b off : Nat) (o : O) : Prop :=
  b < w.heap.size ∧ w.cell? ⟨b, off, none⟩ = some (.int .i64 o.k) ∧ w.cell? ⟨b, off + 1, none⟩ = some (.int .i64 o.rq) ∧ w.cell? ⟨b, off + 2, none⟩ = some (.int .i64 o.lc) ∧ w.cell? ⟨b, off + 3, none⟩ = some (.int .i64 o.tt) ∧
    w.cell? ⟨b, off + 4, none⟩ = some (.int .i64 o.sk) ∧ w.cell? ⟨b, off + 5, none⟩ = some (.int .i64 o.qt) ∧ w.cell? ⟨b, off + 6, none⟩ = some (.int .i64 o.hd)
theorem OpAt.below {w w' : World} {b off : Nat} {o : O} (h : OpAt w b off o) (hb : Below w.heap.size w w') : OpAt w' b off o := by
  obtain ⟨h0, h1, h2, h3, h4, h5, h6, h7⟩ := h
  exact ⟨Nat.lt_of_lt_of_le h0 hb.size, (hb.cell (p := ⟨b, _, none⟩) h0).trans h1, (hb.cell (p := ⟨b, _, none⟩) h0).trans h2, (hb.cell (p := ⟨b, _, none⟩) h0).trans h3, (hb.cell (p := ⟨b, _, none⟩) h0).trans h4, (hb.cell (p := ⟨b, _, none⟩) h0).trans h5, (hb.cell (p := ⟨b, _, none⟩) h0).trans h6, (hb.cell (p := ⟨b, _, none⟩) h0).trans h7⟩
/-- An operation as a value. -/
abbrev ov (o : O) : Value := .agg #[.int .i64 o.k, .int .i64 o.rq, .int .i64 o.lc, .int .i64 o.tt, .int .i64 o.sk, .int .i64 o.qt, .int .i64 o.hd]
end Go.Proofs.YtldimfmhbdhbnaaGreat
