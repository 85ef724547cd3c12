/-
  Contracts of the model's PutRow and CutRows.
-/
import Derived.Test.YtoabohllphoioaaGreatG14
import Derived.Test.YtoabohllphoioaaGreatG24
namespace Go.Proofs.YtoabohllphoioaaGreat
open Go.RowKit

/-- The struct x holds a code and a slice that reads as the rows rs and lies in blocks of its own from lo on. -/
def RRes (w : World) (lo : Nat) (x : Value) (code : Int) (rs : List R) : Prop :=
  ∃ v fp, x = .agg #[.int .i64 code, v] ∧ Rd w 4 v (rcs rs) fp ∧ NF w fp ∧ From lo fp
theorem RRes.but {w w' : World} {lo : Nat} {x : Value} {code : Int} {rs : List R} {bs : List Nat} (h : RRes w lo x code rs) (hb : But bs w w') (hd : ∀ b ∈ bs, b < lo) : RRes w' lo x code rs := by
  obtain ⟨v, fp, rfl, hr, hn, hf⟩ := h
  have hx : ∀ b ∈ fp, b ∉ bs := fun b hm hb' => by have := hf b hm; have := hd b hb'; omega
  exact ⟨v, fp, rfl, hr.but hb hx, hn.but hb hr.lt hx, hf⟩
theorem RRes.lower {w : World} {lo lo' : Nat} {x : Value} {code : Int} {rs : List R} (h : RRes w lo x code rs) (hl : lo' ≤ lo) : RRes w lo' x code rs := by
  obtain ⟨v, fp, rfl, hr, hn, hf⟩ := h
  exact ⟨v, fp, rfl, hr, hn, hf.mono hl⟩
theorem rres_nil (w : World) (lo : Nat) (code : Int) : RRes w lo (.agg #[.int .i64 code, .slice none 0 0]) code [] := ⟨_, [], rfl, Rd.nil w 4, NF.nil w, From.nil lo⟩
/-- What a call answers that gives a code and rows in memory of its own. -/
def RResPost (w : World) (code : Int) (rs : List R) (e : Ending) (w' : World) : Prop :=
  ∃ x, e = .returned x ∧ RRes w' w.heap.size x code rs ∧ Below w.heap.size w w'
/-- The result's struct is stored at the end, in block g: what is answered. -/
theorem rres_stored {w w1 : World} {g : Nat} {code : Int} {x : Value} {rs : List R} {fq : List Nat} (hb : Below w.heap.size w w1) (hg : w.heap.size ≤ g) (hr : Rd w1 4 x (rcs rs) fq) (hn : NF w1 fq) (hf : From (g + 1) fq) :
    RRes ((w1.setCell ⟨g, 0, none⟩ (.int .i64 code)).setCell ⟨g, 1, none⟩ x) w.heap.size (.agg #[.int .i64 code, x]) code rs ∧
    Below w.heap.size w ((w1.setCell ⟨g, 0, none⟩ (.int .i64 code)).setCell ⟨g, 1, none⟩ x) := by
  have hbut := But.two w1 g 0 1 (.int .i64 code) x
  have hres : RRes w1 (g + 1) (.agg #[.int .i64 code, x]) code rs := ⟨_, fq, rfl, hr, hn, hf⟩
  exact ⟨(hres.but hbut (by simp)).lower (by omega), hb.trans (hbut.below hb.size (by intro b hb; simp at hb; omega))⟩
/-- PutRow's code and rows. -/
def prC (rs : List R) (r : R) : Int := if rowsF rs ≠ 0 then rowsF rs else if rowF r ≠ 0 then rowF r else if 12 < (setR rs r).length then 8 else 0
def prL (rs : List R) (r : R) : List R := if prC rs r = 0 then setR rs r else []

end Go.Proofs.YtoabohllphoioaaGreat

/-
  Contract of the model's CutRows.
-/
namespace Go.Proofs.YtoabohllphoioaaGreat
open Go.RowKit

/-- CutRows's code and rows. -/
def crC (rs : List R) (f t : Int) : Int := if rowsF rs ≠ 0 then rowsF rs else if inB f 0 100 && inB t f 100 then 0 else 3
def crL (rs : List R) (f t : Int) : List R := if crC rs f t = 0 then cutR rs f t else []

end Go.Proofs.YtoabohllphoioaaGreat

/-
  Contract of the model's JoinRows.
-/
namespace Go.Proofs.YtoabohllphoioaaGreat
open Go.RowKit

theorem mergeGo_length (r : R) (rs : List R) : (mergeGo r false rs).length ≤ rs.length + 1 ∧ (mergeGo r true rs).length ≤ rs.length := by
  induction rs with
  | nil => simp [mergeGo]
  | cons x t ih =>
    unfold mergeGo
    by_cases h : keyR r < keyR x
    · simp [h]; omega
    · simp [h]; omega
theorem mergeGo_mem {r x : R} {rs : List R} {done : Bool} (h : x ∈ mergeGo r done rs) : x = r ∨ x ∈ rs := by
  induction rs generalizing done with
  | nil => unfold mergeGo at h; split at h <;> simp at h; exact .inl h
  | cons y t ih =>
    unfold mergeGo at h
    simp only [List.mem_append] at h
    rcases h with (h | h) | h
    · split at h <;> simp at h; exact .inl h
    · simp at h; simp [h]
    · rcases ih h with h | h
      · exact .inl h
      · simp [h]
theorem fits_iff {rs : List R} : Fits rs ↔ ∀ x ∈ rs, Fit x := by
  constructor
  · intro h x hx
    obtain ⟨j, hj, rfl⟩ := List.getElem_of_mem hx
    exact h j hj
  · intro h j hj; exact h _ (List.getElem_mem hj)
theorem fits_merge {rs : List R} {r : R} (h : Fits rs) (hr : Fit r) : Fits (mergeGo r false rs) := by
  rw [fits_iff] at h ⊢
  intro x hx
  rcases mergeGo_mem hx with rfl | hx
  · exact hr
  · exact h x hx

/-- What JoinRows makes of the rows of b that follow: none where one of them is taken. -/
def joinGo (a : List R) : List R → List R → Option (List R)
  | out, [] => some out
  | out, x :: t => if (getR a x.1 x.2.1).isSome then none else joinGo a (mergeGo x false out) t
theorem joinGo_at (a out b : List R) (k : Nat) (h : k < b.length) : joinGo a out (b.drop k) = if (getR a b[k].1 b[k].2.1).isSome then none else joinGo a (mergeGo b[k] false out) (b.drop (k + 1)) := by
  rw [List.drop_eq_getElem_cons h]; rfl
/-- JoinRows's code and rows. -/
def jC : Option (List R) → Int
  | none => 6
  | some o => if 12 < o.length then 2 else 0
def jrC (a b : List R) : Int := if rowsF a ≠ 0 then rowsF a else if rowsF b ≠ 0 then rowsF b else jC (joinGo a a b)
def jrL (a b : List R) : List R := if jrC a b = 0 then (joinGo a a b).getD [] else []

end Go.Proofs.YtoabohllphoioaaGreat
