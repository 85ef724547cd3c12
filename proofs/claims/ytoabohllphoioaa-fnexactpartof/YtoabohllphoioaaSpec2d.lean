/-
  Contracts of the model's PutRow and CutRows.
-/
import Derived.Test.YtoabohllphoioaaSet2
import Derived.Test.YtoabohllphoioaaMerge2
namespace Go.Proofs.Ytoabohllphoioaa
open Go.RowKit

/-- The struct x holds a code and a slice that reads as the rows rs and lies in blocks of its own from lo on. -/
def RRes (w : World) (lo : Nat) (x : Value) (code : Int) (rs : List R) : Prop :=
  ∃ v fp, x = .agg #[.int .i64 code, v] ∧ Rd w 4 v (rcs rs) fp ∧ NF w fp ∧ From lo fp
theorem RRes.but {w w' : World} {lo : Nat} {x : Value} {code : Int} {rs : List R} {bs : List Nat} (h : RRes w lo x code rs) (hb : But bs w w') (hd : ∀ b ∈ bs, b < lo) : RRes w' lo x code rs := by
  obtain ⟨v, fp, rfl, hr, hn, hf⟩ := h
  have hx : ∀ b ∈ fp, b ∉ bs := fun b hm hb' => by have := hf b hm; have := hd b hb'; omega
  exact ⟨v, fp, rfl, hr.but hb hx, hn.but hb hr.lt hx, hf⟩
theorem RRes.lower {w : World} {lo lo' : Nat} {x : Value} {code : Int} {rs : List R} (h : RRes w lo x code rs) (hl : lo' ≤ lo) : RRes w lo' x code rs := by
  obtain ⟨v, fp, rfl, hr, hn, hf⟩ := h
  exact ⟨v, fp, rfl, hr, hn, hf.mono hl⟩
theorem rres_nil (w : World) (lo : Nat) (code : Int) : RRes w lo (.agg #[.int .i64 code, .slice none 0 0]) code [] := ⟨_, [], rfl, Rd.nil w 4, NF.nil w, From.nil lo⟩
/-- What a call answers that gives a code and rows in memory of its own. -/
def RResPost (w : World) (code : Int) (rs : List R) (e : Ending) (w' : World) : Prop :=
  ∃ x, e = .returned x ∧ RRes w' w.heap.size x code rs ∧ Below w.heap.size w w'
/-- The result's struct is stored at the end, in block g: what is answered. -/
theorem rres_stored {w w1 : World} {g : Nat} {code : Int} {x : Value} {rs : List R} {fq : List Nat} (hb : Below w.heap.size w w1) (hg : w.heap.size ≤ g) (hr : Rd w1 4 x (rcs rs) fq) (hn : NF w1 fq) (hf : From (g + 1) fq) :
    RRes ((w1.setCell ⟨g, 0, none⟩ (.int .i64 code)).setCell ⟨g, 1, none⟩ x) w.heap.size (.agg #[.int .i64 code, x]) code rs ∧
    Below w.heap.size w ((w1.setCell ⟨g, 0, none⟩ (.int .i64 code)).setCell ⟨g, 1, none⟩ x) := by
  have hbut := But.two w1 g 0 1 (.int .i64 code) x
  have hres : RRes w1 (g + 1) (.agg #[.int .i64 code, x]) code rs := ⟨_, fq, rfl, hr, hn, hf⟩
  exact ⟨(hres.but hbut (by simp)).lower (by omega), hb.trans (hbut.below hb.size (by intro b hb; simp at hb; omega))⟩
/-- PutRow's code and rows. -/
def prC (rs : List R) (r : R) : Int := if rowsF rs ≠ 0 then rowsF rs else if rowF r ≠ 0 then rowF r else if 12 < (setR rs r).length then 8 else 0
def prL (rs : List R) (r : R) : List R := if prC rs r = 0 then setR rs r else []

end Go.Proofs.Ytoabohllphoioaa
