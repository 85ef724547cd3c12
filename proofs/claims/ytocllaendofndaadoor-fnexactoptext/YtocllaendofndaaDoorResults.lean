/-
  Contracts of the laws' helpers over the results that hold a slice: comparison, marks, check.
-/
import Derived.Test.YtocllaendofndaaDoorBytes
import Derived.Test.YtocllaendofndaaDoorInt64s
namespace Go.Proofs.YtocllaendofndaaDoor
open Go.RowKit

/-- The struct r holds a code and a slice of integers of kind K that reads as bs and lies in blocks of its own from lo on. -/
def SRes (K : IntKind) (w : World) (lo : Nat) (r : Value) (code : Int) (bs : List Int) : Prop :=
  ∃ v fp, r = .agg #[.int .i64 code, v] ∧ Rd w 1 v (cellsOf K bs) fp ∧ NF w fp ∧ From lo fp

theorem SRes.but {K : IntKind} {w w' : World} {lo : Nat} {r : Value} {code : Int} {zs : List Int} {bs : List Nat} (h : SRes K w lo r code zs) (hb : But bs w w') (hd : ∀ b ∈ bs, b < lo) : SRes K w' lo r code zs := by
  obtain ⟨v, fp, rfl, hr, hn, hf⟩ := h
  have hx : ∀ b ∈ fp, b ∉ bs := fun b hm hb' => by have := hf b hm; have := hd b hb'; omega
  exact ⟨v, fp, rfl, hr.but hb hx, hn.but hb hr.lt hx, hf⟩
theorem SRes.below {K : IntKind} {w w' : World} {lo : Nat} {r : Value} {code : Int} {zs : List Int} (h : SRes K w lo r code zs) (hb : Below w.heap.size w w') : SRes K w' lo r code zs :=
  h.but (But.of_below hb []) (fun _ hm => by cases hm)
theorem SRes.lower {K : IntKind} {w : World} {lo lo' : Nat} {r : Value} {code : Int} {zs : List Int} (h : SRes K w lo r code zs) (hl : lo' ≤ lo) : SRes K w lo' r code zs := by
  obtain ⟨v, fp, rfl, hr, hn, hf⟩ := h
  exact ⟨v, fp, rfl, hr, hn, hf.mono hl⟩

end Go.Proofs.YtocllaendofndaaDoor
