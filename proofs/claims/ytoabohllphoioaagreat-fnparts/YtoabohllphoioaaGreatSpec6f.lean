/-
  The model's functions of chapter 6, sixth part: rows laid into files, the walk.
-/
import Derived.Test.YtoabohllphoioaaGreatSpec6e
import Derived.Test.YtoabohllphoioaaGreatG23
namespace Go.Proofs.YtoabohllphoioaaGreat
open Go.RowKit

/-- What l6Of makes: four files that are the call's own. -/
def OfPost (w : World) (rs : List R) (m : Int) (e : Ending) (w' : World) : Prop :=
  ∃ (g B : Nat) (vs : List Value), e = .returned (plv m (.slice (some ⟨g, 0, none⟩) 4 4)) ∧ w'.heap[g]? = some (.cells vs.toArray 24 (0, 0)) ∧ OwnF w' B vs (filesOf rs) 32 ∧ w.heap.size ≤ g ∧ g < B ∧ Below w.heap.size w w'

theorem OfPost.reads {w' : World} {rs : List R} {m : Int} {g B : Nat} {vs : List Value} (HG : w'.heap[g]? = some (.cells vs.toArray 24 (0, 0))) (ho : OwnF w' B vs (filesOf rs) 32) (hgB : g < B) :
    ∃ fp, PlAt w' ⟨filesOf rs, m⟩ (.slice (some ⟨g, 0, none⟩) 4 4) fp ∧ NF w' fp ∧ From g fp ∧ fp.Nodup := by
  obtain ⟨fs, ha3, hn3, hf3, hd3⟩ := ho.reads
  have hvl : vs.length = 4 := by rw [ho.len, filesOf_len]
  have hfl : (vs.map fun v => [v]).flatten = vs := by
    clear ho ha3 HG hvl
    induction vs with
    | nil => rfl
    | cons a t ih => rw [List.map_cons, List.flatten_cons, ih]; rfl
  have hrd : Rd w' 1 (.slice (some ⟨g, 0, none⟩) 4 4) (vs.map fun v => [v]).flatten [g] := by
    refine ⟨_, 4, 4, rfl, by rw [hfl, hvl], by unfold maxLen; omega, by omega, .inr ⟨_, 0, rfl, rfl, heap_lt HG, fun i u hu => ?_⟩⟩
    rw [hfl] at hu
    rw [Nat.zero_add, cell_of_heap HG, List.getElem?_toArray]
    exact hu
  refine ⟨[g] ++ fs.flatten, ⟨⟨_, _, fs, hrd, ha3, rfl⟩⟩, fun x hx i => ?_, fun x hx => ?_, List.nodup_append.2 ⟨by simp, hd3, fun a ha b hb => ?_⟩⟩
  · rcases List.mem_append.1 hx with hx | hx
    · simp at hx; subst hx; exact frozen_of_heap HG
    · exact hn3 x hx i
  · rcases List.mem_append.1 hx with hx | hx
    · simp at hx; omega
    · have := hf3 x hx; omega
  · have := hf3 b hb; simp at ha; omega
theorem OfPost.copy {w w' : World} {rs : List R} {m : Int} {e : Ending} (h : OfPost w rs m e w') : CopyPlaces w ⟨filesOf rs, m⟩ e w' := by
  obtain ⟨g, B, vs, rfl, HG, ho, hg, hgB, hb⟩ := h
  obtain ⟨fp, k1, k2, k3, k4⟩ := OfPost.reads (m := m) HG ho hgB
  exact ⟨_, fp, rfl, k1, k2, ⟨k3.mono hg, k4⟩, hb⟩

end Go.Proofs.YtoabohllphoioaaGreat
