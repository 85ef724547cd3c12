/-
  Rows laid into files, plainly; what is answered that holds places.
-/
import Derived.Test.YtldimfmhbdhbnaaG40
import Derived.Test.YtldimfmhbdhbnaaG20
namespace Go.Proofs.Ytldimfmhbdhbnaa
open Go.RowKit

/-- The files of a list of rows. -/
def filesOf (rs : List R) : List (List R) := (List.range 4).map fun (i : Nat) => rs.filter (solidAt i)
theorem filesOf_len (rs : List R) : (filesOf rs).length = 4 := by simp [filesOf]
theorem filesOf_get (rs : List R) (i : Nat) (h : i < (filesOf rs).length) : (filesOf rs)[i] = rs.filter (solidAt i) := by simp [filesOf]
def poC (rs : List R) (mark : Int) : Int := if rowsF rs = 0 then (if inB mark 0 999 then 0 else 3) else rowsF rs
def poL (rs : List R) (mark : Int) : Pl := if poC rs mark = 0 then ⟨filesOf rs, mark⟩ else ⟨[], 0⟩
theorem filesOf_fsz (rs : List R) (h : rs.length ≤ 12) : fsz (filesOf rs) ≤ 1048576 := by
  have each : ∀ (i : Nat), (rs.filter (solidAt i)).length ≤ 12 := fun i => Nat.le_trans (List.length_filter_le _ _) h
  have h0 := each 0; have h1 := each 1; have h2 := each 2; have h3 := each 3
  have e : totS (filesOf rs) = (rs.filter (solidAt (0 : Nat))).length + ((rs.filter (solidAt (1 : Nat))).length + ((rs.filter (solidAt (2 : Nat))).length + ((rs.filter (solidAt (3 : Nat))).length + 0))) := rfl
  unfold fsz; rw [filesOf_len, e]; omega
theorem poL_sz (rs : List R) (mark : Int) : plsz (poL rs mark) ≤ 1048576 := by
  unfold poL
  split
  · rename_i h
    have h0 : rowsF rs = 0 := by
      unfold poC at h
      split at h
      · assumption
      · exact h
    exact filesOf_fsz rs (rowsF_fits h0).2
  · show fsz [] ≤ 1048576
    unfold fsz totS cntL; simp
/-- What a call answers that gives a code and places in memory of its own. -/
def PResPost (w : World) (code : Int) (p : Pl) (e : Ending) (w' : World) : Prop :=
  ∃ vf fp, e = .returned (plrv code p.mark vf) ∧ PlAt w' p vf fp ∧ NF w' fp ∧ (From w.heap.size fp ∧ fp.Nodup) ∧ Below w.heap.size w w'
theorem PlAt.none_ (w : World) : PlAt w ⟨[], 0⟩ (.slice none 0 0) [] := ⟨Sl.nil w⟩
theorem pres_none {w w' : World} {code : Int} (hb : Below w.heap.size w w') : PResPost w code ⟨[], 0⟩ (.returned (plrv code 0 (.slice none 0 0))) w' := ⟨_, [], rfl, PlAt.none_ w', NF.nil _, ⟨From.nil _, by simp⟩, hb⟩
/-- The blocks of the answer: three stores into block g. -/
theorem pres_stored {w w1 : World} {g : Nat} {code : Int} {p : Pl} {vf : Value} {fp : List Nat} (hb : Below w.heap.size w w1) (hg : w.heap.size ≤ g) (hr : PlAt w1 p vf fp) (hn : NF w1 fp) (hf : From (g + 1) fp) (hd : fp.Nodup) :
    PResPost w code p (.returned (plrv code p.mark vf)) (((w1.setCell ⟨g, 0, none⟩ (.int .i64 code)).setCell ⟨g, 1, none⟩ vf).setCell ⟨g, 2, none⟩ (.int .i64 p.mark)) := by
  have hbut := (((But.refl [g] w1).setCell (p := ⟨g, 0, none⟩) (by simp) (.int .i64 code)).setCell (p := ⟨g, 1, none⟩) (by simp) vf).setCell (p := ⟨g, 2, none⟩) (by simp) (.int .i64 p.mark)
  have hx : ∀ b ∈ fp, b ∉ [g] := fun b hm h => by have := hf b hm; simp at h; omega
  exact ⟨_, fp, rfl, hr.but hbut hx, hn.but hbut hr.lt hx, ⟨hf.mono (by omega), hd⟩, hb.trans (hbut.below hb.size (by intro b hb; simp at hb; omega))⟩
theorem three_at6 {w : World} {g : Nat} {u v x : Value} {t : TypeId} (h : w.heap[g]? = some (.cells #[u, v, x] t (0, 0))) :
    w.cell? ⟨g, 0, none⟩ = some u ∧ w.cell? ⟨g, 1, none⟩ = some v ∧ w.cell? ⟨g, 2, none⟩ = some x ∧ w.frozen? ⟨g, 0, none⟩ = false ∧ w.frozen? ⟨g, 1, none⟩ = false ∧ w.frozen? ⟨g, 2, none⟩ = false ∧ g < w.heap.size :=
  ⟨cell_of_heap h, cell_of_heap h, cell_of_heap h, frozen_of_heap h, frozen_of_heap h, frozen_of_heap h, heap_lt h⟩
end Go.Proofs.Ytldimfmhbdhbnaa
