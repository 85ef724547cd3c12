/-
  An argument that is a row of four integers, or a slice of such rows, as the row's form gives it, read by my own words.
-/
import Derived.Test.YtldimfmhbdhbnaaGreatProg
import Derived.Test.YtldimfmhbdhbnaaGreatG3
import Derived.Test.YtldimfmhbdhbnaaGreatG1
import Derived.Deep.Slices
import Derived.Lib.SmallJoins
import Derived.Test.YtldimfmhbdhbnaaGreatG40
import Derived.Test.YtldimfmhbdhbnaaGreatG20
namespace Go.Proofs.YtldimfmhbdhbnaaGreat
open Go.RowKit

/-- Every field fits its kind. -/
def WfR (r : R) : Prop := (Lit.int .i64 r.1).wf = true ∧ (Lit.int .i64 r.2.1).wf = true ∧ (Lit.int .i64 r.2.2.1).wf = true ∧ (Lit.int .i64 r.2.2.2).wf = true

/-- The four fields of a row: one integer each, one behind the other. -/
structure Four (P : Program) (e : TypeId) (f0 f1 f2 f3 : Field) : Prop where
  he : P.underlying e = some (.struct #[f0, f1, f2, f3])
  ce : P.cellsOf e = 4
  o0 : f0.offset = 0
  o1 : f1.offset = 1
  o2 : f2.offset = 2
  o3 : f3.offset = 3
  u0 : P.underlying f0.type = some (.int .i64)
  u1 : P.underlying f1.type = some (.int .i64)
  u2 : P.underlying f2.type = some (.int .i64)
  u3 : P.underlying f3.type = some (.int .i64)
  c0 : P.cellsOf f0.type = 1
  c1 : P.cellsOf f1.type = 1
  c2 : P.cellsOf f2.type = 1
  c3 : P.cellsOf f3.type = 1

section
variable {H : Type} {enc : TypeId × Value → H} {P : Program} {w : World} {base : Nat} {spare : Nat → Bool} {held : Bool} {e : TypeId} {f0 f1 f2 f3 : Field}

theorem four_cells (F : Four P e f0 f1 f2 f3) {n : Nat} {cs : List Value} {x : DataW H × List MemPlace} (h : DataW.trod enc P w base spare held n e cs = some x) : ∃ r : R, cs = rc r ∧ WfR r := by
  obtain ⟨y0, y1, y2, y3, m, _, hlen, h0, h1, h2, h3⟩ := Joins.trod_struct4 F.he h
  rw [F.ce] at hlen
  match cs, hlen with
  | [v0, v1, v2, v3], _ =>
    simp only [F.o0, F.o1, F.o2, F.o3, F.c0, F.c1, F.c2, F.c3] at h0 h1 h2 h3
    obtain ⟨a0, e0, _, w0⟩ := DataW.trod_int F.u0 h0
    obtain ⟨a1, e1, _, w1⟩ := DataW.trod_int F.u1 h1
    obtain ⟨a2, e2, _, w2⟩ := DataW.trod_int F.u2 h2
    obtain ⟨a3, e3, _, w3⟩ := DataW.trod_int F.u3 h3
    simp at e0 e1 e2 e3
    exact ⟨(a0, a1, a2, a3), by simp [rc, e0, e1, e2, e3], w0, w1, w2, w3⟩

/-- A slice of rows that came in. -/
theorem open_rows (F : Four P e f0 f1 f2 f3) {t : TypeId} (ht : P.underlying t = some (.slice e)) {fuel : Nat} {a : Option Addr} {len cap : Nat} {x : DataW H × List MemPlace}
    (h : DataW.trod enc P w base spare held fuel t [.slice a len cap] = some x) : ∃ rs : List R, rs.length = len ∧ (∃ fp, Rd w 4 (.slice a len cap) (rcs rs) fp) ∧ ∀ r ∈ rs, WfR r := by
  rcases Deep.open_slice ht h with ⟨hcs, _⟩ | ⟨ad, len', cap', m, n, D, Pl, hcs, hb, hl, hm, hmm, _, hx⟩
  · simp at hcs
    obtain ⟨rfl, rfl, rfl⟩ := hcs
    exact ⟨[], rfl, ⟨[], Rd.nil w 4⟩, by simp⟩
  · simp at hcs
    obtain ⟨rfl, rfl, rfl⟩ := hcs
    have hlm : len ≤ m := by rw [hmm]; split <;> omega
    have each : ∀ i, i < len → ∃ r : R, (∀ j u, (rc r)[j]? = some u → w.cell? (ad.add (i * 4 + j)) = some u) ∧ WfR r := by
      intro i hi
      obtain ⟨cs', h1, h2⟩ := hx i (by omega)
      rw [F.ce] at h1
      obtain ⟨r, rfl, hw⟩ := four_cells F h2
      obtain ⟨_, hlen, hcell⟩ := World.cells?_some h1
      refine ⟨r, fun j u hu => ?_, hw⟩
      have hj : j < 4 := by
        have := (List.getElem?_eq_some_iff.1 hu).1
        simpa [rc] using this
      have := hcell j hj
      rw [Deep.add_add, hu] at this
      exact this
    obtain ⟨q, hq⟩ := Deep.choose_lt each
    have hget : ∀ i, i < len → (rcs ((List.range len).map q)).length = len * 4 := fun _ _ => by rw [rcs_length]; simp
    refine ⟨(List.range len).map q, by simp, ?_, ?_⟩
    · rcases Nat.eq_zero_or_pos len with h0 | h0
      · subst h0
        exact ⟨[], _, 0, cap, rfl, by simp [rcs], by omega, by omega, .inl ⟨rfl, rfl⟩⟩
      · have hc0 := (hq 0 h0).1 0 _ rfl
        obtain ⟨b, off, spot⟩ := ad
        have hs : spot = none := by simpa [Addr.add] using World.cell?_spot hc0
        subst hs
        have hbl : b < w.heap.size := by simpa [Addr.add] using cell_lt hc0
        refine ⟨[b], _, len, cap, rfl, by rw [rcs_length]; simp, by omega, hl, .inr ⟨b, off, rfl, rfl, hbl, fun i u hu => ?_⟩⟩
        have hi : i < len * 4 := by
          have := (List.getElem?_eq_some_iff.1 hu).1
          rw [rcs_length] at this
          simpa using this
        have hk : i / 4 < ((List.range len).map q).length := by simp; omega
        have hg := rcs_get ((List.range len).map q) (i / 4) (i % 4) hk (by omega)
        rw [show i / 4 * 4 + i % 4 = i by omega, hu] at hg
        have := (hq (i / 4) (by omega)).1 (i % 4) u (by rw [hg]; simp)
        rw [show i / 4 * 4 + i % 4 = i by omega, Addr.add_lit] at this
        exact this
    · intro r hr
      obtain ⟨i, hi, rfl⟩ := List.mem_map.1 hr
      exact (hq i (List.mem_range.1 hi)).2

/-- A row that came in by value. -/
theorem open_four (F : Four P e f0 f1 f2 f3) {r : Reach} {b0 : Nat} {v : Value} {d : DataW H} {p : List MemPlace} (hv : Value.okWide P w r b0 e v) (h : DataW.Trod enc P w base spare held e v d p) : ∃ r : R, v = rv r ∧ WfR r := by
  obtain ⟨cs, rfl, hsz⟩ := WideShapes.okWide_struct F.he hv
  obtain ⟨fuel, hf⟩ := h
  obtain ⟨r, hr, hw⟩ := four_cells F hf
  refine ⟨r, ?_, hw⟩
  have : cs.toList = rc r := by simpa [Value.cells] using hr
  show Value.agg cs = _
  rw [show cs = (rc r).toArray by rw [← this]]
  rfl
end
end Go.Proofs.YtldimfmhbdhbnaaGreat

/-
  Rows laid into files, plainly; what is answered that holds places.
-/
namespace Go.Proofs.YtldimfmhbdhbnaaGreat
open Go.RowKit

/-- The files of a list of rows. -/
def filesOf (rs : List R) : List (List R) := (List.range 4).map fun (i : Nat) => rs.filter (solidAt i)
theorem filesOf_len (rs : List R) : (filesOf rs).length = 4 := by simp [filesOf]
theorem filesOf_get (rs : List R) (i : Nat) (h : i < (filesOf rs).length) : (filesOf rs)[i] = rs.filter (solidAt i) := by simp [filesOf]
def poC (rs : List R) (mark : Int) : Int := if rowsF rs = 0 then (if inB mark 0 999 then 0 else 3) else rowsF rs
def poL (rs : List R) (mark : Int) : Pl := if poC rs mark = 0 then ⟨filesOf rs, mark⟩ else ⟨[], 0⟩
theorem filesOf_fsz (rs : List R) (h : rs.length ≤ 12) : fsz (filesOf rs) ≤ 1048576 := by
  have each : ∀ (i : Nat), (rs.filter (solidAt i)).length ≤ 12 := fun i => Nat.le_trans (List.length_filter_le _ _) h
  have h0 := each 0; have h1 := each 1; have h2 := each 2; have h3 := each 3
  have e : totS (filesOf rs) = (rs.filter (solidAt (0 : Nat))).length + ((rs.filter (solidAt (1 : Nat))).length + ((rs.filter (solidAt (2 : Nat))).length + ((rs.filter (solidAt (3 : Nat))).length + 0))) := rfl
  unfold fsz; rw [filesOf_len, e]; omega
theorem poL_sz (rs : List R) (mark : Int) : plsz (poL rs mark) ≤ 1048576 := by
  unfold poL
  split
  · rename_i h
    have h0 : rowsF rs = 0 := by
      unfold poC at h
      split at h
      · assumption
      · exact h
    exact filesOf_fsz rs (rowsF_fits h0).2
  · show fsz [] ≤ 1048576
    unfold fsz totS cntL; simp
/-- What a call answers that gives a code and places in memory of its own. -/
def PResPost (w : World) (code : Int) (p : Pl) (e : Ending) (w' : World) : Prop :=
  ∃ vf fp, e = .returned (plrv code p.mark vf) ∧ PlAt w' p vf fp ∧ NF w' fp ∧ (From w.heap.size fp ∧ fp.Nodup) ∧ Below w.heap.size w w'
theorem PlAt.none_ (w : World) : PlAt w ⟨[], 0⟩ (.slice none 0 0) [] := ⟨Sl.nil w⟩
theorem pres_none {w w' : World} {code : Int} (hb : Below w.heap.size w w') : PResPost w code ⟨[], 0⟩ (.returned (plrv code 0 (.slice none 0 0))) w' := ⟨_, [], rfl, PlAt.none_ w', NF.nil _, ⟨From.nil _, by simp⟩, hb⟩
/-- The blocks of the answer: three stores into block g. -/
theorem pres_stored {w w1 : World} {g : Nat} {code : Int} {p : Pl} {vf : Value} {fp : List Nat} (hb : Below w.heap.size w w1) (hg : w.heap.size ≤ g) (hr : PlAt w1 p vf fp) (hn : NF w1 fp) (hf : From (g + 1) fp) (hd : fp.Nodup) :
    PResPost w code p (.returned (plrv code p.mark vf)) (((w1.setCell ⟨g, 0, none⟩ (.int .i64 code)).setCell ⟨g, 1, none⟩ vf).setCell ⟨g, 2, none⟩ (.int .i64 p.mark)) := by
  have hbut := (((But.refl [g] w1).setCell (p := ⟨g, 0, none⟩) (by simp) (.int .i64 code)).setCell (p := ⟨g, 1, none⟩) (by simp) vf).setCell (p := ⟨g, 2, none⟩) (by simp) (.int .i64 p.mark)
  have hx : ∀ b ∈ fp, b ∉ [g] := fun b hm h => by have := hf b hm; simp at h; omega
  exact ⟨_, fp, rfl, hr.but hbut hx, hn.but hbut hr.lt hx, ⟨hf.mono (by omega), hd⟩, hb.trans (hbut.below hb.size (by intro b hb; simp at hb; omega))⟩
theorem three_at6 {w : World} {g : Nat} {u v x : Value} {t : TypeId} (h : w.heap[g]? = some (.cells #[u, v, x] t (0, 0))) :
    w.cell? ⟨g, 0, none⟩ = some u ∧ w.cell? ⟨g, 1, none⟩ = some v ∧ w.cell? ⟨g, 2, none⟩ = some x ∧ w.frozen? ⟨g, 0, none⟩ = false ∧ w.frozen? ⟨g, 1, none⟩ = false ∧ w.frozen? ⟨g, 2, none⟩ = false ∧ g < w.heap.size :=
  ⟨cell_of_heap h, cell_of_heap h, cell_of_heap h, frozen_of_heap h, frozen_of_heap h, frozen_of_heap h, heap_lt h⟩
end Go.Proofs.YtldimfmhbdhbnaaGreat
