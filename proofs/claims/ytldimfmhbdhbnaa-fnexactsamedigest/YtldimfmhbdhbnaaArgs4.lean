/-
  An argument that is a row of four integers, or a slice of such rows, as the row's form gives it, read by my own words.
-/
import Derived.Test.YtldimfmhbdhbnaaProg
import Derived.Test.YtldimfmhbdhbnaaG3
import Derived.Test.YtldimfmhbdhbnaaG1
import Derived.Deep.Slices
import Derived.Lib.SmallJoins
namespace Go.Proofs.Ytldimfmhbdhbnaa
open Go.RowKit

/-- Every field fits its kind. -/
def WfR (r : R) : Prop := (Lit.int .i64 r.1).wf = true ∧ (Lit.int .i64 r.2.1).wf = true ∧ (Lit.int .i64 r.2.2.1).wf = true ∧ (Lit.int .i64 r.2.2.2).wf = true

/-- The four fields of a row: one integer each, one behind the other. -/
structure Four (P : Program) (e : TypeId) (f0 f1 f2 f3 : Field) : Prop where
  he : P.underlying e = some (.struct #[f0, f1, f2, f3])
  ce : P.cellsOf e = 4
  o0 : f0.offset = 0
  o1 : f1.offset = 1
  o2 : f2.offset = 2
  o3 : f3.offset = 3
  u0 : P.underlying f0.type = some (.int .i64)
  u1 : P.underlying f1.type = some (.int .i64)
  u2 : P.underlying f2.type = some (.int .i64)
  u3 : P.underlying f3.type = some (.int .i64)
  c0 : P.cellsOf f0.type = 1
  c1 : P.cellsOf f1.type = 1
  c2 : P.cellsOf f2.type = 1
  c3 : P.cellsOf f3.type = 1

section
variable {H : Type} {enc : TypeId × Value → H} {P : Program} {w : World} {base : Nat} {spare : Nat → Bool} {held : Bool} {e : TypeId} {f0 f1 f2 f3 : Field}

theorem four_cells (F : Four P e f0 f1 f2 f3) {n : Nat} {cs : List Value} {x : DataW H × List MemPlace} (h : DataW.trod enc P w base spare held n e cs = some x) : ∃ r : R, cs = rc r ∧ WfR r := by
  obtain ⟨y0, y1, y2, y3, m, _, hlen, h0, h1, h2, h3⟩ := Joins.trod_struct4 F.he h
  rw [F.ce] at hlen
  match cs, hlen with
  | [v0, v1, v2, v3], _ =>
    simp only [F.o0, F.o1, F.o2, F.o3, F.c0, F.c1, F.c2, F.c3] at h0 h1 h2 h3
    obtain ⟨a0, e0, _, w0⟩ := DataW.trod_int F.u0 h0
    obtain ⟨a1, e1, _, w1⟩ := DataW.trod_int F.u1 h1
    obtain ⟨a2, e2, _, w2⟩ := DataW.trod_int F.u2 h2
    obtain ⟨a3, e3, _, w3⟩ := DataW.trod_int F.u3 h3
    simp at e0 e1 e2 e3
    exact ⟨(a0, a1, a2, a3), by simp [rc, e0, e1, e2, e3], w0, w1, w2, w3⟩

/-- A slice of rows that came in. -/
theorem open_rows (F : Four P e f0 f1 f2 f3) {t : TypeId} (ht : P.underlying t = some (.slice e)) {fuel : Nat} {a : Option Addr} {len cap : Nat} {x : DataW H × List MemPlace}
    (h : DataW.trod enc P w base spare held fuel t [.slice a len cap] = some x) : ∃ rs : List R, rs.length = len ∧ (∃ fp, Rd w 4 (.slice a len cap) (rcs rs) fp) ∧ ∀ r ∈ rs, WfR r := by
  rcases Deep.open_slice ht h with ⟨hcs, _⟩ | ⟨ad, len', cap', m, n, D, Pl, hcs, hb, hl, hm, hmm, _, hx⟩
  · simp at hcs
    obtain ⟨rfl, rfl, rfl⟩ := hcs
    exact ⟨[], rfl, ⟨[], Rd.nil w 4⟩, by simp⟩
  · simp at hcs
    obtain ⟨rfl, rfl, rfl⟩ := hcs
    have hlm : len ≤ m := by rw [hmm]; split <;> omega
    have each : ∀ i, i < len → ∃ r : R, (∀ j u, (rc r)[j]? = some u → w.cell? (ad.add (i * 4 + j)) = some u) ∧ WfR r := by
      intro i hi
      obtain ⟨cs', h1, h2⟩ := hx i (by omega)
      rw [F.ce] at h1
      obtain ⟨r, rfl, hw⟩ := four_cells F h2
      obtain ⟨_, hlen, hcell⟩ := World.cells?_some h1
      refine ⟨r, fun j u hu => ?_, hw⟩
      have hj : j < 4 := by
        have := (List.getElem?_eq_some_iff.1 hu).1
        simpa [rc] using this
      have := hcell j hj
      rw [Deep.add_add, hu] at this
      exact this
    obtain ⟨q, hq⟩ := Deep.choose_lt each
    have hget : ∀ i, i < len → (rcs ((List.range len).map q)).length = len * 4 := fun _ _ => by rw [rcs_length]; simp
    refine ⟨(List.range len).map q, by simp, ?_, ?_⟩
    · rcases Nat.eq_zero_or_pos len with h0 | h0
      · subst h0
        exact ⟨[], _, 0, cap, rfl, by simp [rcs], by omega, by omega, .inl ⟨rfl, rfl⟩⟩
      · have hc0 := (hq 0 h0).1 0 _ rfl
        obtain ⟨b, off, spot⟩ := ad
        have hs : spot = none := by simpa [Addr.add] using World.cell?_spot hc0
        subst hs
        have hbl : b < w.heap.size := by simpa [Addr.add] using cell_lt hc0
        refine ⟨[b], _, len, cap, rfl, by rw [rcs_length]; simp, by omega, hl, .inr ⟨b, off, rfl, rfl, hbl, fun i u hu => ?_⟩⟩
        have hi : i < len * 4 := by
          have := (List.getElem?_eq_some_iff.1 hu).1
          rw [rcs_length] at this
          simpa using this
        have hk : i / 4 < ((List.range len).map q).length := by simp; omega
        have hg := rcs_get ((List.range len).map q) (i / 4) (i % 4) hk (by omega)
        rw [show i / 4 * 4 + i % 4 = i by omega, hu] at hg
        have := (hq (i / 4) (by omega)).1 (i % 4) u (by rw [hg]; simp)
        rw [show i / 4 * 4 + i % 4 = i by omega, Addr.add_lit] at this
        exact this
    · intro r hr
      obtain ⟨i, hi, rfl⟩ := List.mem_map.1 hr
      exact (hq i (List.mem_range.1 hi)).2

/-- A row that came in by value. -/
theorem open_four (F : Four P e f0 f1 f2 f3) {r : Reach} {b0 : Nat} {v : Value} {d : DataW H} {p : List MemPlace} (hv : Value.okWide P w r b0 e v) (h : DataW.Trod enc P w base spare held e v d p) : ∃ r : R, v = rv r ∧ WfR r := by
  obtain ⟨cs, rfl, hsz⟩ := WideShapes.okWide_struct F.he hv
  obtain ⟨fuel, hf⟩ := h
  obtain ⟨r, hr, hw⟩ := four_cells F hf
  refine ⟨r, ?_, hw⟩
  have : cs.toList = rc r := by simpa [Value.cells] using hr
  show Value.agg cs = _
  rw [show cs = (rc r).toArray by rw [← this]]
  rfl
end
set_option maxRecDepth 1000000 in
theorem fourLaws : ∃ f0 f1 f2 f3, Four Try.prog 48 f0 f1 f2 f3 := ⟨_, _, _, _, rfl, rfl, rfl, rfl, rfl, rfl, rfl, rfl, rfl, rfl, rfl, rfl, rfl, rfl⟩
end Go.Proofs.Ytldimfmhbdhbnaa
