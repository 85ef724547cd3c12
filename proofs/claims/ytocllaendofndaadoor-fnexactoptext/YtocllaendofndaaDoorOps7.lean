/-
  Operations in memory: seven cells.
-/
import Derived.Test.YtocllaendofndaaDoorProg
import Derived.Test.YtocllaendofndaaDoorModel3
import Derived.Test.YtocllaendofndaaDoorBase
namespace Go.Proofs.YtocllaendofndaaDoor
open Go.RowKit

/-- The seven cells of an operation lie from off on. -/
def OpAt (w : World) (b off : Nat) (o : O) : Prop :=
  b < w.heap.size ∧ w.cell? ⟨b, off, none⟩ = some (.int .i64 o.k) ∧ w.cell? ⟨b, off + 1, none⟩ = some (.int .i64 o.rq) ∧ w.cell? ⟨b, off + 2, none⟩ = some (.int .i64 o.lc) ∧ w.cell? ⟨b, off + 3, none⟩ = some (.int .i64 o.tt) ∧
    w.cell? ⟨b, off + 4, none⟩ = some (.int .i64 o.sk) ∧ w.cell? ⟨b, off + 5, none⟩ = some (.int .i64 o.qt) ∧ w.cell? ⟨b, off + 6, none⟩ = some (.int .i64 o.hd)
theorem OpAt.below {w w' : World} {b off : Nat} {o : O} (h : OpAt w b off o) (hb : Below w.heap.size w w') : OpAt w' b off o := by
  obtain ⟨h0, h1, h2, h3, h4, h5, h6, h7⟩ := h
  exact ⟨Nat.lt_of_lt_of_le h0 hb.size, (hb.cell (p := ⟨b, _, none⟩) h0).trans h1, (hb.cell (p := ⟨b, _, none⟩) h0).trans h2, (hb.cell (p := ⟨b, _, none⟩) h0).trans h3, (hb.cell (p := ⟨b, _, none⟩) h0).trans h4, (hb.cell (p := ⟨b, _, none⟩) h0).trans h5, (hb.cell (p := ⟨b, _, none⟩) h0).trans h6, (hb.cell (p := ⟨b, _, none⟩) h0).trans h7⟩
/-- An operation as a value. -/
abbrev ov (o : O) : Value := .agg #[.int .i64 o.k, .int .i64 o.rq, .int .i64 o.lc, .int .i64 o.tt, .int .i64 o.sk, .int .i64 o.qt, .int .i64 o.hd]
/-- The block of an operation. -/
abbrev obox (o : O) : Obj := .cells #[.int .i64 o.k, .int .i64 o.rq, .int .i64 o.lc, .int .i64 o.tt, .int .i64 o.sk, .int .i64 o.qt, .int .i64 o.hd] 26
theorem OpAt.new (w : World) (o : O) : OpAt (w.alloc (obox o)) w.heap.size 0 o := by
  have h := heap_new w (obox o) rfl
  exact ⟨heap_lt h, cell_of_heap h, cell_of_heap h, cell_of_heap h, cell_of_heap h, cell_of_heap h, cell_of_heap h, cell_of_heap h⟩
end Go.Proofs.YtocllaendofndaaDoor
