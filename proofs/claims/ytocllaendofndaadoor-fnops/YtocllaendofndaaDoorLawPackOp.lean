/- The law on PackOp answers true, given what is asked of the functions: the walk. -/
import Derived.Test.YtocllaendofndaaDoorG4
import Derived.Test.YtocllaendofndaaDoorPack
namespace Go.Proofs.YtocllaendofndaaDoor
open Go.RowKit

/-- The bytes that PackOp answers beside its code. -/
def pkO (o : O) : List Int := if opF o = 0 then packL (opL o) else []
theorem pkO_len (o : O) : (pkO o).length ≤ 1000 := by
  unfold pkO
  split
  · exact packL_len _
  · simp
def AskPackOp (F : Nat) : Prop := ∀ (o : O) (w : World), WfO o → Calls Tryd.prog F #[ov o] w (BytesPost w (opF o) (pkO o))
/-- The block of an operation as the laws have it. -/
abbrev lbox (o : O) : Obj := .cells #[.int .i64 o.k, .int .i64 o.rq, .int .i64 o.lc, .int .i64 o.tt, .int .i64 o.sk, .int .i64 o.qt, .int .i64 o.hd] 41
theorem op_cells {w : World} {g : Nat} {o : O} (h : w.heap[g]? = some (lbox o)) :
    w.cell? ⟨g, 0, none⟩ = some (.int .i64 o.k) ∧ w.cell? ⟨g, 1, none⟩ = some (.int .i64 o.rq) ∧ w.cell? ⟨g, 2, none⟩ = some (.int .i64 o.lc) ∧ w.cell? ⟨g, 3, none⟩ = some (.int .i64 o.tt) ∧ w.cell? ⟨g, 4, none⟩ = some (.int .i64 o.sk) ∧ w.cell? ⟨g, 5, none⟩ = some (.int .i64 o.qt) ∧ w.cell? ⟨g, 6, none⟩ = some (.int .i64 o.hd) ∧ g < w.heap.size :=
  ⟨cell_of_heap h, cell_of_heap h, cell_of_heap h, cell_of_heap h, cell_of_heap h, cell_of_heap h, cell_of_heap h, heap_lt h⟩

end Go.Proofs.YtocllaendofndaaDoor
