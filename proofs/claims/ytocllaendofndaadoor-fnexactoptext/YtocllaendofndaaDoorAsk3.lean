/-
  What is asked of the functions of chapter 3, the model's and the program's, so that the laws answer true.
-/
import Derived.Test.YtocllaendofndaaDoorText3
import Derived.Test.YtocllaendofndaaDoorArgsN
import Derived.Test.YtocllaendofndaaDoorOpHelp
namespace Go.Proofs.YtocllaendofndaaDoor
open Go.RowKit

/-- The text that OpText answers beside its code. -/
def otL (o : O) : List UInt8 := if opF o = 0 then textL o else []
/-- ParseOp's code and operation. -/
def psC (l : List UInt8) : Int := if (parseO l).isSome then 0 else 5
def psO (l : List UInt8) : O := (parseO l).getD ⟨0, 0, 0, 0, 0, 0, 0⟩

def AskOpFault (F : Nat) : Prop := ∀ (o : O) (w : World), WfO o → Calls Tryd.prog F #[ov o] w fun e w' => e = .returned (.int .i64 (opF o)) ∧ Below w.heap.size w w'
def AskOpText (X : World → Prop) (F : Nat) : Prop := ∀ (o : O) (w : World), WfO o → X w → Calls Tryd.prog F #[ov o] w fun e w' => e = .returned (.agg #[.int .i64 (opF o), .string ⟨(otL o).toArray⟩]) ∧ Below w.heap.size w w'
def AskParseOp (X : World → Prop) (F : Nat) : Prop := ∀ (s : ByteArray) (w : World), s.size ≤ 1048576 → X w → Calls Tryd.prog F #[.string s] w fun e w' => e = .returned (orv (psC s.data.toList) (psO s.data.toList)) ∧ Below w.heap.size w w'

/-- What stands in later worlds. -/
def Stays (X : World → Prop) : Prop := ∀ w w', X w → Below w.heap.size w w' → X w'
/-- The cells of an operation's block that the calls kept. -/
theorem op_kept {w w' : World} {g : Nat} {o : O} {t : TypeId} (h : Below w.heap.size w w') (hg : w.heap[g]? = some (.cells #[.int .i64 o.k, .int .i64 o.rq, .int .i64 o.lc, .int .i64 o.tt, .int .i64 o.sk, .int .i64 o.qt, .int .i64 o.hd] t (0, 0))) :
    w'.cell? ⟨g, 0, none⟩ = some (.int .i64 o.k) ∧ w'.cell? ⟨g, 1, none⟩ = some (.int .i64 o.rq) ∧ w'.cell? ⟨g, 2, none⟩ = some (.int .i64 o.lc) ∧ w'.cell? ⟨g, 3, none⟩ = some (.int .i64 o.tt) ∧ w'.cell? ⟨g, 4, none⟩ = some (.int .i64 o.sk) ∧ w'.cell? ⟨g, 5, none⟩ = some (.int .i64 o.qt) ∧ w'.cell? ⟨g, 6, none⟩ = some (.int .i64 o.hd) ∧ g < w'.heap.size := by
  have := (h.block _ (heap_lt hg)).trans hg
  exact ⟨cell_of_heap this, cell_of_heap this, cell_of_heap this, cell_of_heap this, cell_of_heap this, cell_of_heap this, cell_of_heap this, heap_lt this⟩
end Go.Proofs.YtocllaendofndaaDoor
