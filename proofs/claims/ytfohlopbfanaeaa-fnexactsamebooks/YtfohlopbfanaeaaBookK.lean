/-
  The model's functions over books, in the words of BkAt.
-/
import Derived.Test.YtfohlopbfanaeaaBookH
namespace Go.Proofs.Ytfohlopbfanaeaa
open Go.RowKit

theorem specBookFault_k (b : Bk) (vr vh : Value) (fa fb : List Nat) (w : World) (hk : BkAt w b vr vh fa fb) :
    Calls Try.prog 15 #[bv b.now vr vh] w fun e w' => e = .returned (.int .i64 (bookF b)) ∧ Below w.heap.size w w' := by
  obtain ⟨A, c, B, d, rfl, rfl⟩ := hk.form
  exact specBookFault_c b.now A B c d b.rs b.hs w fa fb hk.r hk.h
theorem specFreeOf_k (b : Bk) (vr vh : Value) (fa fb : List Nat) (l s : Int) (w : World) (hk : BkAt w b vr vh fa fb) :
    Calls Try.prog 19 #[bv b.now vr vh, .int .i64 l, .int .i64 s] w fun e w' => e = .returned (pv (freeP b l s)) ∧ Below w.heap.size w w' := by
  obtain ⟨A, c, B, d, rfl, rfl⟩ := hk.form
  exact specFreeOf_c b.now A B c d b.rs b.hs l s w fa fb hk.r hk.h
theorem specHeldOf_k (b : Bk) (vr vh : Value) (fa fb : List Nat) (l s : Int) (w : World) (hk : BkAt w b vr vh fa fb) :
    Calls Try.prog 22 #[bv b.now vr vh, .int .i64 l, .int .i64 s] w fun e w' => e = .returned (pv (heldP b l s)) ∧ Below w.heap.size w w' := by
  obtain ⟨A, c, B, d, rfl, rfl⟩ := hk.form
  exact specHeldOf_c b.now A B c d b.rs b.hs l s w fa fb hk.r hk.h
theorem specTotalOf_k (b : Bk) (vr vh : Value) (fa fb : List Nat) (s : Int) (w : World) (hk : BkAt w b vr vh fa fb) :
    Calls Try.prog 26 #[bv b.now vr vh, .int .i64 s] w fun e w' => e = .returned (pv (totalP b s)) ∧ Below w.heap.size w w' := by
  obtain ⟨A, c, B, d, rfl, rfl⟩ := hk.form
  exact specTotalOf_c b.now A B c d b.rs b.hs s w fa fb hk.r hk.h
end Go.Proofs.Ytfohlopbfanaeaa
