/-
  Contracts of the model's draws of chapter 2: arguments for RowFault, KeyOf, PutRow, FindRow.
-/
import Derived.Test.YtoabohllphoioaaG25
namespace Go.Proofs.Ytoabohllphoioaa
open Go.RowKit

theorem Drawn.fresh2 {w w1 w2 : World} {zs : List Int} {a d lo : Nat} (hb : Below lo w w1) (h : Drawn w1 lo zs a d w2) (hl : lo ≤ w1.heap.size) : Below lo w w2 :=
  hb.trans (h.but.below hl (by intro b hm; simp at hm; omega))

end Go.Proofs.Ytoabohllphoioaa
