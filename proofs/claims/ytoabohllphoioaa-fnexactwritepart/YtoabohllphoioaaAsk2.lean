/-
  What is asked of the program's functions of chapter 2 (to be shown of what landed), so that the laws answer true: putting, joining, cutting.
-/
import Derived.Test.YtoabohllphoioaaG16
import Derived.Test.YtoabohllphoioaaAsk2a
namespace Go.Proofs.Ytoabohllphoioaa
open Go.RowKit

def AskPutRow : Prop := ∀ (A : Option Addr) (c : Nat) (rs : List R) (r : R) (w : World) (fp : List Nat), rs.length ≤ 1048576 → (∀ r ∈ rs, WfR r) → WfR r → Rd w 4 (.slice A rs.length c) (rcs rs) fp →
  Calls Try.prog 91 #[.slice A rs.length c, rv r] w (RResPost w (prC rs r) (prL rs r))
end Go.Proofs.Ytoabohllphoioaa
