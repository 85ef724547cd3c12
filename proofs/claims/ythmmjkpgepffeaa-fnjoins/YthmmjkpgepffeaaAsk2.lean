/-
  What is asked of the program's functions of chapter 2 (to be shown of what landed), so that the laws answer true: putting, joining, cutting.
-/
import Derived.Test.YthmmjkpgepffeaaSpec2f
import Derived.Test.YthmmjkpgepffeaaAsk2a
namespace Go.Proofs.Ythmmjkpgepffeaa
open Go.RowKit

def AskPutRow : Prop := ∀ (A : Option Addr) (c : Nat) (rs : List R) (r : R) (w : World) (fp : List Nat), rs.length ≤ 1048576 → (∀ r ∈ rs, WfR r) → WfR r → Rd w 4 (.slice A rs.length c) (rcs rs) fp →
  Calls Try.prog 15 #[.slice A rs.length c, rv r] w (RResPost w (prC rs r) (prL rs r))
def AskJoinRows : Prop := ∀ (A B : Option Addr) (c d : Nat) (a b : List R) (w : World) (fp fq : List Nat), a.length ≤ 1048576 → b.length ≤ 1048576 → (∀ r ∈ a, WfR r) → (∀ r ∈ b, WfR r) → Rd w 4 (.slice A a.length c) (rcs a) fp → Rd w 4 (.slice B b.length d) (rcs b) fq →
  Calls Try.prog 30 #[.slice A a.length c, .slice B b.length d] w (RResPost w (jrC a b) (jrL a b))
def AskCutRows : Prop := ∀ (A : Option Addr) (c : Nat) (rs : List R) (f t : Int) (w : World) (fp : List Nat), rs.length ≤ 1048576 → (∀ r ∈ rs, WfR r) → (Lit.int .i64 f).wf = true → (Lit.int .i64 t).wf = true → Rd w 4 (.slice A rs.length c) (rcs rs) fp →
  Calls Try.prog 32 #[.slice A rs.length c, .int .i64 f, .int .i64 t] w (RResPost w (crC rs f t) (crL rs f t))

end Go.Proofs.Ythmmjkpgepffeaa
