/-
  What is asked of the program's functions of chapter 2 (to be shown of what landed), so that the laws answer true: faults, keys, finding, comparing.
-/
import Derived.Test.YtoabohllphoioaaG22
import Derived.Test.YtoabohllphoioaaArgs4
import Derived.Test.YtoabohllphoioaaG1
namespace Go.Proofs.Ytoabohllphoioaa
open Go.RowKit

def AskRowFault : Prop := ∀ (r : R) (w : World), WfR r → Calls Try.prog 90 #[rv r] w fun e w' => e = .returned (.int .i64 (rowF r)) ∧ Below w.heap.size w w'
def AskRowsFault : Prop := ∀ (A : Option Addr) (c : Nat) (rs : List R) (w : World) (fp : List Nat), rs.length ≤ 1048576 → (∀ r ∈ rs, WfR r) → Rd w 4 (.slice A rs.length c) (rcs rs) fp →
  Calls Try.prog 105 #[.slice A rs.length c] w fun e w' => e = .returned (.int .i64 (rowsF rs)) ∧ Below w.heap.size w w'
def AskKeyOf : Prop := ∀ (l s : Int) (w : World), (Lit.int .i64 l).wf = true → (Lit.int .i64 s).wf = true → Calls Try.prog 19 #[.int .i64 l, .int .i64 s] w fun e w' => e = .returned (pairV (keyP l s)) ∧ Below w.heap.size w w'
def AskSameRows : Prop := ∀ (A B : Option Addr) (c d : Nat) (a b : List R) (w : World) (fp fq : List Nat), a.length ≤ 1048576 → b.length ≤ 1048576 → (∀ r ∈ a, WfR r) → (∀ r ∈ b, WfR r) → Rd w 4 (.slice A a.length c) (rcs a) fp → Rd w 4 (.slice B b.length d) (rcs b) fq →
  Calls Try.prog 20 #[.slice A a.length c, .slice B b.length d] w fun e w' => e = .returned (.bool (decide (a = b))) ∧ Below w.heap.size w w'

end Go.Proofs.Ytoabohllphoioaa
