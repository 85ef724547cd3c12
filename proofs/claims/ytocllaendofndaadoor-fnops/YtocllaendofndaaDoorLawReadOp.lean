/- The law on ReadOp answers true for every slice of bytes, given what is asked of the functions: the walk. -/
import Derived.Test.YtocllaendofndaaDoorG4
import Derived.Test.YtocllaendofndaaDoorRead
namespace Go.Proofs.YtocllaendofndaaDoor
open Go.RowKit

/-- The operation of packed bytes. -/
def readO (zs : List Int) : Option O :=
  if readC zs = 0 then
    (match readL zs with
     | [a, b, c, d, e, f, g] => if opF ⟨a, b, c, d, e, f, g⟩ = 0 then some ⟨a, b, c, d, e, f, g⟩ else none
     | _ => none)
  else none
/-- ReadOp's code and operation. -/
def rdC (zs : List Int) : Int := if (readO zs).isSome then 0 else 5
def rdO (zs : List Int) : O := (readO zs).getD ⟨0, 0, 0, 0, 0, 0, 0⟩
def AskReadOp (F : Nat) : Prop := ∀ (A : Option Addr) (c : Nat) (zs : List Int) (w : World) (fp : List Nat), zs.length ≤ 1048576 → Byt zs → Rd w 1 (.slice A zs.length c) (cellsOf .u8 zs) fp →
  Calls Tryd.prog F #[.slice A zs.length c] w fun e w' => e = .returned (orv (rdC zs) (rdO zs)) ∧ Below w.heap.size w w'
/-- The block of a code and an operation. -/
abbrev orbox (C : Int) (o : O) : Obj := .cells #[.int .i64 C, .int .i64 o.k, .int .i64 o.rq, .int .i64 o.lc, .int .i64 o.tt, .int .i64 o.sk, .int .i64 o.qt, .int .i64 o.hd] 28

end Go.Proofs.YtocllaendofndaaDoor
