/-
  Holds: five integers each.
-/
import Derived.Test.YtoabohllphoioaaG11
import Derived.Test.YtoabohllphoioaaG1
namespace Go.Proofs.Ytoabohllphoioaa
open Go.RowKit

/-- A hold: Id, Loc, Sku, Qty, Until. -/
structure Hd where
  id : Int
  lc : Int
  sk : Int
  qt : Int
  un : Int
deriving DecidableEq
/-- Its five cells. -/
def hc (h : Hd) : List Value := [.int .i64 h.id, .int .i64 h.lc, .int .i64 h.sk, .int .i64 h.qt, .int .i64 h.un]
theorem hc_len (h : Hd) : (hc h).length = 5 := rfl
/-- A hold as a value. -/
abbrev hv (h : Hd) : Value := .agg #[.int .i64 h.id, .int .i64 h.lc, .int .i64 h.sk, .int .i64 h.qt, .int .i64 h.un]
/-- Every field fits its kind. -/
def WfH (h : Hd) : Prop := (Lit.int .i64 h.id).wf = true ∧ (Lit.int .i64 h.lc).wf = true ∧ (Lit.int .i64 h.sk).wf = true ∧ (Lit.int .i64 h.qt).wf = true ∧ (Lit.int .i64 h.un).wf = true
theorem rcs_ecs (rs : List R) : rcs rs = ecs rc rs := rfl
end Go.Proofs.Ytoabohllphoioaa
