/-
  The place of a row: a Loc and a Sku.
-/
import Derived.Test.YtfohlopbfanaeaaG1
namespace Go.Proofs.Ytfohlopbfanaeaa
open Go.RowKit
abbrev Sp : Type := Int × Int
abbrev spv (p : Sp) : Value := .agg #[.int .i64 p.1, .int .i64 p.2]
end Go.Proofs.Ytfohlopbfanaeaa
