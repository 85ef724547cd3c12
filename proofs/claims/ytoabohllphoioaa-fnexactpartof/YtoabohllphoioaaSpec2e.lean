/-
  Contract of the model's CutRows.
-/
import Derived.Test.YtoabohllphoioaaSpec2d
namespace Go.Proofs.Ytoabohllphoioaa
open Go.RowKit

/-- CutRows's code and rows. -/
def crC (rs : List R) (f t : Int) : Int := if rowsF rs ≠ 0 then rowsF rs else if inB f 0 100 && inB t f 100 then 0 else 3
def crL (rs : List R) (f t : Int) : List R := if crC rs f t = 0 then cutR rs f t else []

end Go.Proofs.Ytoabohllphoioaa
