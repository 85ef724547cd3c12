/-
  Contracts of the laws' helpers over rows.
-/
import Derived.Test.YtocllaendofndaaDoorProg
import Derived.Test.YtocllaendofndaaDoorRows4
import Derived.WalkSpells
import Derived.Laws.MakeOwn
import Derived.RegionTactic
import Derived.Deep.QuietTactic
import Derived.BigQuiet
import Derived.IntWalk
import Derived.Deep.RegionHeld3
namespace Go.Proofs.YtocllaendofndaaDoor
open Go.RowKit

end Go.Proofs.YtocllaendofndaaDoor
