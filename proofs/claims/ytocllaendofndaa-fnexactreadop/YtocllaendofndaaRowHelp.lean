/-
  Contracts of the laws' helpers over rows.
-/
import Derived.Test.YtocllaendofndaaProg
import Derived.Test.YtocllaendofndaaRows4
import Derived.WalkSpells
import Derived.Laws.MakeOwn
import Derived.RegionTactic
import Derived.Deep.QuietTactic
import Derived.BigQuiet
import Derived.IntWalk
import Derived.Deep.RegionHeld3
namespace Go.Proofs.Ytocllaendofndaa
open Go.RowKit

end Go.Proofs.Ytocllaendofndaa
