/-
  impl.isNumberUpTo. (Any seat with a Prog.)
-/
import Derived.Test.YtbncfhmpkoaffaaDoorProg
import Derived.WalkSpells
import Derived.WalkLawsBesides
import Derived.Lib.Hide
namespace Go.Proofs.YtbncfhmpkoaffaaDoor
set_option maxRecDepth 100000
set_option maxRecDepth 100000
open Go.RowKit

end Go.Proofs.YtbncfhmpkoaffaaDoor
