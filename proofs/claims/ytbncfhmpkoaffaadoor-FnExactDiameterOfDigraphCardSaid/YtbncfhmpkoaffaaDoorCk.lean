/-
  The codes of a graph and vertices in chapter 2: both programs.
-/
import Derived.Test.YtbncfhmpkoaffaaDoorOn1
namespace Go.Proofs.YtbncfhmpkoaffaaDoor
set_option maxRecDepth 100000
open Go.RowKit

end Go.Proofs.YtbncfhmpkoaffaaDoor
