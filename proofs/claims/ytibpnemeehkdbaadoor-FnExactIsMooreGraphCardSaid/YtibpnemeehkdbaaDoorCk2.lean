/-
  impl.checkVertices: the code of a graph and vertices.
-/
import Derived.Test.YtibpnemeehkdbaaDoorCk
namespace Go.Proofs.YtibpnemeehkdbaaDoor
set_option maxRecDepth 100000
open Go.RowKit

end Go.Proofs.YtibpnemeehkdbaaDoor
