/-
  impl.checkVertices: the code of a graph and vertices.
-/
import Derived.Test.YthbfdblpgdhngaaDoorCk
namespace Go.Proofs.YthbfdblpgdhngaaDoor
set_option maxRecDepth 100000
open Go.RowKit

end Go.Proofs.YthbfdblpgdhngaaDoor
