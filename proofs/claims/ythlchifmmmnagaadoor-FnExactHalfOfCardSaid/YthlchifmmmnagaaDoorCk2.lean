/-
  impl.checkVertices: the code of a graph and vertices.
-/
import Derived.Test.YthlchifmmmnagaaDoorCk
namespace Go.Proofs.YthlchifmmmnagaaDoor
set_option maxRecDepth 100000
open Go.RowKit

end Go.Proofs.YthlchifmmmnagaaDoor
