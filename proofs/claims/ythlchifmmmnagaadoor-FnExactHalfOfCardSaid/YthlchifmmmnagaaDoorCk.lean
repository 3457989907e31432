/-
  The codes of a graph and vertices in chapter 2: both programs.
-/
import Derived.Test.YthlchifmmmnagaaDoorMgC
namespace Go.Proofs.YthlchifmmmnagaaDoor
set_option maxRecDepth 100000
open Go.RowKit

end Go.Proofs.YthlchifmmmnagaaDoor
