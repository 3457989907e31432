/-
  The codes of a graph and vertices in chapter 2: both programs.
-/
import Derived.Test.YtibpnemeehkdbaaDoorOn1
namespace Go.Proofs.YtibpnemeehkdbaaDoor
set_option maxRecDepth 100000
open Go.RowKit

end Go.Proofs.YtibpnemeehkdbaaDoor
