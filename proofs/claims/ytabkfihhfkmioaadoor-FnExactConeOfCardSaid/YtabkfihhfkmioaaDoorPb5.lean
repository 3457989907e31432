/-
  spec.PutBeside: its answer, whatever comes in.
-/
import Derived.Test.YtabkfihhfkmioaaDoorPb3
import Derived.Test.YtabkfihhfkmioaaDoorPb4
namespace Go.Proofs.YtabkfihhfkmioaaDoor
set_option maxRecDepth 100000
open Go.RowKit

end Go.Proofs.YtabkfihhfkmioaaDoor
