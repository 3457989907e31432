/-
  spec.PutBeside: its answer, whatever comes in.
-/
import Derived.Test.YtpdlimjjflnahaaDoorPb3
import Derived.Test.YtpdlimjjflnahaaDoorPb4
namespace Go.Proofs.YtpdlimjjflnahaaDoor
set_option maxRecDepth 100000
open Go.RowKit

end Go.Proofs.YtpdlimjjflnahaaDoor
