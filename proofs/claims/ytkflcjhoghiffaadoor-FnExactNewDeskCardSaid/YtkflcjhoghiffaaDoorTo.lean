/-
  The laws' helper that copies a list of numbers. (A plain seat.)
-/
import Derived.Test.YtkflcjhoghiffaaDoorPg
namespace Go.Proofs.YtkflcjhoghiffaaDoor
set_option maxRecDepth 100000
open Go.RowKit

end Go.Proofs.YtkflcjhoghiffaaDoor
