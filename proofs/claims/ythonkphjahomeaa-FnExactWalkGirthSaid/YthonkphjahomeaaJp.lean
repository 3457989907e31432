/-
  Joins and graphs of pairs with the numbers as they come (where no ring graph is in the seat).
-/
import Derived.Test.YthonkphjahomeaaGp
namespace Go.Proofs.Ythonkphjahomeaa
set_option maxRecDepth 100000
open Go.RowKit Go.Maps Go.WideMaps Go.WideElems

end Go.Proofs.Ythonkphjahomeaa
