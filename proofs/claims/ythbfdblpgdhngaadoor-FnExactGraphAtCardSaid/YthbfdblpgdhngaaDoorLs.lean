/-
  spec.l02Levels and spec.LevelsFrom.
-/
import Derived.Test.YthbfdblpgdhngaaDoorDs
namespace Go.Proofs.YthbfdblpgdhngaaDoor
set_option maxRecDepth 100000
open Go.RowKit

def slLen : Value → Nat | .slice _ l _ => l | _ => 0

end Go.Proofs.YthbfdblpgdhngaaDoor
