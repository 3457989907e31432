/-
  (A seat that has the texts of complements: they hold what Pz would.)
-/
import Derived.Test.YthbfdblpgdhngaaDoorCoS
import Derived.Test.YthbfdblpgdhngaaDoorMark
import Derived.Test.YthbfdblpgdhngaaDoorIsB
import Derived.Deep.RegionWith
namespace Go.Proofs.YthbfdblpgdhngaaDoor
end Go.Proofs.YthbfdblpgdhngaaDoor
