/-
  (A seat that has the texts of complements: they hold what Pz would.)
-/
import Derived.Test.YtabkfihhfkmioaaDoorCoS
import Derived.Test.YtabkfihhfkmioaaDoorMark
import Derived.Test.YtabkfihhfkmioaaDoorIsB
import Derived.Deep.RegionWith
namespace Go.Proofs.YtabkfihhfkmioaaDoor
end Go.Proofs.YtabkfihhfkmioaaDoor
