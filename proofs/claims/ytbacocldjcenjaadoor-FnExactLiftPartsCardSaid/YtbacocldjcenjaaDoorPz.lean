/-
  (A seat that has the texts of complements: they hold what Pz would.)
-/
import Derived.Test.YtbacocldjcenjaaDoorCoS
import Derived.Test.YtbacocldjcenjaaDoorMark
import Derived.Test.YtbacocldjcenjaaDoorIsB
import Derived.Deep.RegionWith
namespace Go.Proofs.YtbacocldjcenjaaDoor
end Go.Proofs.YtbacocldjcenjaaDoor
