/-
  (A seat that has the texts of complements: they hold what Pz would.)
-/
import Derived.Test.YthlchifmmmnagaaDoorCoS
import Derived.Test.YthlchifmmmnagaaDoorMark
import Derived.Test.YthlchifmmmnagaaDoorIsB
import Derived.Deep.RegionWith
namespace Go.Proofs.YthlchifmmmnagaaDoor
end Go.Proofs.YthlchifmmmnagaaDoor
