/-
  (A seat that has the texts of complements: they hold what Pz would.)
-/
import Derived.Test.YtpdlimjjflnahaaDoorCoS
import Derived.Test.YtpdlimjjflnahaaDoorMark
import Derived.Test.YtpdlimjjflnahaaDoorIsB
import Derived.Deep.RegionWith
namespace Go.Proofs.YtpdlimjjflnahaaDoor
end Go.Proofs.YtpdlimjjflnahaaDoor
