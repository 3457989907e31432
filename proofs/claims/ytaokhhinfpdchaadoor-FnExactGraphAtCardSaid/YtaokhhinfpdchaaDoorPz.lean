/-
  (A seat that has the texts of complements: they hold what Pz would.)
-/
import Derived.Test.YtaokhhinfpdchaaDoorCoS
import Derived.Test.YtaokhhinfpdchaaDoorMark
import Derived.Test.YtaokhhinfpdchaaDoorIsB
import Derived.Deep.RegionWith
namespace Go.Proofs.YtaokhhinfpdchaaDoor
end Go.Proofs.YtaokhhinfpdchaaDoor
