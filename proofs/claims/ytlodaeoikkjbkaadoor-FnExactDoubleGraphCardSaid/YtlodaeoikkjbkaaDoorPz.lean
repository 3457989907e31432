/-
  (A seat that has the texts of complements: they hold what Pz would.)
-/
import Derived.Test.YtlodaeoikkjbkaaDoorCoS
import Derived.Test.YtlodaeoikkjbkaaDoorMark
import Derived.Test.YtlodaeoikkjbkaaDoorIsB
import Derived.Deep.RegionWith
namespace Go.Proofs.YtlodaeoikkjbkaaDoor
end Go.Proofs.YtlodaeoikkjbkaaDoor
