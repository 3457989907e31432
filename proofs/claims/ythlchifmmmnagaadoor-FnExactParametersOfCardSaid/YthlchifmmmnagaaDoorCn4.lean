/-
  commonNumber's contract, as ParametersOf takes it.
-/
import Derived.Test.YthlchifmmmnagaaDoorCn0
import Derived.Test.YthlchifmmmnagaaDoorCn2
namespace Go.Proofs.YthlchifmmmnagaaDoor
theorem cmC : CmC := common_in
end Go.Proofs.YthlchifmmmnagaaDoor
