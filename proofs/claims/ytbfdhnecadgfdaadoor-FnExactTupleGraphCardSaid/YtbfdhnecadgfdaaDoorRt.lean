/-
  spec.RingGraph.
-/
import Derived.Test.YtbfdhnecadgfdaaDoorRs
import Derived.Deep.RegionWith
namespace Go.Proofs.YtbfdhnecadgfdaaDoor
set_option maxRecDepth 100000
open Go.RowKit

theorem specEmpty_at (N : Int) (len : Nat) (w : World) (hl : len ≤ 1048576) (eN : N = (len : Int)) :
    Calls Tryd.prog 49 #[.int .i64 N] w fun e w' => e = .returned (.agg #[.int .i64 len, .slice (some ⟨w.heap.size + 1, 0, none⟩) len len]) ∧ Blk w' (w.heap.size + 1) (List.replicate len 0) ∧ Below w.heap.size w w' := by
  subst eN
  exact specEmpty_any len w hl

theorem ringS_succ (n k i : Nat) : ringS n k (i + 1) = ((ringS n k i ++ [(i, (i + 1) % n)]) ++ [(i, n + i)]) ++ [(n + i, n + (i + k) % n)] := rfl

end Go.Proofs.YtbfdhnecadgfdaaDoor
