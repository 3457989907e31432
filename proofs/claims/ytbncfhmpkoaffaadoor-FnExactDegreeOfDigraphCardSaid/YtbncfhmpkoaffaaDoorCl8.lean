/-
  slices.Clone; the table and the door's error together.
-/
import Derived.Test.YtbncfhmpkoaffaaDoorDh8
import Derived.Test.YtbncfhmpkoaffaaDoorCr8
import Derived.Test.YtbncfhmpkoaffaaDoorCl9
import Derived.OwnWalk
import Derived.Maps.AppendAt
namespace Go.Proofs.YtbncfhmpkoaffaaDoor
set_option maxRecDepth 100000
set_option maxRecDepth 100000
open Go.RowKit

/-- The table and the door's error in their variables. -/
def TabE (w : World) : Prop := Tab w ∧ ErrV w
theorem TabE.below {B : Nat} {w w' : World} (h : TabE w) (hb : Below B w w') (hB : 1 < B ∧ 0 < B) : TabE w' := by
  refine ⟨h.1.below hb hB.1, ?_⟩
  obtain ⟨a, ha⟩ := h.2
  exact ⟨a, (hb.cell (p := ⟨0, 0, none⟩) hB.2).trans ha⟩
theorem TabE.lt {w : World} (h : TabE w) : 1 < w.heap.size ∧ 0 < w.heap.size := ⟨h.1.lt, h.2.lt⟩
theorem TabE.belowAll {w w' : World} (h : TabE w) (hb : Below w.heap.size w w') : TabE w' := h.below hb h.lt
end Go.Proofs.YtbncfhmpkoaffaaDoor
