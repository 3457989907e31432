/-
  impl.RingGraph.
-/
import Derived.Test.YtapnlheecplpgaaDoorRg
namespace Go.Proofs.YtapnlheecplpgaaDoor
set_option maxRecDepth 100000
open Go.RowKit Go.Maps

/-- What a ring graph is asked for. -/
def ringOk (n k : Int) : Bool := decide (3 ≤ n) && decide (n ≤ 31) && decide (1 ≤ k) && decide (k ≤ n - 1) && !decide (2 * k = n)
theorem ringOk_iff (n k : Int) : ringOk n k = true ↔ 3 ≤ n ∧ n ≤ 31 ∧ 1 ≤ k ∧ k ≤ n - 1 ∧ 2 * k ≠ n := by
  unfold ringOk; simp; omega
/-- The answer of RingGraph. -/
def RgN (n k : Int) : Int := if ringOk n k then 2 * n else 0
def RgL (n k : Int) : List Int := if ringOk n k then rowsF (2 * n.toNat) (adjS (ringS n.toNat k.toNat n.toNat)) else []
def RgC (n k : Int) : Int := if ringOk n k then 0 else 2
theorem RgL_length (n k : Int) : (RgL n k).length ≤ 62 := by
  unfold RgL; split
  · rename_i h; have := (ringOk_iff n k).1 h; rw [rowsF_length]; omega
  · simp

end Go.Proofs.YtapnlheecplpgaaDoor
