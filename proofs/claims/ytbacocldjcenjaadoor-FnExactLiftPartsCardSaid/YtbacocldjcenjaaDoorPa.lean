/-
  Parts in lists: plain facts, and spec.PartsOf. (A tied seat of graphs.)
-/
import Derived.Test.YtbacocldjcenjaaDoorLwF
import Derived.Test.YtbacocldjcenjaaDoorPq
import Derived.Test.YtbacocldjcenjaaDoorTt
namespace Go.Proofs.YtbacocldjcenjaaDoor
set_option maxRecDepth 100000
set_option maxRecDepth 100000
open Go.RowKit

/-- The lists of the parts whose least vertex lies ahead of v. -/
def PtU (zs : List Int) (v : Nat) : List (List Int) := (prN zs v).map fun u => nI (ptN zs u)
def PtL (zs : List Int) : List (List Int) := PtU zs zs.length
theorem PtU_length (zs : List Int) (v : Nat) : (PtU zs v).length = (prN zs v).length := by simp [PtU]
section
variable {zs D : List Int} {v w : Nat} (h : LdF zs D zs.length)
include h
theorem lead_iff (hv : v < zs.length) : leadB zs v = decide (el D v = (v : Int)) := by
  obtain ⟨u, hu, hl⟩ := ldB_ex hv
  have e := h.met v u hv (by omega) hl
  rw [Bool.eq_iff_iff, leadB_iff, decide_eq_true_iff, e]
  constructor
  · intro hn
    have : ¬ u < v := fun hlt => hn u hlt hl.1
    omega
  · intro e2 y hy
    exact hl.2 y (by omega)
end
end Go.Proofs.YtbacocldjcenjaaDoor
