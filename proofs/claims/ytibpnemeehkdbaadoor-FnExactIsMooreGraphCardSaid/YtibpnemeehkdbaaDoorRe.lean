/-
  spec.l02Reaches, spec.ReachesOf and impl.ReachesOf.
-/
import Derived.Test.YtibpnemeehkdbaaDoorMgF
namespace Go.Proofs.YtibpnemeehkdbaaDoor
set_option maxRecDepth 100000
open Go.RowKit

theorem lvL_pos {zs : List Int} {v : Nat} (hv : v < zs.length) : 0 < (lvL zs v).length := by
  have h := (lvF_ok (dsL zs v) zs.length).lt v hv
  have h0 : el (dsL zs v) v = 0 := by rw [dsL_at hv]; exact dOf_lev (R := Rw zs v 0) hv (d := 0) (by rw [lev_zero]; simp)
  rw [h0] at h
  show 0 < (lvF (dsL zs v) zs.length).length
  omega
/-- The reaches of the first k vertices. -/
def rcF (zs : List Int) (k : Nat) : List Int := (List.range k).map fun v => ((lvL zs v).length : Int) - 1
theorem rcF_length (zs : List Int) (k : Nat) : (rcF zs k).length = k := by simp [rcF]
theorem rcF_succ (zs : List Int) (k : Nat) : rcF zs (k + 1) = rcF zs k ++ [((lvL zs k).length : Int) - 1] := by simp [rcF, List.range_succ]
theorem rcF_at (zs : List Int) (k v : Nat) (h : v < k) : el (rcF zs k) v = ((lvL zs v).length : Int) - 1 := by unfold el rcF; simp [h]
def RcL (n : Int) (zs : List Int) : List Int := if isG n zs then rcF zs zs.length else []
theorem RcL_length (n : Int) (zs : List Int) : (RcL n zs).length ≤ zs.length := by unfold RcL; split <;> simp [rcF_length]

end Go.Proofs.YtibpnemeehkdbaaDoor
