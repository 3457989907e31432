/-
  spec.l02Connected, spec.l02Diameter, slices.Max, slices.Min, and DiameterOf on both sides.
-/
import Derived.Test.YtaokhhinfpdchaaDoorDm
namespace Go.Proofs.YtaokhhinfpdchaaDoor
set_option maxRecDepth 100000
open Go.RowKit

/-- The greatest and the least reach, and the code. -/
def dmD (n : Int) (zs : List Int) : Int := if isG n zs then (if connB zs then mxF (rcF zs zs.length) zs.length else 0) else 0
def dmR (n : Int) (zs : List Int) : Int := if isG n zs then (if connB zs then mnF (rcF zs zs.length) zs.length else 0) else 0
def dmC (n : Int) (zs : List Int) : Int := if isG n zs then (if connB zs then 0 else 5) else 1
theorem conn_no {zs : List Int} {k : Nat} (hk : k < zs.length) (h : el (dsL zs 0) k < 0) : connB zs = false := by
  cases hc : connB zs with
  | false => rfl
  | true =>
    unfold connB at hc
    rw [List.all_eq_true] at hc
    have := hc k (List.mem_range.2 hk)
    simp at this; omega
theorem conn_yes {zs : List Int} (h : ∀ k, k < zs.length → 0 ≤ el (dsL zs 0) k) : connB zs = true := by
  unfold connB
  rw [List.all_eq_true]
  intro k hk
  simpa using h k (List.mem_range.1 hk)

end Go.Proofs.YtaokhhinfpdchaaDoor
