/-
  spec.NeighboursOf: the list of neighbours; the code of vertices in a graph.
-/
import Derived.Test.YtbncfhmpkoaffaaDoorDegS
import Derived.BigQuiet
import Derived.Deep.QuietTactic
namespace Go.Proofs.YtbncfhmpkoaffaaDoor
set_option maxRecDepth 100000
open Go.RowKit

/-- The first k numbers are vertices. -/
def vsOk (n : Int) (vs : List Int) (k : Nat) : Bool := (List.range k).all fun i => decide (0 ≤ el vs i) && decide (el vs i ≤ n - 1)
theorem vsOk_zero (n : Int) (vs : List Int) : vsOk n vs 0 = true := by simp [vsOk]
theorem vsOk_succ (n : Int) (vs : List Int) (k : Nat) : vsOk n vs (k + 1) = (vsOk n vs k && (decide (0 ≤ el vs k) && decide (el vs k ≤ n - 1))) := by
  unfold vsOk; rw [List.range_succ, List.all_append]; simp
theorem vsOk_no {n : Int} {vs : List Int} {k m : Nat} (hk : k < m) (h : ¬ (0 ≤ el vs k ∧ el vs k ≤ n - 1)) : vsOk n vs m = false := by
  cases e : vsOk n vs m with
  | false => rfl
  | true =>
    unfold vsOk at e
    have := List.all_eq_true.1 e k (List.mem_range.2 hk)
    simp at this
    exact absurd this h

/-- The code of a list of vertices in a graph of the size n. -/
def vc (n : Int) (vs : List Int) : Int := if vsOk n vs vs.length then 0 else 2
theorem vc_yes {n : Int} {vs : List Int} (h : vsOk n vs vs.length = true) : vc n vs = 0 := by simp [vc, h]
theorem vc_no {n : Int} {vs : List Int} (h : vsOk n vs vs.length = false) : vc n vs = 2 := by simp [vc, h]

/-- The neighbours of a among the first k vertices. -/
def nbL (zs : List Int) (a k : Nat) : List Int := ((List.range k).filter (bt (el zs a))).map fun j : Nat => (j : Int)
theorem nbL_zero (zs : List Int) (a : Nat) : nbL zs a 0 = [] := by simp [nbL]
theorem nbL_yes (zs : List Int) (a k : Nat) (h : bt (el zs a) k = true) : nbL zs a (k + 1) = nbL zs a k ++ [(k : Int)] := by simp [nbL, List.range_succ, List.filter_append, h]
theorem nbL_no (zs : List Int) (a k : Nat) (h : bt (el zs a) k = false) : nbL zs a (k + 1) = nbL zs a k := by simp [nbL, List.range_succ, List.filter_append, h]
theorem nbL_length (zs : List Int) (a k : Nat) : (nbL zs a k).length ≤ k := by
  unfold nbL; rw [List.length_map]; exact Nat.le_trans (List.length_filter_le _ _) (by simp)

/-- The neighbours of x and the code. -/
def NL (n : Int) (zs : List Int) (x : Int) : List Int := if isG n zs && (decide (0 ≤ x) && decide (x ≤ n - 1)) then nbL zs x.toNat zs.length else []
def NC (n : Int) (zs : List Int) (x : Int) : Int := if isG n zs then (if decide (0 ≤ x) && decide (x ≤ n - 1) then 0 else 2) else 1
theorem NL_length (n : Int) (zs : List Int) (x : Int) : (NL n zs x).length ≤ zs.length := by
  unfold NL; split
  · exact nbL_length _ _ _
  · simp
theorem vs_one (n x : Int) : vsOk n [x] 1 = (decide (0 ≤ x) && decide (x ≤ n - 1)) := by simp [vsOk, el]
theorem cells_one {w : World} {k : Nat} {x : Int} (h : w.cell? ⟨k, 0, none⟩ = some (.int .i64 x)) : Cells w k 0 [x] := by
  intro i hi
  have : i = 0 := by simp at hi; exact hi
  subst this
  exact h

end Go.Proofs.YtbncfhmpkoaffaaDoor
