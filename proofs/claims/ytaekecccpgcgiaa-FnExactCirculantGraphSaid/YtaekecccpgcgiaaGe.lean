/-
  Lists of elements: impl.isRest, impl.areRests, spec.l05Elements, impl.groupWith. (A plain seat.)
-/
import Derived.Test.YtaekecccpgcgiaaGk
namespace Go.Proofs.Ytaekecccpgcgiaa
set_option maxRecDepth 100000
open Go.RowKit

/-- A number that is an element. -/
def inE (m : Int) (z : Int) : Bool := decide (0 ≤ z) && decide (z < m)
theorem inE_iff (m z : Int) : inE m z = true ↔ 0 ≤ z ∧ z < m := by unfold inE; simp
def elOk (m : Int) (zs : List Int) (k : Nat) : Bool := (List.range k).all fun i => inE m (el zs i)
theorem elOk_succ (m : Int) (zs : List Int) (k : Nat) : elOk m zs (k + 1) = (elOk m zs k && inE m (el zs k)) := by
  unfold elOk; rw [List.range_succ, List.all_append]; simp
theorem elOk_at {m : Int} {zs : List Int} {k i : Nat} (h : elOk m zs k = true) (hi : i < k) : 0 ≤ el zs i ∧ el zs i < m :=
  (inE_iff _ _).1 (List.all_eq_true.1 h i (List.mem_range.2 hi))
theorem elOk_no {m : Int} {zs : List Int} {k i : Nat} (hi : i < k) (h : inE m (el zs i) = false) : elOk m zs k = false := by
  cases e : elOk m zs k with
  | false => rfl
  | true => have := List.all_eq_true.1 e i (List.mem_range.2 hi); rw [h] at this; cases this
/-- The code of elements. -/
def elK (m : Int) (zs : List Int) : Int := if elOk m zs zs.length then 0 else 2
theorem elK_no {m : Int} {zs : List Int} (h : elOk m zs zs.length = false) : elK m zs = 2 := by unfold elK; rw [h]; rfl
theorem elK_yes {m : Int} {zs : List Int} (h : elOk m zs zs.length = true) : elK m zs = 0 := by unfold elK; rw [h]; rfl
/-- The code of a group and elements. -/
def elC (a b : Int) (zs : List Int) : Int := if isGr a b then if elOk (gOrd a.toNat b.toNat) zs zs.length then 0 else 2 else 1
theorem elC_no {a b : Int} (zs : List Int) (h : isGr a b = false) : elC a b zs = 1 := by unfold elC; rw [h]; rfl
theorem elC_bad {k p : Nat} {zs : List Int} (h : gOk k p = true) (he : elOk (gOrd k p) zs zs.length = false) : elC k p zs = 2 := by
  unfold elC; rw [isGr_cast, h, Int.toNat_natCast, Int.toNat_natCast, he]; rfl
theorem elC_yes {k p : Nat} {zs : List Int} (h : gOk k p = true) (he : elOk (gOrd k p) zs zs.length = true) : elC k p zs = 0 := by
  unfold elC; rw [isGr_cast, h, Int.toNat_natCast, Int.toNat_natCast, he]; rfl

end Go.Proofs.Ytaekecccpgcgiaa
