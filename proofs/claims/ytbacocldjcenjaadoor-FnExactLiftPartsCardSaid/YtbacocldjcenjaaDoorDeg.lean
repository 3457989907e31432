/-
  The number of digits of a row: both programs' counts.
-/
import Derived.Test.YtbacocldjcenjaaDoorOnes
import Derived.Test.YtbacocldjcenjaaDoorIsB
import Derived.Test.YtbacocldjcenjaaDoorInts
import Derived.Deep.RegionHeld3
namespace Go.Proofs.YtbacocldjcenjaaDoor
set_option maxRecDepth 100000
open Go.RowKit

theorem pcF_zero : ∀ f, pcF f 0 = 0
  | 0 => rfl
  | f + 1 => by rw [pcF, pcF_zero f]
/-- The degree of a vertex. -/
def dg (zs : List Int) (v : Nat) : Nat := pc (el zs v).toNat
def same (zs : List Int) (k : Nat) : Bool := (List.range k).all fun v => dg zs v == dg zs 0
/-- The rows of a graph: what its validity gives. -/
theorem isG_parts {n : Int} {zs : List Int} (h : isG n zs = true) : 1 ≤ n ∧ n ≤ 62 ∧ (zs.length : Int) = n ∧ rowsOk n zs zs.length = true ∧ symTo zs zs.length = true := by
  unfold isG at h; simp only [Bool.and_eq_true, decide_eq_true_eq] at h
  exact ⟨h.1.1.1.1, h.1.1.1.2, h.1.1.2, h.1.2, h.2⟩
theorem isG_row_ok {n : Int} {zs : List Int} (h : isG n zs = true) (i : Nat) (hi : i < zs.length) : 0 ≤ el zs i ∧ el zs i ≤ 9223372036854775807 := by
  obtain ⟨h1, h2, _, h4, _⟩ := isG_parts h
  have a := rowOk_ge (rowsOk_at h4 hi)
  have b := rowOk_le (rowsOk_at h4 hi)
  have := pow_bounds n.toNat (by omega)
  exact ⟨a, by omega⟩

attribute [irreducible] dg
end Go.Proofs.YtbacocldjcenjaaDoor
