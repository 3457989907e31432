/-
  spec.DegreesOf: the list of degrees.
-/
import Derived.Test.YtlodaeoikkjbkaaDoorDeg
import Derived.Test.YtlodaeoikkjbkaaDoorMark
import Derived.Maps.AppendAt
namespace Go.Proofs.YtlodaeoikkjbkaaDoor
set_option maxRecDepth 100000
open Go.RowKit

theorem ownsRow_below {w w' : World} {base : Nat} {e : TypeId} {size : Nat} {v : Value} {n : Nat} {xs : List Value} (h : w.ownsRow base e size v n xs) (hb : Below w.heap.size w w') : w'.ownsRow base e size v n xs :=
  World.ownsRow.kept h (grown_of_below hb none) (by cases v.ownBlock <;> simp)
/-- A list and a code, the list in memory of its own from block B on. -/
def LRes (B : Nat) (L : List Int) (c : Int) (e : Ending) (w' : World) : Prop := ∃ u, e = .returned (.tuple #[u, .int .i64 c]) ∧ Own w' B u L

/-- The degrees of the first k vertices. -/
def degL (zs : List Int) (k : Nat) : List Int := (List.range k).map fun v => (dg zs v : Int)
theorem degL_length (zs : List Int) (k : Nat) : (degL zs k).length = k := by simp [degL]
theorem degL_succ (zs : List Int) (k : Nat) : degL zs (k + 1) = degL zs k ++ [(dg zs k : Int)] := by simp [degL, List.range_succ]
def DL (n : Int) (zs : List Int) : List Int := if isG n zs then degL zs zs.length else []
def DC (n : Int) (zs : List Int) : Int := if isG n zs then 0 else 1

end Go.Proofs.YtlodaeoikkjbkaaDoor
