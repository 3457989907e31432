/-
  spec.DegreesOf: the list of degrees.
-/
import Derived.Test.YtbacocldjcenjaaDoorDeg
import Derived.Test.YtbacocldjcenjaaDoorMark
import Derived.Maps.AppendAt
namespace Go.Proofs.YtbacocldjcenjaaDoor
set_option maxRecDepth 100000
open Go.RowKit

theorem ownsRow_below {w w' : World} {base : Nat} {e : TypeId} {size : Nat} {v : Value} {n : Nat} {xs : List Value} (h : w.ownsRow base e size v n xs) (hb : Below w.heap.size w w') : w'.ownsRow base e size v n xs :=
  World.ownsRow.kept h (grown_of_below hb none) (by cases v.ownBlock <;> simp)
end Go.Proofs.YtbacocldjcenjaaDoor
