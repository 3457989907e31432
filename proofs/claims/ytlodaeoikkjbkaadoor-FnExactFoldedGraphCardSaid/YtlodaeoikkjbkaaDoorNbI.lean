/-
  impl.listOf and impl.NeighboursOf.
-/
import Derived.Test.YtlodaeoikkjbkaaDoorNbS
import Derived.Test.YtlodaeoikkjbkaaDoorTurn
import Derived.RangeFuncBox
namespace Go.Proofs.YtlodaeoikkjbkaaDoor
set_option maxRecDepth 100000
open Go.RowKit Go.Shelf

attribute [local go_sem] Oper.semAt_some

/-- Numbers as values. -/
def natsV (l : List Nat) : List Value := l.map fun j : Nat => Value.int .i64 (j : Int)
theorem natsV_append (l m : List Nat) : natsV (l ++ m) = natsV l ++ natsV m := by simp [natsV]
end Go.Proofs.YtlodaeoikkjbkaaDoor
