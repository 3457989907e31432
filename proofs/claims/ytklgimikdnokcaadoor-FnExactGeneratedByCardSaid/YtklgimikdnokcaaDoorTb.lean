/-
  The base of a tied seat of groups: the plain base, the table, lists of digits; lists as answers.
-/
import Derived.Test.YtklgimikdnokcaaDoorPg
import Derived.Test.YtklgimikdnokcaaDoorLo
namespace Go.Proofs.YtklgimikdnokcaaDoor
set_option maxRecDepth 100000
open Go.RowKit

/-- A list and a code, the list in memory of its own from block B on. -/
def LRes (B : Nat) (L : List Int) (c : Int) (e : Ending) (w' : World) : Prop := ∃ u, e = .returned (.tuple #[u, .int .i64 c]) ∧ Own w' B u L
end Go.Proofs.YtklgimikdnokcaaDoor
