/-
  A graph in new memory, where no graph of pairs is in the seat.
-/
import Derived.Test.YtklgimikdnokcaaDoorPg
namespace Go.Proofs.YtklgimikdnokcaaDoor
set_option maxRecDepth 100000
open Go.RowKit

theorem grown_drew (w : World) (row : Option Nat) : w.grownBy w.drew row := ⟨rfl, rfl, rfl, Nat.le_refl _, fun _ _ _ => rfl⟩
def GRet (B n : Nat) (L : List Int) (e : Ending) (w' : World) : Prop := ∃ g, e = .returned (.agg #[.int .i64 n, .slice (some ⟨g, 0, none⟩) n n]) ∧ Blk w' g L ∧ B ≤ g
end Go.Proofs.YtklgimikdnokcaaDoor
