/-
  spec.l03Lift. (A plain seat of bases and graphs of pairs.)
-/
import Derived.Test.YthonkphjahomeaaLh
import Derived.Test.YthonkphjahomeaaPu
import Derived.Deep.DeepCutAuto
namespace Go.Proofs.Ythonkphjahomeaa
set_option maxRecDepth 100000
open Go.RowKit

/-- Whether no two pairs of the lift's arcs so far are the same, and none is of one vertex. -/
def fthI (m : Nat) (fs : List Int) (j : Nat) : Nat → Bool
  | 0 => true
  | i + 1 => fthI m fs j i && !((arcP m fs j i).1 == (arcP m fs j i).2 || adjS (lfS m fs j ++ arcN m fs j (List.range i)) (arcP m fs j i).1 (arcP m fs j i).2)
def fthO (m : Nat) (fs : List Int) : Nat → Bool
  | 0 => true
  | j + 1 => fthO m fs j && fthI m fs j m

end Go.Proofs.Ythonkphjahomeaa
