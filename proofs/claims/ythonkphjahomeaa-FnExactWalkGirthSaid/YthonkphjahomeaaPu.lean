/-
  spec.l01Put, spec.l01Has, spec.l01Empty on rows of pairs. (A plain seat.)
-/
import Derived.Test.YthonkphjahomeaaJp
import Derived.Deep.RegionWith
namespace Go.Proofs.Ythonkphjahomeaa
set_option maxRecDepth 100000
open Go.RowKit

theorem bt_rows {m : Nat} {f : Nat → Nat → Bool} {v x : Nat} (hv : v < m) (hx : x < m) : bt (el (rowsF m f) v) x = f v x := by
  rw [el_rowsF _ _ _ hv]
  unfold bt
  rw [Int.toNat_natCast, bitsN_testBit, decide_eq_true hx, Bool.true_and]
end Go.Proofs.Ythonkphjahomeaa
