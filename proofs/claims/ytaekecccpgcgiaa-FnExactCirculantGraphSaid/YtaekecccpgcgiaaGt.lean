/-
  spec.l05Order, spec.l05Times. (A plain seat.)
-/
import Derived.Test.YtaekecccpgcgiaaGi
import Derived.Test.YtaekecccpgcgiaaGn
namespace Go.Proofs.Ytaekecccpgcgiaa
set_option maxRecDepth 100000
open Go.RowKit

theorem below_box {w : World} (o : Obj) (n : Nat) : Below w.heap.size w ((w.alloc o).drewN n) := drewN_below ((Below.refl _ _).alloc (Nat.le_refl _) _) n

theorem two_of {n : Nat} (h : n < 2) : n = 0 ∨ n = 1 := by omega
theorem div_cast {x p e : Nat} (h : x / p = e) : (x : Int) / (p : Int) = (e : Int) := by rw [← h]; simp

theorem mul_bd6 {a b : Int} (ha : 0 ≤ a) (ha2 : a ≤ 6) (hb : 0 ≤ b) (hb2 : b ≤ 6) : 0 ≤ a * b ∧ a * b ≤ 36 := by
  refine ⟨Int.mul_nonneg ha hb, ?_⟩
  have : a * b ≤ 6 * 6 := Int.mul_le_mul ha2 hb2 hb (by omega)
  omega

end Go.Proofs.Ytaekecccpgcgiaa
