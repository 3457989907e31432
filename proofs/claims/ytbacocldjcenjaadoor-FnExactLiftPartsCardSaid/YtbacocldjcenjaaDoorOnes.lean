/-
  math/bits.OnesCount64: the number of digits 1.
-/
import Derived.Test.YtbacocldjcenjaaDoorTz
namespace Go.Proofs.YtbacocldjcenjaaDoor
set_option maxRecDepth 100000
open Go.RowKit

/-- The number of digits 1. -/
def pcF : Nat → Nat → Nat
  | 0, _ => 0
  | f + 1, x => x % 2 + pcF f (x / 2)
def pc (x : Nat) : Nat := pcF 64 x

def c1 (b : Nat) : Nat := (b / 2 &&& 85) + (b &&& 85)
def c2 (b : Nat) : Nat := (b / 4 &&& 51) + (b &&& 51)
def c3 (b : Nat) : Nat := (b / 16 + b) % 16
/-- The bytes of a number. -/
def bytes : Nat → Nat → List Nat
  | 0, _ => []
  | k + 1, x => x % 256 :: bytes k (x / 256)
theorem pcF_add : ∀ (a b x : Nat), pcF (a + b) x = pcF a x + pcF b (x / 2 ^ a)
  | 0, b, x => by simp [pcF]
  | a + 1, b, x => by
    rw [show a + 1 + b = (a + b) + 1 from by omega, pcF, pcF, pcF_add a b (x / 2), Nat.pow_succ, Nat.mul_comm, ← Nat.div_div_eq_div_mul]
    omega
end Go.Proofs.YtbacocldjcenjaaDoor
