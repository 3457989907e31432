/-
  spec.l02From: the distances by a queue.
-/
import Derived.Test.YtbacocldjcenjaaDoorLm
import Derived.Test.YtbacocldjcenjaaDoorOn1
import Derived.Deep.AppendLies
namespace Go.Proofs.YtbacocldjcenjaaDoor
set_option maxRecDepth 100000
open Go.RowKit

def nI (Q : List Nat) : List Int := Q.map fun q : Nat => (q : Int)
theorem nI_length (Q : List Nat) : (nI Q).length = Q.length := by simp [nI]
theorem nI_append (Q : List Nat) (y : Nat) : nI (Q ++ [y]) = nI Q ++ [(y : Int)] := by simp [nI]
theorem nI_at {Q : List Nat} {i x : Nat} (h : Q[i]? = some x) : el (nI Q) i = (x : Int) := by unfold el nI; simp [h]
theorem rep_succ (k : Nat) (x : Int) : List.replicate (k + 1) x = List.replicate k x ++ [x] := by rw [List.replicate_succ']
theorem bit_zero (z : Int) (y : Nat) (h0 : 0 ≤ z) (h1 : z ≤ 9223372036854775807) : (bits .and .i64 (z / 2 ^ y) 1 == 0) = !bt z y := by
  obtain ⟨k, rfl⟩ := Int.eq_ofNat_of_zero_le h0
  have e : ((k : Int) / 2 ^ y) = ((k / 2 ^ y : Nat) : Int) := by simp
  have hk : k / 2 ^ y < 2 ^ 63 := Nat.lt_of_le_of_lt (Nat.div_le_self _ _) (by omega)
  rw [e, show (1 : Int) = ((1 : Nat) : Int) from rfl, and_i64 _ _ hk (by decide), nat_mask1]
  unfold bt
  rw [Int.toNat_natCast, ← testBit_div]
  rw [Bool.eq_iff_iff]; simp
  omega

theorem Rw_zero (zs : List Int) (v x y : Nat) : Rw zs v 0 x y = bt (el zs x) y := by simp [Rw]

end Go.Proofs.YtbacocldjcenjaaDoor
