/-
  Plain facts on digits of numbers and on lists of rows; nothing of the program.
-/
import Derived.WalkKit
namespace Go.Proofs.Ytonfcmngokmgpaa
set_option maxRecDepth 100000
open Go.RowKit

/-- Element i of a list, 0 behind its end. -/
def el (zs : List Int) (i : Nat) : Int := zs.getD i 0
/-- The digit of z at 2^c. -/
def bt (z : Int) (c : Nat) : Bool := z.toNat.testBit c

theorem wrap_i64_nat (n : Int) (h0 : 0 ≤ n) (h1 : n < 2 ^ 63) : IntKind.i64.wrap n = n := by
  have : n ≤ 9223372036854775807 := by omega
  exact IntWalk.i64_in n ⟨by omega, this⟩

theorem and_i64 (a b : Nat) (ha : a < 2 ^ 63) (hb : b < 2 ^ 63) : bits .and .i64 (a : Int) (b : Int) = ((a &&& b : Nat) : Int) :=
  (bits_nat .i64 63 (by decide) wrap_i64_nat a b ha hb).1
theorem or_i64 (a b : Nat) (ha : a < 2 ^ 63) (hb : b < 2 ^ 63) : bits .or .i64 (a : Int) (b : Int) = ((a ||| b : Nat) : Int) :=
  (bits_nat .i64 63 (by decide) wrap_i64_nat a b ha hb).2

theorem testBit_div (z c : Nat) : (z / 2 ^ c % 2 == 1) = z.testBit c := by
  rw [Nat.testBit_eq_decide_div_mod_eq]
  simp [BEq.beq]

/-- 'row >> c & 1 == 1'. -/
theorem shr_bit (z : Int) (c : Nat) (h0 : 0 ≤ z) (h1 : z ≤ 9223372036854775807) : (bits .and .i64 (z / 2 ^ c) 1 == 1) = bt z c := by
  obtain ⟨k, rfl⟩ := Int.eq_ofNat_of_zero_le h0
  have e : ((k : Int) / 2 ^ c) = ((k / 2 ^ c : Nat) : Int) := by simp
  have hk : k / 2 ^ c < 2 ^ 63 := Nat.lt_of_le_of_lt (Nat.div_le_self _ _) (by omega)
  rw [e, show (1 : Int) = ((1 : Nat) : Int) from rfl, and_i64 _ _ hk (by decide), nat_mask1]
  unfold bt
  rw [Int.toNat_natCast, ← testBit_div]
  rw [Bool.eq_iff_iff]; simp
  omega

theorem pow_bounds (n : Nat) (h : n ≤ 62) : (1 : Int) ≤ 2 ^ n ∧ (2 : Int) ^ n ≤ 4611686018427387904 := by
  have h1 : 2 ^ n ≤ 2 ^ 62 := Nat.pow_le_pow_right (by decide) h
  have h2 : 0 < 2 ^ n := Nat.two_pow_pos n
  have e : ((2 : Int) ^ n) = ((2 ^ n : Nat) : Int) := by simp
  rw [e]
  omega

theorem u64_small (n : Int) (h0 : 0 ≤ n) (h1 : n ≤ 62) : IntKind.u64.wrap n = n := IntWalk.u64_in n ⟨h0, by omega⟩
theorem min_small (n : Int) (h1 : n ≤ 62) : min n.toNat 64 = n.toNat := by omega
theorem i64_pow (n : Int) (h1 : n ≤ 62) : IntKind.i64.wrap (2 ^ n.toNat) = 2 ^ n.toNat := by
  have := pow_bounds n.toNat (by omega)
  exact IntWalk.i64_in _ ⟨by omega, by omega⟩
theorem i64_pow1 (n : Int) (h1 : n ≤ 62) : IntKind.i64.wrap (2 ^ n.toNat - 1) = 2 ^ n.toNat - 1 := by
  have := pow_bounds n.toNat (by omega)
  exact IntWalk.i64_in _ ⟨by omega, by omega⟩

end Go.Proofs.Ytonfcmngokmgpaa
