/-
  Sums of powers and bounds: plain numbers.
-/
import Derived.WalkKit
namespace Go.Proofs.YtbncfhmpkoaffaaDoor
set_option maxRecDepth 100000
open Go.RowKit

/-- b^n, behind a name. -/
def pw (b n : Nat) : Nat := b ^ n
theorem pw_zero (b : Nat) : pw b 0 = 1 := by simp [pw]
theorem pw_succ (b n : Nat) : pw b (n + 1) = pw b n * b := by unfold pw; exact Nat.pow_succ ..
/-- b^0 + .. + b^(n-1). -/
def sumP (b : Nat) : Nat → Nat
  | 0 => 0
  | n + 1 => sumP b n + pw b n
theorem sumP_succ (b n : Nat) : sumP b (n + 1) = sumP b n + pw b n := rfl
theorem sumP_mono (b n d : Nat) : sumP b n ≤ sumP b (n + d) := by
  induction d with
  | zero => exact Nat.le_refl _
  | succ d ih => rw [← Nat.add_assoc, sumP_succ]; omega
theorem sumP_le {b n m : Nat} (h : n ≤ m) : sumP b n ≤ sumP b m := by
  have := sumP_mono b n (m - n)
  rwa [show n + (m - n) = m by omega] at this

/-- A number, and 10^12 + 1 if it is greater. -/
def cap12 (x : Nat) : Nat := min x 1000000000001
theorem cap12_le (x : Nat) : cap12 x ≤ 1000000000001 := Nat.min_le_right _ _
theorem cap12_add (x y : Nat) : min (cap12 x + cap12 y) 1000000000001 = cap12 (x + y) := by unfold cap12; omega
theorem cap12_mul (x b : Nat) : min (cap12 x * b) 1000000000001 = cap12 (x * b) := by
  unfold cap12
  rcases Nat.le_total x 1000000000001 with h | h
  · rw [Nat.min_eq_left h]
  · rw [Nat.min_eq_right h]
    rcases Nat.eq_zero_or_pos b with rfl | hb
    · simp
    · have h1 : 1000000000001 ≤ 1000000000001 * b := Nat.le_mul_of_pos_right _ hb
      have h2 : 1000000000001 ≤ x * b := Nat.le_trans h (Nat.le_mul_of_pos_right _ hb)
      omega
theorem cap12_small {x : Nat} (h : x ≤ 1000000000000) : cap12 x = x := by unfold cap12; omega
theorem cap12_big {x : Nat} (h : 1000000000000 < x) : cap12 x = 1000000000001 := by unfold cap12; omega

/-- The next power is at most 62 times the sum so far, and 1 at the start. -/
theorem pow_le_sum (b n : Nat) (hb : b ≤ 62) : pw b n ≤ 62 * sumP b n + 1 := by
  cases n with
  | zero => simp [pw]
  | succ n =>
    rw [sumP_succ, pw_succ]
    have : pw b n * b ≤ pw b n * 62 := Nat.mul_le_mul_left _ hb
    omega

/-- A bound and its code. -/
def bdV (x : Nat) : Int := if x ≤ 1000000000000 then x else 0
def bdC (x : Nat) : Int := if x ≤ 1000000000000 then 0 else 3
/-- What the sum of the program may be: the sum, or something beyond 10^12 where it is beyond. -/
def SumOk (b n : Nat) (r : Nat) : Prop := (sumP b n ≤ 1000000000000 → r = sumP b n) ∧ (1000000000000 < sumP b n → 1000000000000 < r) ∧ r ≤ 63000000000001
theorem SumOk.odd {b n r k : Nat} (h : SumOk b n r) (hk : 1 ≤ k) : bdV (1 + k * r) = bdV (1 + k * sumP b n) ∧ bdC (1 + k * r) = bdC (1 + k * sumP b n) := by
  rcases Nat.lt_or_ge 1000000000000 (sumP b n) with g | g
  rotate_left
  · rw [h.1 g]; exact ⟨rfl, rfl⟩
  · have h1 := h.2.1 g
    have e1 : r ≤ k * r := Nat.le_mul_of_pos_left _ hk
    have e2 : sumP b n ≤ k * sumP b n := Nat.le_mul_of_pos_left _ hk
    unfold bdV bdC
    rw [if_neg (by omega), if_neg (by omega), if_neg (by omega), if_neg (by omega)]
    exact ⟨rfl, rfl⟩
theorem SumOk.even {b n r : Nat} (h : SumOk b n r) : bdV (2 * r) = bdV (2 * sumP b n) ∧ bdC (2 * r) = bdC (2 * sumP b n) := by
  rcases Nat.lt_or_ge 1000000000000 (sumP b n) with g | g
  rotate_left
  · rw [h.1 g]; exact ⟨rfl, rfl⟩
  · have h1 := h.2.1 g
    unfold bdV bdC
    rw [if_neg (by omega), if_neg (by omega), if_neg (by omega), if_neg (by omega)]
    exact ⟨rfl, rfl⟩
theorem SumOk.cap (b n : Nat) : SumOk b n (cap12 (sumP b n)) := ⟨fun h => cap12_small h, fun h => by rw [cap12_big h]; omega, Nat.le_trans (cap12_le _) (by omega)⟩
theorem SumOk.sum (b n : Nat) (h : sumP b n ≤ 1000000000000) : SumOk b n (sumP b n) := ⟨fun _ => rfl, fun h => by omega, by omega⟩
theorem SumOk.over {b n m : Nat} (hm : m < n) (hb : b ≤ 62) (h : sumP b m ≤ 1000000000000) (h2 : 1000000000000 < sumP b (m + 1)) : SumOk b n (sumP b (m + 1)) :=
  ⟨fun g => by have := sumP_le (b := b) (show m + 1 ≤ n by omega); omega, fun _ => h2, by have := pow_le_sum b m hb; rw [sumP_succ]; omega⟩
end Go.Proofs.YtbncfhmpkoaffaaDoor
