/-
  math/bits.TrailingZeros64 over its table; the places of a number's digits 1, ascending.
-/
import Derived.Test.YtonfcmngokmgpaaPg
import Derived.Lib.TrailingZeros
namespace Go.Proofs.Ytonfcmngokmgpaa
set_option maxRecDepth 100000
open Go.RowKit

theorem and_u64_nat (a b : Nat) (ha : a < 18446744073709551616) (hb : b < 18446744073709551616) : bits .and .u64 (a : Int) (b : Int) = ((a &&& b : Nat) : Int) :=
  u64_and_nat a b ha hb

theorem tz_key (x a : Nat) (hx : x < 18446744073709551616) (hx0 : x ≠ 0) (hlow : x &&& (18446744073709551616 - x) = a) :
    IntKind.u64.wrap (bits BinOp.and IntKind.u64 (x : Int) (IntKind.u64.wrap (-(x : Int))) * 285870213051353865) / 288230376151711744 = ((a * 285870213051353865 % 18446744073709551616 / 288230376151711744 : Nat) : Int) := by
  have e1 : IntKind.u64.wrap (-(x : Int)) = ((18446744073709551616 - x : Nat) : Int) := by rw [IntKind.wrap_u64]; omega
  rw [e1, and_u64_nat x _ hx (by omega), hlow, IntKind.wrap_u64]
  omega

/-- The places of the digits 1 of a number below 2^64, ascending. -/
def mem (x : Nat) : List Nat := (List.range 64).filter fun j => x.testBit j

theorem filter_first (p q : Nat → Bool) : ∀ (k s d : Nat), d < k → p (s + d) = true → (∀ j, s ≤ j → j < s + d → p j = false) → (∀ j, q j = (p j && decide (j ≠ s + d))) →
    (List.range' s k).filter p = (s + d) :: (List.range' s k).filter q
  | 0, s, d, h, _, _, _ => absurd h (Nat.not_lt_zero _)
  | k + 1, s, 0, _, h1, _, h3 => by
    rw [List.range'_succ, List.filter_cons, List.filter_cons]
    have e : q s = false := by rw [h3]; simp
    rw [Nat.add_zero] at h1 h3 ⊢
    rw [if_pos h1, e, if_neg (by simp)]
    congr 1
    refine List.filter_congr fun j hj => ?_
    rw [List.mem_range'_1] at hj
    rw [h3, decide_eq_true (by omega), Bool.and_true]
  | k + 1, s, d + 1, h, h1, h2, h3 => by
    rw [List.range'_succ, List.filter_cons, List.filter_cons]
    have e1 : p s = false := h2 s (Nat.le_refl _) (by omega)
    have e : q s = false := by rw [h3, e1]; rfl
    rw [e1, e, if_neg (by simp), if_neg (by simp)]
    have e2 : s + (d + 1) = s + 1 + d := by omega
    rw [e2] at h1 h2 h3 ⊢
    exact filter_first p q k (s + 1) d (by omega) h1 (fun j a b => h2 j (by omega) b) h3

/-- The lowest digit 1 taken away. -/
theorem drop_low (x : Nat) (h0 : x ≠ 0) (h : x < 2 ^ 64) (j : Nat) : (x &&& (x - 1)).testBit j = (x.testBit j && decide (j ≠ Lib.ctz 64 x)) ∧ x.testBit (Lib.ctz 64 x) = true ∧ (j < Lib.ctz 64 x → x.testBit j = false) := by
  obtain ⟨m, hm, hk⟩ := Lib.ctzFrom_spec 64 x (by omega) h
  have e : Lib.ctz 64 x = Lib.ctzFrom 64 x := by simp [Lib.ctz, h0]
  rw [← e] at hm hk
  generalize Lib.ctz 64 x = c at *
  have e1 : x = 2 ^ (c + 1) * m + 2 ^ c := by rw [hm, Nat.pow_succ, Nat.mul_add, Nat.mul_one, Nat.mul_assoc]
  have hp : 0 < 2 ^ c := Nat.two_pow_pos c
  have hc1 : 2 ^ c < 2 ^ (c + 1) := by rw [Nat.pow_succ]; omega
  have e2 : x - 1 = 2 ^ (c + 1) * m + (2 ^ c - 1) := by omega
  have b1 : ∀ i, x.testBit i = if i < c + 1 then decide (c = i) else m.testBit (i - (c + 1)) := fun i => by
    rw [e1, Nat.testBit_two_pow_mul_add _ hc1, Nat.testBit_two_pow]
  have b2 : ∀ i, (x - 1).testBit i = if i < c + 1 then decide (i < c) else m.testBit (i - (c + 1)) := fun i => by
    rw [e2, Nat.testBit_two_pow_mul_add _ (by omega), Nat.testBit_two_pow_sub_one]
  refine ⟨?_, ?_, fun hj => ?_⟩
  · rw [Nat.testBit_and, b1, b2]
    by_cases hj : j < c + 1
    · simp only [if_pos hj]
      by_cases hjc : c = j
      · subst hjc; simp
      · simp [hjc]
    · simp only [if_neg hj, Bool.and_self]
      have : j ≠ c := by omega
      simp [this]
  · rw [b1, if_pos (by omega)]; simp
  · rw [b1, if_pos (by omega)]; simp; omega

theorem mem_zero : mem 0 = [] := by simp [mem]
theorem mem_step (x : Nat) (h0 : x ≠ 0) (h : x < 2 ^ 64) : mem x = Lib.ctz 64 x :: mem (x &&& (x - 1)) := by
  unfold mem
  rw [List.range_eq_range']
  have := filter_first (fun j => x.testBit j) (fun j => (x &&& (x - 1)).testBit j) 64 0 (Lib.ctz 64 x) (Lib.lowest_bit 64 x h0 h).2
    (by simpa using (drop_low x h0 h 0).2.1) (fun j _ hj => (drop_low x h0 h j).2.2 (by omega)) (fun j => by simpa using (drop_low x h0 h j).1)
  simpa using this
theorem drop_lt (x : Nat) (h0 : x ≠ 0) : x &&& (x - 1) < x := Nat.lt_of_le_of_lt Nat.and_le_right (by omega)
theorem mem_lt {x j : Nat} (h : j ∈ mem x) : j < 64 := by unfold mem at h; simp at h; exact h.1
theorem mem_iff {x j : Nat} : j ∈ mem x ↔ j < 64 ∧ x.testBit j = true := by unfold mem; simp
end Go.Proofs.Ytonfcmngokmgpaa
