/-
  Groups as plain numbers: orders, products, quotients; the inverse and the powers, tried for all elements of all groups.
-/
import Derived.KernelRfl
namespace Go.Proofs.YtklgimikdnokcaaDoor
set_option maxRecDepth 100000

def allB (f : Nat → Bool) : Nat → Bool
  | 0 => true
  | n + 1 => allB f n && f n
theorem allB_at {f : Nat → Bool} : ∀ {n : Nat}, allB f n = true → ∀ i, i < n → f i = true
  | 0, _, i, h => absurd h (Nat.not_lt_zero i)
  | n + 1, h, i, hi => by
    simp only [allB, Bool.and_eq_true] at h
    rcases Nat.lt_succ_iff_lt_or_eq.1 hi with hlt | rfl
    · exact allB_at h.1 i hlt
    · exact h.2

/-- Is it a group? -/
def gOk : Nat → Nat → Bool
  | 0, p => 1 ≤ p && p ≤ 62
  | 1, p => 1 ≤ p && p ≤ 31
  | 2, p => p == 2 || p == 3 || p == 5 || p == 7
  | _, _ => false
/-- The number of elements. -/
def gOrd : Nat → Nat → Nat
  | 1, p => 2 * p
  | 2, p => p * (p - 1)
  | _, p => p
/-- The product. -/
def gMul : Nat → Nat → Nat → Nat → Nat
  | 1, p, x, y => (x / p + y / p) % 2 * p + (x % p + (if x / p = 1 then p - y % p else y % p)) % p
  | 2, p, x, y => ((x / p + 1) * (y / p + 1) % p - 1) * p + ((x / p + 1) * (y % p) + x % p) % p
  | _, p, x, y => (x + y) % p
/-- The least factor e of at least 1 (behind s, in n steps) that leads c to a. -/
def gE (p c a : Nat) : Nat → Nat → Nat
  | 0, s => s
  | n + 1, s => if s * c % p = a then s else gE p c a n (s + 1)
/-- The quotient. -/
def gQuo : Nat → Nat → Nat → Nat → Nat
  | 1, p, x, y => gMul 1 p x (if y < p then (p - y) % p else y)
  | 2, p, x, y => (gE p (y / p + 1) (x / p + 1) p 1 % p - 1) * p + (x % p + (p - gE p (y / p + 1) (x / p + 1) p 1) * (y % p)) % p
  | _, p, x, y => (x + p - y) % p
/-- The i-th power. -/
def gPow (k p x : Nat) : Nat → Nat
  | 0 => 0
  | i + 1 => gMul k p (gPow k p x i) x
/-- The order, looked for in n steps from the power y, the s-th, on. -/
def gOf (k p x : Nat) : Nat → Nat → Nat → Nat
  | 0, _, s => s
  | n + 1, y, s => if y = 0 then s else gOf k p x n (gMul k p y x) (s + 1)

/-- All of a group's elements. -/
def allE (f : Nat → Nat → Nat → Bool) : Bool := allB (fun k => allB (fun p => !gOk k p || allB (fun x => f k p x) (gOrd k p)) 63) 3
theorem gOk_lt {k p : Nat} (h : gOk k p = true) : k < 3 ∧ p < 63 := by
  match k, h with
  | 0, h => simp [gOk] at h; omega
  | 1, h => simp [gOk] at h; omega
  | 2, h => simp [gOk] at h; omega
  | k + 3, h => simp [gOk] at h
theorem allE_at {f : Nat → Nat → Nat → Bool} (h : allE f = true) {k p x : Nat} (hg : gOk k p = true) (hx : x < gOrd k p) : f k p x = true := by
  obtain ⟨h1, h2⟩ := gOk_lt hg
  have := allB_at (allB_at h k h1) p h2
  rw [hg] at this
  exact allB_at (by simpa using this) x hx

theorem gOrd_le_all : allE (fun k p _ => gOrd k p ≤ 62 && 1 ≤ p) = true := by kernel_rfl
theorem inv_all : allE (fun k p x => gQuo k p 0 x < gOrd k p && gMul k p x (gQuo k p 0 x) == 0 && allB (fun y => gMul k p x y != 0) (gQuo k p 0 x)) = true := by kernel_rfl
theorem of_all : allE (fun k p x => gOf k p x 62 x 1 ≤ 62 && gPow k p x (gOf k p x 62 x 1) == 0) = true := by kernel_rfl
theorem gOf_least (k p x : Nat) : ∀ n s i, s ≤ i → i < gOf k p x n (gPow k p x s) s → gPow k p x i ≠ 0
  | 0, s, i, h1, h2 => by simp only [gOf] at h2; omega
  | n + 1, s, i, h1, h2 => by
    simp only [gOf] at h2
    by_cases h0 : gPow k p x s = 0
    · rw [if_pos h0] at h2; omega
    · rw [if_neg h0] at h2
      by_cases he : i = s
      · subst he; exact h0
      · exact gOf_least k p x n (s + 1) i (by omega) h2
theorem e_all : allB (fun p => !gOk 2 p || allB (fun a => allB (fun c => a == 0 || c == 0 || (1 ≤ gE p c a p 1 && gE p c a p 1 < p && gE p c a p 1 * c % p == a && allB (fun e => e == 0 || e * c % p != a) (gE p c a p 1))) p) p) 8 = true := by kernel_rfl

theorem gOk_pos {k p : Nat} (h : gOk k p = true) : 1 ≤ p ∧ p ≤ 62 := by
  match k, h with
  | 0, h => simp [gOk] at h; omega
  | 1, h => simp [gOk] at h; omega
  | 2, h => simp [gOk] at h; omega
  | k + 3, h => simp [gOk] at h
theorem gOrd_pos {k p : Nat} (h : gOk k p = true) : 0 < gOrd k p := by
  match k, h with
  | 0, h => simp [gOk] at h; simp [gOrd]; omega
  | 1, h => simp [gOk] at h; simp [gOrd]; omega
  | 2, h => simp only [gOk, Bool.or_eq_true, beq_iff_eq] at h; rcases h with ((rfl | rfl) | rfl) | rfl <;> decide
  | k + 3, h => simp [gOk] at h
theorem gOrd_le {k p : Nat} (h : gOk k p = true) : gOrd k p ≤ 62 := by
  have := allE_at gOrd_le_all h (gOrd_pos h)
  simp at this; exact this.1
theorem gMul_lt {k p x y : Nat} (h : gOk k p = true) : gMul k p x y < gOrd k p := by
  have hp := (gOk_pos h).1
  match k, h with
  | 0, h => simp only [gMul, gOrd]; exact Nat.mod_lt _ (by omega)
  | 1, h =>
    simp only [gMul, gOrd]
    have h1 := Nat.mod_lt (x / p + y / p) (show 2 > 0 by omega)
    have h2 := Nat.mod_lt (x % p + (if x / p = 1 then p - y % p else y % p)) (show p > 0 by omega)
    have h3 : (x / p + y / p) % 2 * p ≤ 1 * p := Nat.mul_le_mul_right p (by omega)
    omega
  | 2, h =>
    simp only [gMul, gOrd]
    have h0 : 2 ≤ p := by simp [gOk] at h; omega
    have h1 := Nat.mod_lt ((x / p + 1) * (y / p + 1)) (show p > 0 by omega)
    have h2 := Nat.mod_lt ((x / p + 1) * (y % p) + x % p) (show p > 0 by omega)
    have h3 : ((x / p + 1) * (y / p + 1) % p - 1) * p ≤ (p - 2) * p := Nat.mul_le_mul_right p (by omega)
    have h4 : p * (p - 1) = (p - 2) * p + p := by
      obtain ⟨q, rfl⟩ : ∃ q, p = q + 2 := ⟨p - 2, by omega⟩
      simp only [Nat.add_sub_cancel]
      rw [show q + 2 - 1 = q + 1 by omega, Nat.mul_comm q]
      rfl
    omega
  | k + 3, h => simp [gOk] at h
theorem gInv_lt {k p x : Nat} (h : gOk k p = true) (hx : x < gOrd k p) : gQuo k p 0 x < gOrd k p := by
  have := allE_at inv_all h hx
  simp only [Bool.and_eq_true, decide_eq_true_eq] at this
  exact this.1.1
theorem gInv_mul {k p x : Nat} (h : gOk k p = true) (hx : x < gOrd k p) : gMul k p x (gQuo k p 0 x) = 0 := by
  have := allE_at inv_all h hx
  simp only [Bool.and_eq_true, beq_iff_eq] at this
  exact this.1.2
theorem gInv_least {k p x y : Nat} (h : gOk k p = true) (hx : x < gOrd k p) (hy : y < gQuo k p 0 x) : gMul k p x y ≠ 0 := by
  have := allE_at inv_all h hx
  simp only [Bool.and_eq_true] at this
  simpa using allB_at this.2 y hy
/-- The order of an element. -/
def gOrder (k p x : Nat) : Nat := gOf k p x 62 x 1
theorem gOrder_le {k p x : Nat} (h : gOk k p = true) (hx : x < gOrd k p) : gOrder k p x ≤ 62 := by
  have := allE_at of_all h hx
  simp only [Bool.and_eq_true, decide_eq_true_eq] at this
  exact this.1
theorem gOrder_pow {k p x : Nat} (h : gOk k p = true) (hx : x < gOrd k p) : gPow k p x (gOrder k p x) = 0 := by
  have := allE_at of_all h hx
  simp only [Bool.and_eq_true, beq_iff_eq] at this
  exact this.2
theorem gPow_one {k p x : Nat} (h : gOk k p = true) (hx : x < gOrd k p) : gPow k p x 1 = x := by
  have := allE_at (f := fun k p x => gPow k p x 1 == x) (by kernel_rfl) h hx
  simpa using this
theorem gOrder_least {k p x i : Nat} (h : gOk k p = true) (hx : x < gOrd k p) (hi : i < gOrder k p x) (h1 : 1 ≤ i) : gPow k p x i ≠ 0 := by
  have := gOf_least k p x 62 1 i h1
  rw [gPow_one h hx] at this
  exact this hi
theorem gPow_lt {k p x : Nat} (h : gOk k p = true) : ∀ i, gPow k p x i < gOrd k p
  | 0 => gOrd_pos h
  | _ + 1 => gMul_lt h
theorem gE_ok {p c a : Nat} (h : gOk 2 p = true) (ha1 : 1 ≤ a) (ha : a < p) (hc1 : 1 ≤ c) (hc : c < p) : 1 ≤ gE p c a p 1 ∧ gE p c a p 1 < p ∧ gE p c a p 1 * c % p = a ∧ ∀ e, 1 ≤ e → e < gE p c a p 1 → e * c % p ≠ a := by
  have hp : p < 8 := by simp [gOk] at h; omega
  have := allB_at e_all p hp
  rw [h] at this
  have t := allB_at (by simpa using this) a ha
  have := allB_at t c hc
  simp only [Bool.or_eq_true, Bool.and_eq_true, beq_iff_eq, decide_eq_true_eq] at this
  rcases this with (h1 | h1) | ⟨⟨⟨h1, h2⟩, h3⟩, h4⟩
  · omega
  · omega
  · refine ⟨h1, h2, h3, fun e he1 he => ?_⟩
    have := allB_at h4 e he
    simp only [Bool.or_eq_true, beq_iff_eq, bne_iff_ne] at this
    omega
end Go.Proofs.YtklgimikdnokcaaDoor
