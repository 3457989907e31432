/-
  Affine groups as plain numbers.
-/
import Derived.Test.YtklgimikdnokcaaDoorGm
namespace Go.Proofs.YtklgimikdnokcaaDoor
set_option maxRecDepth 100000

theorem ac_all : allB (fun p => !gOk 2 p || allB (fun a => allB (fun c => a == 0 || c == 0 || 1 ≤ a * c % p) p) p) 8 = true := by kernel_rfl

theorem ac_pos {p a c : Nat} (h : gOk 2 p = true) (ha1 : 1 ≤ a) (ha : a < p) (hc1 : 1 ≤ c) (hc : c < p) : 1 ≤ a * c % p := by
  have hp : p < 8 := by simp [gOk] at h; omega
  have := allB_at ac_all p hp
  rw [h] at this
  have t := allB_at (by simpa using this) a ha
  have := allB_at t c hc
  simp only [Bool.or_eq_true, beq_iff_eq, decide_eq_true_eq] at this
  omega
/-- The parts of an affine group's elements. -/
theorem aff_div {p x : Nat} (h : gOk 2 p = true) (hx : x < gOrd 2 p) : x / p + 1 < p ∧ x % p < p := by
  have hp := gOk_pos h
  refine ⟨?_, Nat.mod_lt _ (by omega)⟩
  have : x / p < p - 1 := Nat.div_lt_of_lt_mul hx
  omega
theorem gMul_2 {p x y : Nat} (h : gOk 2 p = true) (hx : x < gOrd 2 p) (hy : y < gOrd 2 p) :
    ((gMul 2 p x y : Nat) : Int) = (((x : Int) / p + 1) * ((y : Int) / p + 1) % p - 1) * p + (((x : Int) / p + 1) * ((y : Int) % p) + (x : Int) % p) % p := by
  have a1 := aff_div h hx
  have a2 := aff_div h hy
  have := ac_pos h (Nat.le_add_left 1 _) a1.1 (Nat.le_add_left 1 _) a2.1
  simp only [gMul]
  rw [Int.natCast_add, Int.natCast_mul, Int.natCast_sub this]
  simp
end Go.Proofs.YtklgimikdnokcaaDoor
