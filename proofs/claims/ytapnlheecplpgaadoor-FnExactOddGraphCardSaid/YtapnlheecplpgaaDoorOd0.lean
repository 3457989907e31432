/-
  Odd graphs: the model's sets, plain facts.
-/
import Derived.Test.YtapnlheecplpgaaDoorPg
namespace Go.Proofs.YtapnlheecplpgaaDoor
set_option maxRecDepth 100000
open Go.RowKit

/-- The sets of c of the r numbers from x on, as rows, in order. -/
def stL : Nat → Nat → Nat → List Nat
  | 0, _, _ => [0]
  | c + 1, x, r => (List.range r).flatMap fun y => (stL c (x + y + 1) (r - y - 1)).map fun z => 2 ^ (x + y) ||| z
/-- The first j of those that begin with number x + i. -/
def stJ (c x r i j : Nat) : List Nat := ((stL c (x + i + 1) (r - i - 1)).take j).map fun z => 2 ^ (x + i) ||| z
def stI (c x r i : Nat) : List Nat := (List.range i).flatMap fun y => (stL c (x + y + 1) (r - y - 1)).map fun z => 2 ^ (x + y) ||| z
theorem stI_zero (c x r : Nat) : stI c x r 0 = [] := rfl
theorem stI_all (c x r : Nat) : stI c x r r = stL (c + 1) x r := rfl
theorem stJ_zero (c x r i : Nat) : stJ c x r i 0 = [] := by simp [stJ]
theorem stJ_all (c x r i : Nat) : stI c x r i ++ stJ c x r i (stL c (x + i + 1) (r - i - 1)).length = stI c x r (i + 1) := by
  unfold stI stJ
  rw [List.range_succ, List.flatMap_append, List.take_length]
  simp
theorem stJ_succ {c x r i j : Nat} (h : j < (stL c (x + i + 1) (r - i - 1)).length) : stJ c x r i (j + 1) = stJ c x r i j ++ [2 ^ (x + i) ||| (stL c (x + i + 1) (r - i - 1))[j]] := by
  unfold stJ
  rw [List.take_succ_eq_append_getElem h, List.map_append, List.map_cons, List.map_nil]
theorem flat_le {f : Nat → List Nat} {M : Nat} : ∀ n, (∀ y, y < n → (f y).length ≤ M) → ((List.range n).flatMap f).length ≤ n * M
  | 0, _ => by simp
  | n + 1, h => by
    rw [List.range_succ, List.flatMap_append, List.length_append, Nat.add_mul]
    have h1 := flat_le n (fun y hy => h y (by omega))
    have h2 := h n (by omega)
    simp only [List.flatMap_cons, List.flatMap_nil, List.append_nil]; omega
theorem stL_length : ∀ c x r, r ≤ 7 → (stL c x r).length ≤ 7 ^ c
  | 0, _, _, _ => by simp [stL]
  | c + 1, x, r, h => by
    have := flat_le (f := fun y => (stL c (x + y + 1) (r - y - 1)).map fun z => 2 ^ (x + y) ||| z) (M := 7 ^ c) r (fun y _ => by rw [List.length_map]; exact stL_length c _ _ (by omega))
    rw [stL]
    refine Nat.le_trans this ?_
    rw [Nat.pow_succ, Nat.mul_comm (7 ^ c)]
    exact Nat.mul_le_mul_right _ h
theorem stI_length {c x r i : Nat} (hr : r ≤ 7) (hi : i ≤ r) : (stI c x r i).length ≤ 7 ^ (c + 1) := by
  have := flat_le (f := fun y => (stL c (x + y + 1) (r - y - 1)).map fun z => 2 ^ (x + y) ||| z) (M := 7 ^ c) i (fun y _ => by rw [List.length_map]; exact stL_length c _ _ (by omega))
  refine Nat.le_trans this ?_
  rw [Nat.pow_succ, Nat.mul_comm (7 ^ c)]
  exact Nat.mul_le_mul_right _ (by omega)
theorem stL_lt : ∀ c x r z, z ∈ stL c x r → z < 2 ^ (x + r)
  | 0, x, r, z, h => by simp [stL] at h; subst h; exact Nat.two_pow_pos _
  | c + 1, x, r, z, h => by
    rw [stL, List.mem_flatMap] at h
    obtain ⟨y, hy, h⟩ := h
    rw [List.mem_map] at h
    obtain ⟨z', hz, rfl⟩ := h
    have hy' := List.mem_range.1 hy
    have h1 := stL_lt c _ _ z' hz
    rw [show x + y + 1 + (r - y - 1) = x + r by omega] at h1
    exact Nat.or_lt_two_pow (Nat.pow_lt_pow_right (by decide) (by omega)) h1
def nIO (L : List Nat) : List Int := L.map fun z : Nat => (z : Int)
theorem nIO_length (L : List Nat) : (nIO L).length = L.length := by simp [nIO]
end Go.Proofs.YtapnlheecplpgaaDoor
