/-
  impl.IsGraph: its answer is isG.
-/
import Derived.Test.YtbacocldjcenjaaDoorRowArr
import Derived.Test.YtbacocldjcenjaaDoorMem
import Derived.Deep.RegionHeld3
import Derived.Deep.RegionWith
import Derived.Lib.Hide
namespace Go.Proofs.YtbacocldjcenjaaDoor
set_option maxRecDepth 100000
open Go.RowKit Go.Shelf

theorem tcol_bit (f : Nat → Nat) (j : Nat) : ∀ (v k : Nat), (tcol f v j).testBit k = (decide (k < v) && (f k).testBit j)
  | 0, k => by simp [tcol]
  | v + 1, k => by
    have ih := tcol_bit f j v k
    rw [tcol]
    by_cases hb : (f v).testBit j = true
    · rw [if_pos hb, Nat.testBit_or, ih, Nat.testBit_two_pow]
      by_cases hk : v = k
      · subst hk; simp [hb]
      · have : (k < v + 1) ↔ k < v := by omega
        simp [hk, this]
    · rw [if_neg hb, ih]
      by_cases hk : v = k
      · subst hk; simp [hb]
      · have : (k < v + 1) ↔ k < v := by omega
        simp [this]

theorem eq_tcol (f : Nat → Nat) (hf : ∀ i, i < 62 → f i < 4611686018427387904) (i : Nat) (hi : i < 62) : f i = tcol f 62 i ↔ ∀ k, k < 62 → (f i).testBit k = (f k).testBit i := by
  constructor
  · intro h k hk
    have : (f i).testBit k = (tcol f 62 i).testBit k := by rw [← h]
    rw [this, tcol_bit]; simp [hk]
  · intro h
    apply Nat.eq_of_testBit_eq
    intro k
    rw [tcol_bit]
    by_cases hk : k < 62
    · rw [h k hk]; simp [hk]
    · have h1 : f i < 2 ^ k := Nat.lt_of_lt_of_le (hf i hi) (show 2 ^ 62 ≤ 2 ^ k from Nat.pow_le_pow_right (by decide) (by omega))
      rw [Nat.testBit_lt_two_pow h1]; simp [hk]

/-- The rows as natural numbers. -/
def nat (zs : List Int) (i : Nat) : Nat := (el zs i).toNat

theorem rows_nat {n : Int} {zs : List Int} (hr : rowsOk n zs zs.length = true) : (∀ i, 0 ≤ el zs i) ∧ ∀ i, nat zs i < 2 ^ n.toNat := by
  have h0 : ∀ i, 0 ≤ el zs i ∧ nat zs i < 2 ^ n.toNat := fun i => by
    by_cases hi : i < zs.length
    · have a := rowOk_ge (rowsOk_at hr hi)
      have b := rowOk_le (rowsOk_at hr hi)
      refine ⟨a, ?_⟩
      unfold nat
      have e : ((2 : Int) ^ n.toNat) = ((2 ^ n.toNat : Nat) : Int) := by simp
      rw [e] at b
      have := Nat.two_pow_pos n.toNat
      omega
    · rw [nat, el_ge (by omega)]
      exact ⟨by omega, Nat.two_pow_pos _⟩
  exact ⟨fun i => (h0 i).1, fun i => (h0 i).2⟩

theorem sym_cols {n : Int} {zs : List Int} (h62 : n ≤ 62) (h1 : 1 ≤ n) (hl : (zs.length : Int) = n) (hr : rowsOk n zs zs.length = true) :
    ((List.range 62).all fun i => ((nat zs i : Nat) : Int) == ((tcol (nat zs) 62 i : Nat) : Int)) = symTo zs zs.length := by
  obtain ⟨hge, hlt⟩ := rows_nat hr
  have hp : 2 ^ n.toNat ≤ 4611686018427387904 := Nat.pow_le_pow_right (n := 2) (by decide) (show n.toNat ≤ 62 by omega)
  have hf : ∀ i, i < 62 → nat zs i < 4611686018427387904 := fun i _ => Nat.lt_of_lt_of_le (hlt i) hp
  have hout : ∀ i k, zs.length ≤ k → (nat zs i).testBit k = false := fun i k hk =>
    Nat.testBit_lt_two_pow (Nat.lt_of_lt_of_le (hlt i) (Nat.pow_le_pow_right (by decide) (by omega)))
  have hrow : ∀ i k, zs.length ≤ i → (nat zs i).testBit k = false := fun i k hi => by rw [nat, el_ge hi]; simp
  rw [Bool.eq_iff_iff]
  constructor
  · intro h
    have h2 : ∀ i, i < 62 → ∀ k, k < 62 → (nat zs i).testBit k = (nat zs k).testBit i := fun i hi => (eq_tcol _ hf i hi).1 (by
      have := List.all_eq_true.1 h i (List.mem_range.2 hi)
      have := eq_of_beq this
      omega)
    refine List.all_eq_true.2 fun v hv => List.all_eq_true.2 fun u hu => ?_
    rw [List.mem_range] at hv hu
    have := h2 v (by omega) u (by omega)
    simp only [bt]
    simp only [nat] at this
    rw [this]; simp
  · intro h
    have hs : ∀ v, v < zs.length → ∀ u, u < v → (nat zs v).testBit u = (nat zs u).testBit v := fun v hv u hu => by
      have := List.all_eq_true.1 (List.all_eq_true.1 h v (List.mem_range.2 hv)) u (List.mem_range.2 hu)
      simpa [bt, nat] using this
    refine List.all_eq_true.2 fun i hi => ?_
    rw [List.mem_range] at hi
    have := (eq_tcol _ hf i hi).2 fun k _ => by
      by_cases hil : i < zs.length
      · by_cases hkl : k < zs.length
        · rcases Nat.lt_trichotomy i k with hik | hik | hik
          · exact (hs k hkl i hik).symm
          · subst hik; rfl
          · exact hs i hil k hik
        · rw [hout i k (by omega), hrow k i (by omega)]
      · rw [hrow i k (by omega), hout k i (by omega)]
    rw [this.symm]; simp

theorem rowsA_nat {zs : List Int} (h : ∀ i, 0 ≤ el zs i) : rowsA (el zs) = rowsA (fun i => ((nat zs i : Nat) : Int)) := by
  have : el zs = fun i => ((nat zs i : Nat) : Int) := funext fun i => by have := h i; unfold nat; omega
  rw [← this]
theorem isG_last {n : Int} {zs : List Int} (h1 : 1 ≤ n) (h2 : n ≤ 62) (h3 : (zs.length : Int) = n) (h4 : rowsOk n zs zs.length = true) : isG n zs = symTo zs zs.length := by
  unfold isG; simp [h1, h2, h3, h4]

end Go.Proofs.YtbacocldjcenjaaDoor
