/-
  Walks of a base: plain facts.
-/
import Derived.Test.YthonkphjahomeaaDoorYa
namespace Go.Proofs.YthonkphjahomeaaDoor
set_option maxRecDepth 100000
open Go.RowKit

/-- Step number i of a list of numbers. -/
def sp (zs : List Int) (i : Nat) : Nat := (el zs i).toNat
def nbB (k : Nat) (zs : List Int) (i : Nat) : Bool := decide (0 ≤ el zs i) && decide (el zs i ≤ 2 * (k : Int) - 1)
def nbTo (k : Nat) (zs : List Int) (j : Nat) : Bool := (List.range j).all (nbB k zs)
theorem nbTo_succ (k : Nat) (zs : List Int) (j : Nat) : nbTo k zs (j + 1) = (nbTo k zs j && nbB k zs j) := by simp [nbTo, List.range_succ]
theorem nbTo_no {k : Nat} {zs : List Int} {j K : Nat} (hj : j < K) (h : nbB k zs j = false) : nbTo k zs K = false := by
  cases hK : nbTo k zs K with
  | false => rfl
  | true =>
    unfold nbTo at hK
    rw [List.all_eq_true] at hK
    have := hK j (List.mem_range.2 hj)
    rw [h] at this; exact absurd this (by simp)
theorem nbTo_at {k : Nat} {zs : List Int} {i K : Nat} (h : nbTo k zs K = true) (hi : i < K) : el zs i = (sp zs i : Nat) ∧ sp zs i < 2 * k := by
  unfold nbTo at h
  rw [List.all_eq_true] at h
  have h1 := h i (List.mem_range.2 hi)
  unfold nbB at h1
  rw [Bool.and_eq_true, decide_eq_true_eq, decide_eq_true_eq] at h1
  unfold sp
  omega

/-- Whether step i + 1 begins where step i ends. -/
def fitB (m : Nat) (fs zs : List Int) (i : Nat) : Bool := stA m fs (sp zs i) 1 == stA m fs (sp zs (i + 1)) 0
theorem fitB_no {m : Nat} {fs zs : List Int} {i : Nat} : fitB m fs zs i = false ↔ ¬ stA m fs (sp zs i) 1 = stA m fs (sp zs (i + 1)) 0 := by unfold fitB; simp
theorem fitB_yes {m : Nat} {fs zs : List Int} {i : Nat} : fitB m fs zs i = true ↔ stA m fs (sp zs i) 1 = stA m fs (sp zs (i + 1)) 0 := by unfold fitB; simp
def fitAll (m : Nat) (fs zs : List Int) (j : Nat) : Prop := ∀ i, i + 1 < j → fitB m fs zs i = true
def isW (m : Nat) (fs zs : List Int) : Bool := (List.range (zs.length - 1)).all (fitB m fs zs)
theorem isW_iff (m : Nat) (fs zs : List Int) : isW m fs zs = true ↔ fitAll m fs zs zs.length := by
  unfold isW fitAll
  rw [List.all_eq_true]
  exact ⟨fun h i hi => h i (List.mem_range.2 (by omega)), fun h i hi => h i (by have := List.mem_range.1 hi; omega)⟩
theorem isW_no {m : Nat} {fs zs : List Int} {i : Nat} (hi : i + 1 < zs.length) (h : fitB m fs zs i = false) : isW m fs zs = false := by
  cases hw : isW m fs zs with
  | false => rfl
  | true => have := (isW_iff m fs zs).1 hw i hi; rw [h] at this; exact absurd this (by simp)
theorem isW_not {m : Nat} {fs zs : List Int} (h : isW m fs zs = false) : ∃ i, i + 1 < zs.length ∧ fitB m fs zs i = false := by
  cases hc : (List.range (zs.length - 1)).all (fitB m fs zs) with
  | true => unfold isW at h; rw [hc] at h; exact absurd h (by simp)
  | false =>
    rw [List.all_eq_false] at hc
    obtain ⟨i, hi, hf⟩ := hc
    exact ⟨i, by have := List.mem_range.1 hi; omega, by simpa using hf⟩

/-- The code of a list of numbers. -/
def wkC (n m : Int) (k : Nat) (fs zs : List Int) : Int := if isB n m k fs then (if decide (zs.length ≤ 14) && nbTo k zs zs.length then (if isW m.toNat fs zs then 0 else 5) else 2) else 1
def stepsC (n m : Int) (k : Nat) (fs zs : List Int) : Int := if isB n m k fs then (if decide (zs.length ≤ 14) && nbTo k zs zs.length then 0 else 2) else 1

/-- The sum of the first i voltages; the same as a rest. -/
def sumI (m : Nat) (fs zs : List Int) : Nat → Nat
  | 0 => 0
  | i + 1 => sumI m fs zs i + stA m fs (sp zs i) 2
def sumS (m : Nat) (fs zs : List Int) : Nat → Nat
  | 0 => 0
  | i + 1 => (sumS m fs zs i + stA m fs (sp zs i) 2) % m
theorem sumS_eq (m : Nat) (fs zs : List Int) : ∀ i, sumS m fs zs i = sumI m fs zs i % m
  | 0 => by simp [sumS, sumI]
  | i + 1 => by rw [sumS, sumI, sumS_eq m fs zs i, Nat.mod_add_mod]
theorem sumS_lt {m : Nat} (fs zs : List Int) (hm : 1 ≤ m) : ∀ i, sumS m fs zs i < m
  | 0 => by rw [sumS]; omega
  | i + 1 => by rw [sumS]; exact Nat.mod_lt _ (by omega)

/-- What WalkSum answers. -/
def wsN (n m : Int) (k : Nat) (fs zs : List Int) : Int := if wkC n m k fs zs = 0 then (sumS m.toNat fs zs zs.length : Nat) else 0

/-- The step the other way around. -/
def flp (s : Nat) : Nat := if s % 2 = 0 then s + 1 else s - 1
theorem flp_flp (s : Nat) : flp (flp s) = s := by unfold flp; split <;> split <;> omega
theorem flp_ne (s t : Nat) : s ≠ flp t ↔ t ≠ flp s := by
  constructor <;> intro h e <;> apply h <;> rw [e, flp_flp]
def nxW (K i : Nat) : Nat := if i + 1 < K then i + 1 else 0
theorem nxW_mod {K i : Nat} (h : i < K) : (i + 1) % K = nxW K i := by
  unfold nxW; split
  · exact Nat.mod_eq_of_lt (by omega)
  · rw [show i + 1 = K by omega, Nat.mod_self]
theorem nxW_lt {K i : Nat} (h : i < K) : nxW K i < K := by unfold nxW; split <;> omega
def redB (m : Nat) (fs zs : List Int) (K i : Nat) : Bool := (stA m fs (sp zs i) 1 == stA m fs (sp zs (nxW K i)) 0) && (sp zs i != flp (sp zs (nxW K i)))
def redTo (m : Nat) (fs zs : List Int) (K j : Nat) : Bool := (List.range j).all (redB m fs zs K)
theorem redTo_succ (m : Nat) (fs zs : List Int) (K j : Nat) : redTo m fs zs K (j + 1) = (redTo m fs zs K j && redB m fs zs K j) := by simp [redTo, List.range_succ]
theorem redTo_no {m : Nat} {fs zs : List Int} {K j J : Nat} (hj : j < J) (h : redB m fs zs K j = false) : redTo m fs zs K J = false := by
  cases hK : redTo m fs zs K J with
  | false => rfl
  | true =>
    unfold redTo at hK
    rw [List.all_eq_true] at hK
    have := hK j (List.mem_range.2 hj)
    rw [h] at this; exact absurd this (by simp)
/-- The same as the model tells it. -/
def clS (m : Nat) (fs zs : List Int) (K : Nat) : Bool := stA m fs (sp zs 0) 0 == stA m fs (sp zs (K - 1)) 1
def gdTo (m : Nat) (fs zs : List Int) (K j : Nat) : Bool := clS m fs zs K && (List.range j).all fun i => sp zs (nxW K i) != flp (sp zs i)
theorem gdTo_zero (m : Nat) (fs zs : List Int) (K : Nat) : gdTo m fs zs K 0 = clS m fs zs K := by simp [gdTo]
theorem gdTo_succ (m : Nat) (fs zs : List Int) (K j : Nat) : gdTo m fs zs K (j + 1) = (gdTo m fs zs K j && (sp zs (nxW K j) != flp (sp zs j))) := by simp [gdTo, List.range_succ, Bool.and_assoc]
theorem red_eq {m : Nat} {fs zs : List Int} {K : Nat} (hK : 1 ≤ K) (hw : fitAll m fs zs K) : redTo m fs zs K K = gdTo m fs zs K K := by
  rw [Bool.eq_iff_iff]
  unfold redTo gdTo
  rw [Bool.and_eq_true, List.all_eq_true, List.all_eq_true]
  constructor
  · intro h
    refine ⟨?_, fun i hi => ?_⟩
    · have h1 := h (K - 1) (List.mem_range.2 (by omega))
      unfold redB nxW at h1
      rw [if_neg (by omega), Bool.and_eq_true, beq_iff_eq] at h1
      unfold clS
      rw [beq_iff_eq]; exact h1.1.symm
    · have h1 := h i hi
      unfold redB at h1
      rw [Bool.and_eq_true, bne_iff_ne] at h1
      rw [bne_iff_ne]
      exact (flp_ne _ _).1 h1.2
  · rintro ⟨h0, h⟩ i hi
    have hi' := List.mem_range.1 hi
    have h1 := h i hi
    rw [bne_iff_ne] at h1
    unfold redB
    rw [Bool.and_eq_true, bne_iff_ne, beq_iff_eq]
    refine ⟨?_, (flp_ne _ _).2 h1⟩
    unfold nxW
    by_cases e : i + 1 < K
    · rw [if_pos e]; exact fitB_yes.1 (hw i e)
    · rw [if_neg e]
      unfold clS at h0
      rw [beq_iff_eq] at h0
      rw [h0, show i = K - 1 by omega]
/-- What IsReducedWalk answers. -/
def rwB (n m : Int) (k : Nat) (fs zs : List Int) : Bool := decide (wkC n m k fs zs = 0) && redTo m.toNat fs zs zs.length zs.length

/-- The lifted walk: its rests, its vertices. -/
def lwI (m : Nat) (fs zs : List Int) (r : Nat) : Nat → Nat
  | 0 => r
  | i + 1 => (lwI m fs zs r i + stA m fs (sp zs i) 2) % m
def lwV (m : Nat) (fs zs : List Int) (r : Nat) : Nat → Nat
  | 0 => stA m fs (sp zs 0) 0 * m + r
  | i + 1 => stA m fs (sp zs i) 1 * m + lwI m fs zs r (i + 1)
def lwL (m : Nat) (fs zs : List Int) (r j : Nat) : List Int := (List.range (j + 1)).map fun i => (lwV m fs zs r i : Nat)
theorem lwL_length (m : Nat) (fs zs : List Int) (r j : Nat) : (lwL m fs zs r j).length = j + 1 := by simp [lwL]
theorem lwL_zero (m : Nat) (fs zs : List Int) (r : Nat) : lwL m fs zs r 0 = [((stA m fs (sp zs 0) 0 * m + r : Nat) : Int)] := by simp [lwL, lwV]
theorem lwL_succ (m : Nat) (fs zs : List Int) (r j : Nat) : lwL m fs zs r (j + 1) = lwL m fs zs r j ++ [((lwV m fs zs r (j + 1) : Nat) : Int)] := by simp [lwL, List.range_succ]
theorem lwI_lt {m r : Nat} (fs zs : List Int) (hr : r < m) : ∀ i, lwI m fs zs r i < m
  | 0 => hr
  | i + 1 => by rw [lwI]; exact Nat.mod_lt _ (by omega)
theorem lwV_mod {m r : Nat} (fs zs : List Int) (hr : r < m) : ∀ i, lwV m fs zs r i % m = lwI m fs zs r i
  | 0 => by rw [lwV, lwI, Nat.add_comm, Nat.add_mul_mod_self_right, Nat.mod_eq_of_lt hr]
  | i + 1 => by rw [lwV, Nat.add_comm, Nat.add_mul_mod_self_right, Nat.mod_eq_of_lt (lwI_lt fs zs hr _)]
theorem lwV_step {m r : Nat} (fs zs : List Int) (hr : r < m) (i : Nat) : lwV m fs zs r (i + 1) = stA m fs (sp zs i) 1 * m + (lwV m fs zs r i + stA m fs (sp zs i) 2) % m := by
  rw [lwV, lwI, ← lwV_mod fs zs hr i, Nat.mod_add_mod]
/-- The code of LiftedWalk, and what it answers. -/
def lwC (n m : Int) (k : Nat) (fs zs : List Int) (r : Int) : Int := if isB n m k fs && (decide (zs.length = 0) || !(decide (0 ≤ r) && decide (r < m))) then 2 else wkC n m k fs zs
def lwR (n m : Int) (k : Nat) (fs zs : List Int) (r : Int) : List Int := if lwC n m k fs zs r = 0 then lwL m.toNat fs zs r.toNat zs.length else []
end Go.Proofs.YthonkphjahomeaaDoor
