/-
  spec.l03Levels: plain facts of its lists of marks. (A plain seat of bases.)
-/
import Derived.Test.YthonkphjahomeaaWg0
namespace Go.Proofs.Ythonkphjahomeaa
set_option maxRecDepth 100000
open Go.RowKit

theorem boolsF_congr {n : Nat} {f g : Nat → Bool} (h : ∀ y, y < n → f y = g y) : boolsF n f = boolsF n g := by
  unfold boolsF; exact List.map_congr_left fun y hy => h y (List.mem_range.1 hy)
/-- The states that are reached with t + 1 steps. -/
def nwF (m : Nat) (fs : List Int) (K f t : Nat) : Nat → Bool := fun s => (rwN m fs K f t (s / m)).testBit (s % m)
/-- The states that are reached with one more, from the first S of these. -/
def nsF (m : Nat) (fs : List Int) (K f t S : Nat) : Nat → Bool := fun y => nxB m fs K f t S (y / m) (y % m)
def njF (m : Nat) (fs : List Int) (K f t S j : Nat) : Nat → Bool := fun y => nxB m fs K f t S (y / m) (y % m) || (decide (y / m < j) && tmB m fs K f t (y / m) (y % m) S)
theorem pow_bit (c q : Nat) : (2 ^ c).testBit q = (q == c) := by
  rw [Nat.testBit_two_pow]
  by_cases e : c = q
  · subst e; simp
  · rw [decide_eq_false e]; symm; rw [beq_eq_false_iff_ne]; omega
theorem div_mod_eq {m y j r : Nat} (hr : r < m) : (y == j * m + r) = (decide (y / m = j) && decide (y % m = r)) := by
  rw [Bool.eq_iff_iff, beq_iff_eq, Bool.and_eq_true, decide_eq_true_eq, decide_eq_true_eq]
  constructor
  · intro e; subst e; exact st_div hr
  · rintro ⟨h1, h2⟩
    have := Nat.div_add_mod y m
    rw [h1, h2, Nat.mul_comm] at this
    exact this.symm
theorem nw_start {m : Nat} {fs : List Int} {K f : Nat} (hf : stA m fs f 2 < m) (n : Nat) : (boolsF n (fun _ => false)).set (f * m + stA m fs f 2) true = boolsF n (nwF m fs K f 0) := by
  rw [boolsF_set]
  refine boolsF_congr fun y _ => ?_
  unfold nwF
  rw [Bool.false_or, div_mod_eq hf, rwN]
  by_cases e : y / m = f
  · rw [if_pos e, pow_bit, decide_eq_true e, Bool.true_and]
    by_cases h : y % m = stA m fs f 2
    · rw [decide_eq_true h, h]; simp
    · rw [decide_eq_false h]; symm; rw [beq_eq_false_iff_ne]; exact h
  · rw [if_neg e, decide_eq_false e]; simp
theorem ns_zero (m : Nat) (fs : List Int) (K f t n : Nat) : boolsF n (fun _ => false) = boolsF n (nsF m fs K f t 0) := boolsF_congr fun y _ => by unfold nsF nxB; simp
theorem nj_zero (m : Nat) (fs : List Int) (K f t S n : Nat) : boolsF n (nsF m fs K f t S) = boolsF n (njF m fs K f t S 0) := boolsF_congr fun y _ => by unfold nsF njF; simp
theorem nj_all (m : Nat) (fs : List Int) (K f t S : Nat) : boolsF (K * m) (njF m fs K f t S K) = boolsF (K * m) (nsF m fs K f t (S + 1)) := boolsF_congr fun y hy => by
  unfold nsF njF
  rw [nxB_succ, decide_eq_true (st_lt hy).1, Bool.true_and]
theorem ns_all {m : Nat} {fs : List Int} {K f t : Nat} (hf : stA m fs f 2 < m) (hj : ∀ j, j < K → stA m fs j 2 < m) : boolsF (K * m) (nsF m fs K f t (K * m)) = boolsF (K * m) (nwF m fs K f (t + 1)) := boolsF_congr fun y hy => by
  obtain ⟨h1, h2⟩ := st_lt hy
  unfold nsF nwF
  exact nx_eq hf (hj _ h1) h2
theorem ns_skip {m : Nat} {fs : List Int} {K f t S n : Nat} (h : nwF m fs K f t S = false) : boolsF n (nsF m fs K f t S) = boolsF n (nsF m fs K f t (S + 1)) := boolsF_congr fun y _ => by
  unfold nwF at h
  unfold nsF
  rw [nxB_succ]
  unfold tmB
  rw [h]; simp
theorem fd_skip {m : Nat} {fs : List Int} {K f t S : Nat} (h : nwF m fs K f t S = false) : fdS m fs K f t (S + 1) = fdS m fs K f t S := by
  unfold nwF at h
  rw [fdS_succ]
  unfold fsB
  rw [h]; simp
theorem fd_next {m : Nat} {fs : List Int} {K f t S i q : Nat} (h : nwF m fs K f t S = true) (hi : i = S / m) (hq : q = S % m) : fdS m fs K f t (S + 1) = (fdS m fs K f t S || ((stA m fs i 1 == stA m fs f 0) && (q == 0) && (flp i != f))) := by
  unfold nwF at h
  rw [fdS_succ]
  unfold fsB
  rw [h, hi, hq]; simp
theorem pc_sym (m : Nat) (fs : List Int) (i j : Nat) : pcB m fs i j = ((stA m fs j 0 == stA m fs i 1) && (j != flp i)) := by
  unfold pcB
  rw [Bool.eq_iff_iff]
  simp only [Bool.and_eq_true, beq_iff_eq, bne_iff_ne]
  exact ⟨fun ⟨h1, h2⟩ => ⟨h1.symm, (flp_ne _ _).1 h2⟩, fun ⟨h1, h2⟩ => ⟨h1.symm, (flp_ne _ _).2 h2⟩⟩
theorem nj_yes {m : Nat} {fs : List Int} {K f t S j i q n : Nat} (hm : 0 < m) (h : nwF m fs K f t S = true) (hi : i = S / m) (hq : q = S % m) (hp : pcB m fs i j = true) : (boolsF n (njF m fs K f t S j)).set (j * m + (q + stA m fs j 2) % m) true = boolsF n (njF m fs K f t S (j + 1)) := by
  rw [boolsF_set]
  refine boolsF_congr fun y _ => ?_
  rw [div_mod_eq (Nat.mod_lt _ hm)]
  unfold nwF at h
  unfold njF
  by_cases e : y / m = j
  · rw [e, decide_eq_false (show ¬ j < j by omega), decide_eq_true (show j < j + 1 by omega), decide_eq_true (show j = j from rfl)]
    unfold tmB
    rw [h, ← hi, hp, ← hq]
    simp only [Bool.false_and, Bool.or_false, Bool.true_and]
    congr 1
    rw [Bool.eq_iff_iff]; simp; exact ⟨fun e => e.symm, fun e => e.symm⟩
  · rw [decide_eq_false e]
    by_cases h2 : y / m < j
    · rw [decide_eq_true h2, decide_eq_true (show y / m < j + 1 by omega)]; simp
    · rw [decide_eq_false h2, decide_eq_false (show ¬ y / m < j + 1 by omega)]; simp
theorem nj_no {m : Nat} {fs : List Int} {K f t S j i n : Nat} (hi : i = S / m) (hp : pcB m fs i j = false) : boolsF n (njF m fs K f t S j) = boolsF n (njF m fs K f t S (j + 1)) := boolsF_congr fun y _ => by
  unfold njF
  by_cases e : y / m = j
  · rw [e, decide_eq_false (show ¬ j < j by omega), decide_eq_true (show j < j + 1 by omega)]
    unfold tmB
    rw [← hi, hp]; simp
  · by_cases h2 : y / m < j
    · rw [decide_eq_true h2, decide_eq_true (show y / m < j + 1 by omega)]
    · rw [decide_eq_false h2, decide_eq_false (show ¬ y / m < j + 1 by omega)]
/-- The best of the first j steps, 0 for none. -/
def bsN (m : Nat) (fs : List Int) (K j : Nat) : Nat := if lsN m fs K j = 15 then 0 else lsN m fs K j
theorem bs_none {m : Nat} {fs : List Int} {K f : Nat} (h : ∀ t, t < 14 → fdB m fs K f t = false) : bsN m fs K (f + 1) = bsN m fs K f := by
  have h1 : shN m fs K f = 15 := by unfold shN; rw [srch_none h]
  have h2 := (lsN_le m fs K f).2
  unfold bsN
  rw [lsN, h1, Nat.min_eq_left h2]
theorem bs_stop {m : Nat} {fs : List Int} {K f t B : Nat} (hB : B = bsN m fs K f) (h0 : B ≠ 0) (ht : B ≤ t + 1) (ht2 : t ≤ 14) (h : ∀ t', t' < t → fdB m fs K f t' = false) : bsN m fs K (f + 1) = B := by
  have h1 : t ≤ srch (fdB m fs K f) 14 := srch_ge h 14 ht2
  have e : lsN m fs K f = B := by unfold bsN at hB; split at hB <;> omega
  have e2 : ¬ lsN m fs K f = 15 := by intro h15; rw [hB] at h0; unfold bsN at h0; rw [if_pos h15] at h0; exact h0 rfl
  have e3 : lsN m fs K (f + 1) = lsN m fs K f := by
    rw [lsN]; unfold shN; exact Nat.min_eq_left (by omega)
  unfold bsN
  rw [e3, if_neg e2, e]
theorem bs_found {m : Nat} {fs : List Int} {K f t B : Nat} (hB : B = bsN m fs K f) (ht : B = 0 ∨ t + 1 < B) (ht2 : t < 14) (h : ∀ t', t' < t → fdB m fs K f t' = false) (hy : fdB m fs K f t = true) : bsN m fs K (f + 1) = t + 1 := by
  have h1 : shN m fs K f = t + 1 := by unfold shN; rw [srch_at h hy 14 ht2]
  have h2 : t + 1 ≤ lsN m fs K f := by
    have hl := (lsN_le m fs K f).1
    unfold bsN at hB
    split at hB <;> omega
  unfold bsN
  rw [lsN, h1, Nat.min_eq_right h2, if_neg (show ¬ t + 1 = 15 by omega)]
end Go.Proofs.Ythonkphjahomeaa
