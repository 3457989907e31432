/-
  Lifts: plain facts; impl.endOfLift, impl.liftedArcs. (A plain seat of bases and graphs of pairs.)
-/
import Derived.Test.YthonkphjahomeaaMa5
import Derived.Test.YthonkphjahomeaaJp
import Derived.RangeFuncNested
import Derived.RangeFuncBound
import Derived.RangeFuncCalls
import Derived.RangeFuncLeaves
import Derived.Shelf.Abstract
import Derived.Shelf.RegionOpen
import Derived.OwnWalkIn
import Derived.TacticsInMore
import Derived.LoopNIn
import Derived.LoopIn
import Derived.IntWalk
namespace Go.Proofs.Ythonkphjahomeaa
set_option maxRecDepth 100000
open Go.RowKit Go.Shelf

attribute [local go_sem] Oper.semAt_some
theorem wide_fn (f : FuncId) : Fence.wide.fn f = True := rfl
attribute [local go_sem] wide_fn

/-- A number of arc j: 0 where it begins, 1 where it ends, 2 its voltage. -/
def av (fs : List Int) (j d : Nat) : Nat := (el fs (j * 3 + d)).toNat
/-- The vertices of the lift from which arc j leads, and to which. -/
def arcP (m : Nat) (fs : List Int) (j i : Nat) : Nat × Nat := (av fs j 0 * m + i, av fs j 1 * m + (i + av fs j 2) % m)
def arcN (m : Nat) (fs : List Int) (j : Nat) (is : List Nat) : List (Nat × Nat) := (is.map (arcP m fs j)).filter fun p => p.1 != p.2
def lfS (m : Nat) (fs : List Int) : Nat → List (Nat × Nat)
  | 0 => []
  | j + 1 => lfS m fs j ++ arcN m fs j (List.range m)
theorem arcN_nil (m : Nat) (fs : List Int) (j : Nat) : arcN m fs j [] = [] := rfl
theorem arcN_yes {m : Nat} {fs : List Int} {j i : Nat} {is : List Nat} (h : (arcP m fs j i).1 ≠ (arcP m fs j i).2) : arcN m fs j (is ++ [i]) = arcN m fs j is ++ [((arcP m fs j i).1, (arcP m fs j i).2)] := by
  unfold arcN
  rw [List.map_append, List.filter_append]
  have : ((arcP m fs j i).1 != (arcP m fs j i).2) = true := by simpa using h
  simp [this]
theorem arcN_no {m : Nat} {fs : List Int} {j i : Nat} {is : List Nat} (h : (arcP m fs j i).1 = (arcP m fs j i).2) : arcN m fs j (is ++ [i]) = arcN m fs j is := by
  unfold arcN
  rw [List.map_append, List.filter_append]
  have : ((arcP m fs j i).1 != (arcP m fs j i).2) = false := by simpa using h
  simp [this]
theorem arcN_length (m : Nat) (fs : List Int) (j : Nat) (is : List Nat) : (arcN m fs j is).length ≤ is.length := by
  unfold arcN
  have := List.length_filter_le (fun p : Nat × Nat => p.1 != p.2) (is.map (arcP m fs j))
  rw [List.length_map] at this; exact this
theorem lfS_length (m : Nat) (fs : List Int) : ∀ j, (lfS m fs j).length ≤ j * m
  | 0 => by simp [lfS]
  | j + 1 => by
    have h1 := lfS_length m fs j
    have h2 := arcN_length m fs j (List.range m)
    rw [List.length_range] at h2
    rw [lfS, List.length_append, Nat.add_mul]; omega

/-- The arcs' numbers are in their ranges. -/
def AvOk (n m k : Nat) (fs : List Int) : Prop := ∀ j, j < k → ∀ d, d < 3 → 0 ≤ el fs (j * 3 + d) ∧ av fs j d < if d < 2 then n else m
theorem AvOk.zero {n m k : Nat} {fs : List Int} (h : AvOk n m k fs) {j : Nat} (hj : j < k) : el fs (j * 3) = (av fs j 0 : Nat) ∧ av fs j 0 < n := by
  obtain ⟨h1, h2⟩ := h j hj 0 (by omega)
  rw [if_pos (by omega)] at h2
  refine ⟨?_, h2⟩
  unfold av; simp only [Nat.add_zero] at *; omega
theorem AvOk.one {n m k : Nat} {fs : List Int} (h : AvOk n m k fs) {j : Nat} (hj : j < k) : el fs (j * 3 + 1) = (av fs j 1 : Nat) ∧ av fs j 1 < n := by
  obtain ⟨h1, h2⟩ := h j hj 1 (by omega)
  rw [if_pos (by omega)] at h2
  refine ⟨?_, h2⟩
  unfold av; omega
theorem AvOk.two {n m k : Nat} {fs : List Int} (h : AvOk n m k fs) {j : Nat} (hj : j < k) : el fs (j * 3 + 2) = (av fs j 2 : Nat) ∧ av fs j 2 < m := by
  obtain ⟨h1, h2⟩ := h j hj 2 (by omega)
  rw [if_neg (by omega)] at h2
  refine ⟨?_, h2⟩
  unfold av; omega
theorem mul_in {n m a i : Nat} (ha : a < n) (hi : i < m) : a * m + i < n * m := by
  have : (a + 1) * m ≤ n * m := Nat.mul_le_mul_right m ha
  rw [Nat.add_mul] at this; omega
theorem arcP_lt {n m k : Nat} {fs : List Int} (h : AvOk n m k fs) (hm : 0 < m) {j i : Nat} (hj : j < k) (hi : i < m) : (arcP m fs j i).1 < n * m ∧ (arcP m fs j i).2 < n * m :=
  ⟨mul_in (h.zero hj).2 hi, mul_in (h.one hj).2 (Nat.mod_lt _ hm)⟩
theorem arcN_mem {n m k : Nat} {fs : List Int} (h : AvOk n m k fs) (hm : 0 < m) {j : Nat} (hj : j < k) {is : List Nat} (hi : ∀ i, i ∈ is → i < m) : ∀ p, p ∈ arcN m fs j is → p.1 < n * m ∧ p.2 < n * m := by
  intro p hp
  unfold arcN at hp
  rw [List.mem_filter, List.mem_map] at hp
  obtain ⟨⟨i, hi2, rfl⟩, _⟩ := hp
  exact arcP_lt h hm hj (hi i hi2)
theorem lfS_mem {n m k : Nat} {fs : List Int} (h : AvOk n m k fs) (hm : 0 < m) : ∀ j, j ≤ k → ∀ p, p ∈ lfS m fs j → p.1 < n * m ∧ p.2 < n * m
  | 0, _, p, hp => by simp [lfS] at hp
  | j + 1, hj, p, hp => by
    rw [lfS, List.mem_append] at hp
    rcases hp with hp | hp
    · exact lfS_mem h hm j (by omega) p hp
    · exact arcN_mem h hm (show j < k by omega) (fun i hi => List.mem_range.1 hi) p hp
theorem isB_nats {n m : Int} {k : Nat} {fs : List Int} (h : isB n m k fs = true) : ∃ N M : Nat, n = N ∧ m = M ∧ 1 ≤ N ∧ N ≤ 10 ∧ 1 ≤ M ∧ M ≤ 62 ∧ N * M ≤ 62 ∧ k ≤ 16 ∧ AvOk N M k fs := by
  unfold isB at h
  simp only [Bool.and_eq_true, decide_eq_true_eq] at h
  obtain ⟨⟨h1, h2, h3, h4, h5, h6⟩, h7⟩ := h
  obtain ⟨N, rfl⟩ := Int.eq_ofNat_of_zero_le (show 0 ≤ n by omega)
  obtain ⟨M, rfl⟩ := Int.eq_ofNat_of_zero_le (show 0 ≤ m by omega)
  have h5' : N * M ≤ 62 := by
    have : ((N * M : Nat) : Int) ≤ 62 := by push_cast; exact h5
    omega
  refine ⟨N, M, rfl, rfl, by omega, by omega, by omega, by omega, h5', h6, fun j hj d hd => ?_⟩
  unfold arcsOk at h7
  rw [List.all_eq_true] at h7
  have := h7 j (List.mem_range.2 hj)
  simp only [Bool.and_eq_true, decide_eq_true_eq] at this
  unfold av
  rcases (by omega : d = 0 ∨ d = 1 ∨ d = 2) with rfl | rfl | rfl
  · rw [if_pos (by omega)]; simp only [Nat.add_zero]; omega
  · rw [if_pos (by omega)]; omega
  · rw [if_neg (by omega)]; omega

end Go.Proofs.Ythonkphjahomeaa
