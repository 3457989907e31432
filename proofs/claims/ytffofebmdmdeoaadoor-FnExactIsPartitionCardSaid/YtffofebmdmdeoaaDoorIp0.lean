/-
  Partitions of vertices by colours: plain facts; impl.partitionOf[int64].
-/
import Derived.Test.YtffofebmdmdeoaaDoorNm0
import Derived.Test.YtffofebmdmdeoaaDoorIsB
namespace Go.Proofs.YtffofebmdmdeoaaDoor
set_option maxRecDepth 100000
open Go.RowKit Go.Maps Go.WideMaps Go.WideElems

/-- Each colour is met first behind the one that is by 1 less: m colours are met already. -/
def goP : Nat → List Int → Bool
  | _, [] => true
  | m, x :: r => if 0 ≤ x ∧ x ≤ m then goP (if x = m then m + 1 else m) r else false
def litI (x : Int) : Lit := .int .i64 x
theorem litI_inj (a b : Int) (h : litI a = litI b) : a = b := by simpa [litI] using h
def R0 (m : Nat) : List Int := (List.range m).map fun j : Nat => (j : Int)
theorem mem_R0 (m : Nat) (x : Int) : x ∈ R0 m ↔ 0 ≤ x ∧ x < m := by
  unfold R0
  rw [List.mem_map]
  constructor
  · rintro ⟨j, hj, e⟩
    have := List.mem_range.1 hj
    omega
  · rintro ⟨h0, h1⟩
    exact ⟨x.toNat, List.mem_range.2 (by omega), by have : ((x.toNat : Nat) : Int) = x := by omega
                                                    rw [this]⟩
theorem R0_succ (m : Nat) : R0 (m + 1) = R0 m ++ [(m : Int)] := by unfold R0; rw [List.range_succ, List.map_append]; rfl
theorem R0_length (m : Nat) : (R0 m).length = m := by simp [R0]
theorem idx_R0 : ∀ (m j : Nat), j < m → (R0 m).idxOf (j : Int) = j
  | 0, _, h => absurd h (Nat.not_lt_zero _)
  | m + 1, j, h => by
    rw [R0_succ]
    by_cases e : j = m
    · subst e
      rw [idx_new (by rw [mem_R0]; omega), R0_length]
    · rw [idx_old (by rw [mem_R0]; omega)]
      exact idx_R0 m j (by omega)
theorem par_goP : ∀ (zs : List Int) (m : Nat), parF (R0 m) zs = zs ↔ goP m zs = true
  | [], m => by simp [parF, goP]
  | x :: r, m => by
    show ((dS (R0 m) x).idxOf x : Int) :: parF (dS (R0 m) x) r = x :: r ↔ _
    rw [List.cons.injEq]
    by_cases h0 : 0 ≤ x ∧ x < m
    · have hm := (mem_R0 m x).2 h0
      have ex : ((x.toNat : Nat) : Int) = x := by omega
      have hi := idx_R0 m x.toNat (by omega)
      rw [ex] at hi
      rw [dS_yes hm, hi, par_goP r m]
      have h1 : goP m (x :: r) = goP m r := by
        show (if 0 ≤ x ∧ x ≤ m then goP (if x = m then m + 1 else m) r else false) = _
        rw [if_pos (by omega), if_neg (by omega)]
      rw [h1]
      exact ⟨fun h => h.2, fun h => ⟨ex, h⟩⟩
    · have hm : x ∉ R0 m := fun h => h0 ((mem_R0 m x).1 h)
      rw [dS_no hm, idx_new hm, R0_length]
      by_cases e : x = m
      · subst e
        rw [← R0_succ, par_goP r (m + 1)]
        have h1 : goP m ((m : Int) :: r) = goP (m + 1) r := by
          show (if 0 ≤ (m : Int) ∧ (m : Int) ≤ m then goP (if (m : Int) = m then m + 1 else m) r else false) = _
          rw [if_pos (by omega), if_pos rfl]
        rw [h1]
        exact ⟨fun h => h.2, fun h => ⟨rfl, h⟩⟩
      · have h1 : goP m (x :: r) = false := by
          show (if 0 ≤ x ∧ x ≤ m then goP (if x = m then m + 1 else m) r else false) = _
          rw [if_neg (by omega)]
        rw [h1]
        exact ⟨fun h => absurd h.1.symm e, fun h => by cases h⟩
/-- Whether a list is a partition of n vertices. -/
def ptB (n : Int) (zs : List Int) : Bool := goP 0 zs && decide ((zs.length : Int) = n)
theorem ptB_par (n : Int) (zs : List Int) (h : (zs.length : Int) = n) : ptB n zs = decide (parF [] zs = zs) := by
  unfold ptB
  have := par_goP zs 0
  rw [show R0 0 = [] from rfl] at this
  rw [decide_eq_true h, Bool.and_true, Bool.eq_iff_iff, decide_eq_true_iff, this]
end Go.Proofs.YtffofebmdmdeoaaDoor
