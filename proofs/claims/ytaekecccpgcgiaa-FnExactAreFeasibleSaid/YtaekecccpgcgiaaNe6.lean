/-
  Feasible arrays: plain facts.
-/
import Derived.Test.YtaekecccpgcgiaaNd6
namespace Go.Proofs.Ytaekecccpgcgiaa
open Go.RowKit

def midA (b c : List Int) (i : Nat) : Bool := decide (el b i ≤ el b (i - 1)) && decide (el c (i - 1) ≤ el c i) && decide (el b i + el c (i - 1) ≤ el b 0)
theorem midA_iff {b c : List Int} {i : Nat} : midA b c i = true ↔ el b i ≤ el b (i - 1) ∧ el c (i - 1) ≤ el c i ∧ el b i + el c (i - 1) ≤ el b 0 := by simp [midA, and_assoc]
def midB (b c : List Int) (k : Nat) : Bool := (List.range k).all fun i => i == 0 || midA b c i
theorem midB_one (b c : List Int) : midB b c 1 = true := rfl
theorem midB_succ (b c : List Int) {k : Nat} (h : 1 ≤ k) : midB b c (k + 1) = (midB b c k && midA b c k) := by
  have : (k == 0) = false := by simp; omega
  simp [midB, List.range_succ, this]
theorem midB_at {b c : List Int} {k : Nat} (h : midB b c k = true) {i : Nat} (h1 : 1 ≤ i) (hi : i < k) : midA b c i = true := by
  unfold midB at h; rw [List.all_eq_true] at h
  have h2 := h i (List.mem_range.2 hi)
  have : (i == 0) = false := by simp; omega
  rw [this, Bool.false_or] at h2; exact h2
theorem midB_no {b c : List Int} {k i : Nat} (h1 : 1 ≤ i) (hi : i < k) (h : midA b c i = false) : midB b c k = false := by
  cases e : midB b c k with
  | false => rfl
  | true => rw [midB_at e h1 hi] at h; cases h
def triA (b c : List Int) (d i j : Nat) : Bool := decide (d < i + j) || decide (el c (i - 1) ≤ el b j)
def triR (b c : List Int) (d i j : Nat) : Bool := (List.range j).all fun y => triA b c d i y
theorem triR_zero (b c : List Int) (d i : Nat) : triR b c d i 0 = true := rfl
theorem triR_succ (b c : List Int) (d i j : Nat) : triR b c d i (j + 1) = (triR b c d i j && triA b c d i j) := by simp [triR, List.range_succ]
theorem triR_stop (b c : List Int) (d i j : Nat) (h : d < i + j) : ∀ m, triR b c d i (j + m) = triR b c d i j
  | 0 => rfl
  | m + 1 => by
    rw [← Nat.add_assoc, triR_succ, triR_stop b c d i j h m]
    have : triA b c d i (j + m) = true := by unfold triA; rw [decide_eq_true (by omega)]; rfl
    rw [this, Bool.and_true]
def triB (b c : List Int) (d k : Nat) : Bool := (List.range k).all fun x => x == 0 || triR b c d x d
theorem triB_one (b c : List Int) (d : Nat) : triB b c d 1 = true := rfl
theorem triB_succ (b c : List Int) (d : Nat) {k : Nat} (h : 1 ≤ k) : triB b c d (k + 1) = (triB b c d k && triR b c d k d) := by
  have : (k == 0) = false := by simp; omega
  simp [triB, List.range_succ, this]
theorem triB_iff {b c : List Int} {d : Nat} : triB b c d (d + 1) = true ↔ ∀ i j, 1 ≤ i → i + j ≤ d → j < d → el c (i - 1) ≤ el b j := by
  unfold triB triR triA
  rw [List.all_eq_true]
  constructor
  · intro h i j h1 h2 h3
    have h4 := h i (List.mem_range.2 (by omega))
    have : (i == 0) = false := by simp; omega
    rw [this, Bool.false_or, List.all_eq_true] at h4
    have h5 := h4 j (List.mem_range.2 h3)
    rw [Bool.or_eq_true, decide_eq_true_iff, decide_eq_true_iff] at h5
    rcases h5 with h5 | h5
    · omega
    · exact h5
  · intro h i hi
    by_cases h0 : i = 0
    · simp [h0]
    · rw [Bool.or_eq_true, List.all_eq_true]
      refine .inr fun j hj => ?_
      rw [List.mem_range] at hi hj
      rw [Bool.or_eq_true, decide_eq_true_iff, decide_eq_true_iff]
      by_cases hd : d < i + j
      · exact .inl hd
      · exact .inr (h i j (by omega) (by omega) hj)
def dgB (b c : List Int) (d k : Nat) : Bool := (List.range k).all fun j => decide (el c (d - 1 - j) ≤ el b j)
theorem dgB_succ (b c : List Int) (d k : Nat) : dgB b c d (k + 1) = (dgB b c d k && decide (el c (d - 1 - k) ≤ el b k)) := by simp [dgB, List.range_succ]
theorem dgB_at {b c : List Int} {d k : Nat} (h : dgB b c d k = true) {j : Nat} (hj : j < k) : el c (d - 1 - j) ≤ el b j := by
  unfold dgB at h; rw [List.all_eq_true] at h
  have := h j (List.mem_range.2 hj)
  simpa using this
theorem dgB_no {b c : List Int} {d k j : Nat} (hj : j < k) (h : ¬ el c (d - 1 - j) ≤ el b j) : dgB b c d k = false := by
  cases e : dgB b c d k with
  | false => rfl
  | true => exact absurd (dgB_at e hj) h
theorem fall {b c : List Int} {d : Nat} (h : midB b c d = true) (i : Nat) : ∀ m, i + m < d → el b (i + m) ≤ el b i
  | 0, _ => Int.le_refl _
  | m + 1, hm => by
    have h1 := fall h i m (by omega)
    have h2 := (midA_iff.1 (midB_at h (i := i + m + 1) (by omega) (by omega))).1
    rw [show i + m + 1 - 1 = i + m by omega] at h2
    exact Int.le_trans h2 h1
theorem rise {b c : List Int} {d : Nat} (h : midB b c d = true) (i : Nat) : ∀ m, i + m < d → el c i ≤ el c (i + m)
  | 0, _ => Int.le_refl _
  | m + 1, hm => by
    have h1 := rise h i m (by omega)
    have h2 := (midA_iff.1 (midB_at h (i := i + m + 1) (by omega) (by omega))).2.1
    rw [show i + m + 1 - 1 = i + m by omega] at h2
    exact Int.le_trans h1 h2
/-- All conditions with i and j, and the last one: those with i and j together d. -/
theorem tri_dg {b c : List Int} {d : Nat} (hd : 1 ≤ d) (h : midB b c d = true) : (decide (el c (d - 1) ≤ el b 0) && triB b c d (d + 1)) = dgB b c d d := by
  rw [Bool.eq_iff_iff, Bool.and_eq_true, decide_eq_true_iff, triB_iff]
  constructor
  · rintro ⟨_, h2⟩
    unfold dgB
    rw [List.all_eq_true]
    intro j hj
    rw [List.mem_range] at hj
    have := h2 (d - j) j (by omega) (by omega) hj
    rw [show d - j - 1 = d - 1 - j by omega] at this
    simpa using this
  · intro h2
    refine ⟨by have := dgB_at h2 (j := 0) (by omega); simpa using this, fun i j h3 h4 h5 => ?_⟩
    have h6 := dgB_at h2 h5
    have h7 := rise h (i - 1) (d - 1 - j - (i - 1)) (by omega)
    rw [show i - 1 + (d - 1 - j - (i - 1)) = d - 1 - j by omega] at h7
    exact Int.le_trans h7 h6

/-- Sums of the first numbers, and of their remainders by 2. -/
def smK (L : List Int) : Nat → Int
  | 0 => 0
  | k + 1 => smK L k + el L k
def odK (L : List Int) : Nat → Int
  | 0 => 0
  | k + 1 => odK L k + el L k % 2
theorem odK_mod (L : List Int) : ∀ k, odK L k % 2 = smK L k % 2
  | 0 => rfl
  | k + 1 => by
    have := odK_mod L k
    simp only [odK, smK]; omega
theorem odK_bound (L : List Int) : ∀ k, 0 ≤ odK L k ∧ odK L k ≤ k
  | 0 => ⟨Int.le_refl _, Int.le_refl _⟩
  | k + 1 => by
    have := odK_bound L k
    simp only [odK]; omega
theorem smK_bound (b c : List Int) (d : Nat) (hd : d ≤ 10) (hb : ∀ i, i < d → 1 ≤ el b i ∧ el b i ≤ 62) (hc : ∀ i, i < d → 1 ≤ el c i ∧ el c i ≤ 62) :
    ∀ k, k ≤ d → 0 ≤ smK (nmL b c d) (k + 1) ∧ smK (nmL b c d) (k + 1) ≤ 2 * 62 ^ k
  | 0, _ => by
    have : smK (nmL b c d) 1 = 0 + el (nmL b c d) 0 := rfl
    rw [this, nmL_at b c d 0 (by omega)]
    simp [nmK]
  | k + 1, hk => by
    have ih := smK_bound b c d hd hb hc k (by omega)
    have h1 : smK (nmL b c d) (k + 1 + 1) = smK (nmL b c d) (k + 1) + el (nmL b c d) (k + 1) := rfl
    rw [h1, nmL_at b c d (k + 1) hk]
    have h2 := nmK_bound b c (k + 1) (fun i hi => hb i (by omega)) (fun i hi => hc i (by omega))
    have e : (62 : Int) ^ (k + 1) = 62 ^ k * 62 := Int.pow_succ 62 k
    omega
/-- As many edges as a whole number. -/
def evB (L : List Int) (k : Int) : Bool := decide (smK L L.length % 2 = 0) || decide (k % 2 = 0)
theorem evB_odd (L : List Int) (k : Int) : ((odK L L.length * k) % 2 == 0) = evB L k := by
  have h1 := odK_mod L L.length
  have h2 := Int.mul_emod (odK L L.length) k 2
  unfold evB
  rw [← h1]
  have c1 : odK L L.length % 2 = 0 ∨ odK L L.length % 2 = 1 := by omega
  have c2 : k % 2 = 0 ∨ k % 2 = 1 := by omega
  rcases c1 with c1 | c1 <;> rcases c2 with c2 | c2 <;> rw [h2, c1, c2] <;> rfl

/-- What is asked besides the numbers at distances; feasible lists. -/
def bdB (b c : List Int) : Bool := decide (el c 0 = 1) && midB b c b.length && dgB b c b.length b.length
def feB (b c : List Int) : Bool := twoOk b c && (nmW b c b.length && (bdB b c && evB (nmL b c b.length) (el b 0)))
def feC (b c : List Int) : Int := if twoOk b c then 0 else 2
/-- The model's order of the conditions. -/
theorem fe_spec {b c : List Int} (h : 1 ≤ b.length) : ((((nmW b c b.length && decide (el c 0 = 1) && decide (el c (b.length - 1) ≤ el b 0)) && evB (nmL b c b.length) (el b 0)) && midB b c b.length) && triB b c b.length (b.length + 1)) = (nmW b c b.length && (bdB b c && evB (nmL b c b.length) (el b 0))) := by
  unfold bdB
  cases hm : midB b c b.length with
  | false => simp
  | true =>
    have := tri_dg (b := b) (c := c) h hm
    rw [← this]
    cases nmW b c b.length <;> cases decide (el c 0 = 1) <;> cases decide (el c (b.length - 1) ≤ el b 0) <;> cases evB (nmL b c b.length) (el b 0) <;> cases triB b c b.length (b.length + 1) <;> rfl
end Go.Proofs.Ytaekecccpgcgiaa
