/-
  Levels and distances in a relation on the numbers below n: plain facts.
-/
import Derived.WalkKit
namespace Go.Proofs.YtbacocldjcenjaaDoor
set_option maxRecDepth 100000
open Go.RowKit

/-- The numbers at the distance d from v, and those at a distance of at most d. -/
def lm (R : Nat → Nat → Bool) (n v : Nat) : Nat → (Nat → Bool) × (Nat → Bool)
  | 0 => (fun w => w == v, fun w => w == v)
  | d + 1 => (fun w => decide (w < n) && !(lm R n v d).2 w && (List.range n).any fun x => (lm R n v d).1 x && R x w,
      fun w => (lm R n v d).2 w || (decide (w < n) && !(lm R n v d).2 w && (List.range n).any fun x => (lm R n v d).1 x && R x w))
def lev (R : Nat → Nat → Bool) (n v d w : Nat) : Bool := (lm R n v d).1 w
def met (R : Nat → Nat → Bool) (n v d w : Nat) : Bool := (lm R n v d).2 w
variable {R : Nat → Nat → Bool} {n v : Nat}

theorem lev_zero (w : Nat) : lev R n v 0 w = (w == v) := rfl
theorem met_zero (w : Nat) : met R n v 0 w = (w == v) := rfl
theorem lev_succ (d w : Nat) : lev R n v (d + 1) w = (decide (w < n) && !met R n v d w && (List.range n).any fun x => lev R n v d x && R x w) := rfl
theorem met_succ (d w : Nat) : met R n v (d + 1) w = (met R n v d w || lev R n v (d + 1) w) := rfl
theorem lev_succ_iff {d w : Nat} : lev R n v (d + 1) w = true ↔ w < n ∧ met R n v d w = false ∧ ∃ x, x < n ∧ lev R n v d x = true ∧ R x w = true := by
  rw [lev_succ]
  simp only [Bool.and_eq_true, decide_eq_true_eq, Bool.not_eq_true', List.any_eq_true, List.mem_range]
  constructor
  · rintro ⟨⟨h1, h2⟩, x, hx, h3, h4⟩; exact ⟨h1, h2, x, hx, h3, h4⟩
  · rintro ⟨h1, h2, x, hx, h3, h4⟩; exact ⟨⟨h1, h2⟩, x, hx, h3, h4⟩
theorem met_iff {d w : Nat} : met R n v d w = true ↔ ∃ k, k ≤ d ∧ lev R n v k w = true := by
  induction d with
  | zero =>
    constructor
    · intro h; exact ⟨0, Nat.le_refl _, h⟩
    · rintro ⟨k, hk, h⟩; obtain rfl : k = 0 := (by omega); exact h
  | succ d ih =>
    rw [met_succ, Bool.or_eq_true, ih]
    constructor
    · rintro (⟨k, hk, h⟩ | h)
      · exact ⟨k, by omega, h⟩
      · exact ⟨d + 1, Nat.le_refl _, h⟩
    · rintro ⟨k, hk, h⟩
      rcases Nat.lt_or_ge k (d + 1) with h1 | h1
      · exact .inl ⟨k, by omega, h⟩
      · obtain rfl : k = d + 1 := by omega
        exact .inr h
theorem lev_uniq {d e w : Nat} (h1 : lev R n v d w = true) (h2 : lev R n v e w = true) : d = e := by
  rcases Nat.lt_trichotomy d e with h | h | h
  · cases e with
    | zero => omega
    | succ e =>
      have := (lev_succ_iff.1 h2).2.1
      rw [met_iff.2 ⟨d, by omega, h1⟩] at this
      cases this
  · exact h
  · cases d with
    | zero => omega
    | succ d =>
      have := (lev_succ_iff.1 h1).2.1
      rw [met_iff.2 ⟨e, by omega, h2⟩] at this
      cases this
theorem lev_lt {d w : Nat} (hv : v < n) (h : lev R n v d w = true) : w < n := by
  cases d with
  | zero => rw [lev_zero] at h; have : w = v := by simpa using h
            omega
  | succ d => exact (lev_succ_iff.1 h).1

theorem filter_lt {α : Type} (p q : α → Bool) (hpq : ∀ a, p a = true → q a = true) : ∀ l : List α, (∃ a, a ∈ l ∧ q a = true ∧ p a = false) → (l.filter p).length < (l.filter q).length
  | [], h => by obtain ⟨a, ha, _⟩ := h; cases ha
  | b :: l, h => by
    have hle : ∀ l : List α, (l.filter p).length ≤ (l.filter q).length := by
      intro l
      induction l with
      | nil => exact Nat.le_refl _
      | cons c l ih =>
        rw [List.filter_cons, List.filter_cons]
        cases hp : p c with
        | true => rw [if_pos rfl, hpq c hp, if_pos rfl]; simpa using ih
        | false =>
          rw [if_neg (by simp)]
          cases q c with
          | true => rw [if_pos rfl]; simp; omega
          | false => rw [if_neg (by simp)]; exact ih
    obtain ⟨a, ha, hq, hp⟩ := h
    rw [List.filter_cons, List.filter_cons]
    rcases List.mem_cons.1 ha with rfl | ha
    · rw [hp, if_neg (by simp), hq, if_pos rfl]
      have := hle l
      simp; omega
    · have ih := filter_lt p q hpq l ⟨a, ha, hq, hp⟩
      cases hb : p b with
      | true => rw [if_pos rfl, hpq b hb, if_pos rfl]; simpa using ih
      | false =>
        rw [if_neg (by simp)]
        cases q b with
        | true => rw [if_pos rfl]; simp; omega
        | false => rw [if_neg (by simp)]; exact ih

/-- A level that is not empty has as many levels ahead of it as its number says. -/
theorem met_many (hv : v < n) : ∀ d, (∃ w, lev R n v d w = true) → d + 1 ≤ ((List.range n).filter (met R n v d)).length
  | 0, _ => by
    have : v ∈ (List.range n).filter (met R n v 0) := by rw [List.mem_filter]; exact ⟨List.mem_range.2 hv, by rw [met_zero]; simp⟩
    exact List.length_pos_of_mem this
  | d + 1, h => by
    obtain ⟨w, hw⟩ := h
    obtain ⟨h1, h2, x, hx, h3, _⟩ := lev_succ_iff.1 hw
    have ih := met_many hv d ⟨x, h3⟩
    have := filter_lt (met R n v d) (met R n v (d + 1)) (fun a ha => by rw [met_succ, ha]; rfl) (List.range n) ⟨w, List.mem_range.2 h1, by rw [met_succ, hw]; simp, h2⟩
    omega
theorem lev_few (hv : v < n) {d w : Nat} (h : lev R n v d w = true) : d < n := by
  have h1 := met_many hv d ⟨w, h⟩
  have h2 := List.length_filter_le (met R n v d) (List.range n)
  rw [List.length_range] at h2
  omega

/-- The distance of w from v, -1 if there is none. -/
def dOf (R : Nat → Nat → Bool) (n v w : Nat) : Int := match (List.range n).find? fun d => lev R n v d w with
  | some d => (d : Int)
  | none => -1
theorem dOf_lev (hv : v < n) {d w : Nat} (h : lev R n v d w = true) : dOf R n v w = d := by
  unfold dOf
  cases hf : (List.range n).find? (fun d => lev R n v d w) with
  | some e =>
    have := List.find?_some hf
    rw [lev_uniq this h]
  | none =>
    rw [List.find?_eq_none] at hf
    exact absurd h (hf d (List.mem_range.2 (lev_few hv h)))
theorem dOf_none {w : Nat} (h : ∀ d, lev R n v d w = false) : dOf R n v w = -1 := by
  unfold dOf
  cases hf : (List.range n).find? (fun d => lev R n v d w) with
  | some e => have := List.find?_some hf; rw [h e] at this; cases this
  | none => rfl

/-- Numbers that are 0 at v alone, one more than at some neighbour elsewhere, and at most one more than at all neighbours, are the distances. -/
theorem lev_char (out : Nat → Int) (h0 : out v = 0) (hz : ∀ w, w < n → out w = 0 → w = v)
    (hpar : ∀ w, w < n → 0 < out w → ∃ x, x < n ∧ 0 ≤ out x ∧ out x + 1 = out w ∧ R x w = true)
    (hclo : ∀ x, x < n → 0 ≤ out x → ∀ y, y < n → R x y = true → 0 ≤ out y ∧ out y ≤ out x + 1) : ∀ d w, w < n → (lev R n v d w = true ↔ out w = (d : Int)) := by
  intro d
  induction d using Nat.strongRecOn with
  | ind d ih =>
    intro w hw
    cases d with
    | zero =>
      rw [lev_zero]
      constructor
      · intro h; have : w = v := by simpa using h
        rw [this, h0]; rfl
      · intro h; have := hz w hw h; simp [this]
    | succ d =>
      rw [lev_succ_iff]
      constructor
      · rintro ⟨_, hm, x, hx, hlx, hR⟩
        have ox := (ih d (by omega) x hx).1 hlx
        obtain ⟨y0, y1⟩ := hclo x hx (by omega) w hw hR
        rw [ox] at y1
        by_cases hle : out w ≤ (d : Int)
        · have hk := (ih (out w).toNat (by omega) w hw).2 (by omega)
          rw [met_iff.2 ⟨_, by omega, hk⟩] at hm
          cases hm
        · omega
      · intro ho
        obtain ⟨x, hx, x0, x1, hR⟩ := hpar w hw (by omega)
        refine ⟨hw, ?_, x, hx, (ih d (by omega) x hx).2 (by omega), hR⟩
        cases hmet : met R n v d w with
        | false => rfl
        | true =>
          obtain ⟨k, hk, hl⟩ := met_iff.1 hmet
          have := (ih k (by omega) w hw).1 hl
          omega
theorem dOf_char (hv : v < n) (out : Nat → Int) (h0 : out v = 0) (hz : ∀ w, w < n → out w = 0 → w = v) (hneg : ∀ w, w < n → -1 ≤ out w)
    (hpar : ∀ w, w < n → 0 < out w → ∃ x, x < n ∧ 0 ≤ out x ∧ out x + 1 = out w ∧ R x w = true)
    (hclo : ∀ x, x < n → 0 ≤ out x → ∀ y, y < n → R x y = true → 0 ≤ out y ∧ out y ≤ out x + 1) : ∀ w, w < n → out w = dOf R n v w := by
  intro w hw
  have hc := lev_char out h0 hz hpar hclo
  by_cases h : 0 ≤ out w
  · rw [dOf_lev hv ((hc (out w).toNat w hw).2 (by omega))]
    omega
  · rw [dOf_none]
    · have := hneg w hw; omega
    · intro d
      cases hl : lev R n v d w with
      | false => rfl
      | true => have := (hc d w hw).1 hl; omega
end Go.Proofs.YtbacocldjcenjaaDoor
