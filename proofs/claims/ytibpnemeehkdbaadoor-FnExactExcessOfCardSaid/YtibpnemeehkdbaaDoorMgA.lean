/-
  Several texts in one: Mo1 Sy Gx8 Mo2.
-/
import Derived.Test.YtibpnemeehkdbaaDoorDist
import Derived.Test.YtibpnemeehkdbaaDoorRm
import Derived.Test.YtibpnemeehkdbaaDoorGs7
import Derived.Test.YtibpnemeehkdbaaDoorMgB
namespace Go.Proofs.YtibpnemeehkdbaaDoor
open Go.RowKit

def sm (f : Nat → Nat) : Nat → Nat
  | 0 => 0
  | k + 1 => sm f k + f k
theorem sm_le {f g : Nat → Nat} : ∀ n, (∀ i, i < n → f i ≤ g i) → sm f n ≤ sm g n
  | 0, _ => Nat.le_refl _
  | n + 1, h => Nat.add_le_add (sm_le n fun i hi => h i (by omega)) (h n (by omega))
theorem sm_congr {f g : Nat → Nat} : ∀ n, (∀ i, i < n → f i = g i) → sm f n = sm g n
  | 0, _ => rfl
  | n + 1, h => by show _ + _ = _ + _; rw [sm_congr n fun i hi => h i (by omega), h n (by omega)]
theorem sm_add (f g : Nat → Nat) : ∀ n, sm (fun i => f i + g i) n = sm f n + sm g n
  | 0 => rfl
  | n + 1 => by show _ + (f n + g n) = (sm f n + f n) + (sm g n + g n); rw [sm_add f g n]; omega
theorem sm_mul (f : Nat → Nat) (c : Nat) : ∀ n, sm (fun i => f i * c) n = sm f n * c
  | 0 => by show 0 = 0 * c; omega
  | n + 1 => by show _ + _ = (_ + _) * c; rw [sm_mul f c n, Nat.add_mul]
theorem sm_zero : ∀ n, sm (fun _ => 0) n = 0
  | 0 => rfl
  | n + 1 => by show _ + 0 = 0; rw [sm_zero n]
theorem sm_ones : ∀ n, sm (fun _ => 1) n = n
  | 0 => rfl
  | n + 1 => by show _ + 1 = n + 1; rw [sm_ones n]
theorem sm_swap (g : Nat → Nat → Nat) (m : Nat) : ∀ n, sm (fun x => sm (fun y => g x y) m) n = sm (fun y => sm (fun x => g x y) n) m
  | 0 => (sm_zero m).symm
  | n + 1 => by
    show sm (fun x => sm (fun y => g x y) m) n + sm (fun y => g n y) m = sm (fun y => sm (fun x => g x y) n + g n y) m
    rw [sm_swap g m n, sm_add]
theorem sm_none {p : Nat → Bool} : ∀ n, (∀ a, a < n → p a = false) → sm (fun i => (p i).toNat) n = 0 := fun n h => by
  rw [sm_congr (g := fun _ => 0) n fun i hi => by rw [h i hi]; rfl, sm_zero]
theorem sm_one {p : Nat → Bool} : ∀ n, (∀ a b, a < n → b < n → p a = true → p b = true → a = b) → sm (fun i => (p i).toNat) n ≤ 1
  | 0, _ => Nat.zero_le _
  | n + 1, h => by
    show sm (fun i => (p i).toNat) n + (p n).toNat ≤ 1
    cases hp : p n with
    | false => have := sm_one n fun a b ha hb => h a b (by omega) (by omega); simpa using this
    | true =>
      rw [sm_none n fun a ha => by
        cases hq : p a with
        | false => rfl
        | true => have := h a n (by omega) (by omega) hq hp; omega]
      decide
theorem sm_at {p : Nat → Bool} {v : Nat} : ∀ n, v < n → p v = true → 1 ≤ sm (fun i => (p i).toNat) n
  | n + 1, h, hp => by
    show 1 ≤ sm (fun i => (p i).toNat) n + (p n).toNat
    by_cases e : v = n
    · subst e; rw [hp]; simp
    · have := sm_at (p := p) n (by omega) hp; omega
/-- Where each summand is at most 1 and the sum is as great as can be, each is 1. -/
theorem sm_full {f : Nat → Nat} : ∀ n, (∀ i, i < n → f i ≤ 1) → n ≤ sm f n → ∀ i, i < n → f i = 1
  | n + 1, h, hn, i, hi => by
    have h1 : sm f n ≤ n := by have := sm_le (f := f) (g := fun _ => 1) n fun i hi => h i (by omega); rwa [sm_ones] at this
    have h2 := h n (by omega)
    have hn' : n + 1 ≤ sm f n + f n := hn
    by_cases e : i = n
    · subst e; omega
    · exact sm_full n (fun i hi => h i (by omega)) (by omega) i (by omega)

variable {R : Nat → Nat → Bool} {n v : Nat}

theorem met_mono {d e w : Nat} (h : met R n v d w = true) (hd : d ≤ e) : met R n v e w = true := by
  obtain ⟨k, hk, hl⟩ := met_iff.1 h
  exact met_iff.2 ⟨k, by omega, hl⟩
theorem met_step {d x y : Nat} (h : met R n v d x = true) (hx : x < n) (hy : y < n) (hR : R x y = true) : met R n v (d + 1) y = true := by
  obtain ⟨k, hk, hl⟩ := met_iff.1 h
  cases hm : met R n v k y with
  | true => exact met_mono hm (by omega)
  | false => exact met_iff.2 ⟨k + 1, by omega, lev_succ_iff.2 ⟨hy, hm, x, hx, hl, hR⟩⟩

/-- The relation without the step from a to b. -/
def cutR (R : Nat → Nat → Bool) (a b : Nat) (x y : Nat) : Bool := R x y && !(x == a && y == b)
theorem cut_other {a b x y : Nat} (h : R x y = true) (hne : x ≠ a ∨ y ≠ b) : cutR R a b x y = true := by
  unfold cutR
  rw [h]
  rcases hne with h | h
  · simp [h]
  · simp [h]

/-- From a vertex of the level d back to v, in a relation that lacks steps from x alone, which lies in no level up to d. -/
theorem cut_down {a b x : Nat} (hv : v < n) (hs : ∀ p q, p < n → q < n → R p q = R q p) (hx : ∀ e, e ≤ x → lev R n v e a = false) :
    ∀ d w m, d ≤ x → lev R n v d w = true → met (cutR R a b) n a m w = true → met (cutR R a b) n a (m + d) v = true
  | 0, w, m, _, hl, hm => by
    rw [lev_zero] at hl
    have : w = v := by simpa using hl
    subst this
    exact hm
  | d + 1, w, m, hd, hl, hm => by
    obtain ⟨hw, _, u, hu, hlu, hR⟩ := lev_succ_iff.1 hl
    have hne : w ≠ a := fun e => by subst e; rw [hx _ hd] at hl; cases hl
    have := cut_down hv hs hx d u (m + 1) (by omega) hlu (met_step hm hw hu (cut_other (by rw [hs w u hw hu]; exact hR) (.inl hne)))
    have e : m + (d + 1) = m + 1 + d := by omega
    rw [e]
    exact this
/-- From v on to a vertex of the level d, in such a relation. -/
theorem cut_up {a b x : Nat} (hv : v < n) (hx : ∀ e, e ≤ x → lev R n v e a = false) :
    ∀ d w m, d ≤ x + 1 → lev R n v d w = true → met (cutR R a b) n a m v = true → met (cutR R a b) n a (m + d) w = true
  | 0, w, m, _, hl, hm => by
    rw [lev_zero] at hl
    have : w = v := by simpa using hl
    subst this
    exact hm
  | d + 1, w, m, hd, hl, hm => by
    obtain ⟨hw, _, u, hu, hlu, hR⟩ := lev_succ_iff.1 hl
    have hne : u ≠ a := fun e => by subst e; rw [hx _ (by omega)] at hlu; cases hlu
    exact met_step (cut_up hv hx d u m (by omega) hlu hm) hu hw (cut_other hR (.inl hne))

/-- Each vertex has k neighbours, both ways, none itself, and no cycle is shorter than g. -/
structure Reg (R : Nat → Nat → Bool) (n k g : Nat) : Prop where
  sym : ∀ p q, p < n → q < n → R p q = R q p
  irr : ∀ p, p < n → R p p = false
  deg : ∀ p, p < n → sm (fun q => (R p q).toNat) n = k
  cyc : ∀ a b, a < n → b < n → R a b = true → ∀ m, m + 1 < g → met (cutR R a b) n a m b = false

variable {k g : Nat}
theorem lev_ne {i a : Nat} (hl : lev R n v i a = true) (e : Nat) (he : e ≠ i) : lev R n v e a = false := by
  cases h : lev R n v e a with
  | false => rfl
  | true => exact absurd (lev_uniq h hl) he

/-- No edges within a level of few steps. -/
theorem Reg.within (h : Reg R n k g) (hv : v < n) {i x y : Nat} (hi : 1 ≤ i) (hg : 2 * i + 2 ≤ g) (hx : lev R n v i x = true) (hy : lev R n v i y = true) : R x y = false := by
  have hxn := lev_lt hv hx
  have hyn := lev_lt hv hy
  cases hR : R x y with
  | false => rfl
  | true =>
    obtain ⟨i, rfl⟩ : ∃ j, i = j + 1 := ⟨i - 1, by omega⟩
    obtain ⟨_, _, u, hu, hlu, hRu⟩ := lev_succ_iff.1 hx
    have hout : ∀ e, e ≤ i → lev R n v e x = false := fun e he => lev_ne hx e (by omega)
    have huy : u ≠ y := fun e => by subst e; have := lev_uniq hlu hy; omega
    have m0 : met (cutR R x y) n x 0 x = true := by rw [met_zero]; simp
    have m1 := met_step m0 hxn hu (cut_other (a := x) (b := y) (by rw [h.sym x u hxn hu]; exact hRu) (.inr huy))
    have m2 := cut_down hv h.sym hout i u _ (Nat.le_refl _) hlu m1
    have m3 := cut_up hv hout (i + 1) y _ (Nat.le_refl _) hy m2
    rw [h.cyc x y hxn hyn hR _ (by omega)] at m3
    cases m3
/-- One neighbour alone in the level ahead. -/
theorem Reg.back (h : Reg R n k g) (hv : v < n) {i x y z : Nat} (hg : 2 * i + 3 ≤ g) (hx : lev R n v (i + 1) x = true) (hy : lev R n v i y = true) (hz : lev R n v i z = true) (hxy : R x y = true) (hxz : R x z = true) : y = z := by
  have hxn := lev_lt hv hx
  have hyn := lev_lt hv hy
  have hzn := lev_lt hv hz
  by_cases e : y = z
  · exact e
  · have hout : ∀ e, e ≤ i → lev R n v e x = false := fun e he => lev_ne hx e (by omega)
    have m0 : met (cutR R x y) n x 0 x = true := by rw [met_zero]; simp
    have m1 := met_step m0 hxn hzn (cut_other (a := x) (b := y) hxz (.inr (Ne.symm e)))
    have m2 := cut_down hv h.sym hout i z _ (Nat.le_refl _) hz m1
    have m3 := cut_up hv hout i y _ (by omega) hy m2
    rw [h.cyc x y hxn hyn hxy _ (by omega)] at m3
    cases m3
/-- Neighbours lie in the level ahead, the same, or the next. -/
theorem Reg.near (h : Reg R n k g) (hv : v < n) {i x y : Nat} (hx : lev R n v i x = true) (hy : y < n) (hxy : R x y = true) : (∃ j, j + 1 = i ∧ lev R n v j y = true) ∨ lev R n v i y = true ∨ lev R n v (i + 1) y = true := by
  have hxn := lev_lt hv hx
  have m1 : met R n v (i + 1) y = true := met_step (met_iff.2 ⟨i, Nat.le_refl _, hx⟩) hxn hy hxy
  obtain ⟨j, hj, hl⟩ := met_iff.1 m1
  have m2 : met R n v (j + 1) x = true := met_step (met_iff.2 ⟨j, Nat.le_refl _, hl⟩) hy hxn (by rw [h.sym y x hy hxn]; exact hxy)
  obtain ⟨e, he, hle⟩ := met_iff.1 m2
  have := lev_uniq hle hx
  rcases Nat.lt_or_ge j i with h1 | h1
  · exact .inl ⟨j, by omega, hl⟩
  · rcases Nat.lt_or_ge i j with h2 | h2
    · exact .inr (.inr (by rw [show i + 1 = j by omega]; exact hl))
    · exact .inr (.inl (by rw [show i = j by omega]; exact hl))

/-- How many vertices a level has. -/
def Lc (R : Nat → Nat → Bool) (n v i : Nat) : Nat := sm (fun w => (lev R n v i w).toNat) n
theorem Lc_zero (hv : v < n) : 1 ≤ Lc R n v 0 := sm_at n hv (by rw [lev_zero]; simp)
theorem Reg.one (h : Reg R n k g) (hv : v < n) : k ≤ Lc R n v 1 := by
  rw [← h.deg v hv]
  refine sm_le n fun w hw => ?_
  cases hR : R v w with
  | false => exact Nat.zero_le _
  | true =>
    have hm : met R n v 0 w = false := by
      rw [met_zero]
      cases e : (w == v) with
      | false => rfl
      | true =>
        have e' : w = v := by simpa using e
        rw [e', h.irr v hv] at hR
        cases hR
    have : lev R n v 1 w = true := lev_succ_iff.2 ⟨hw, hm, v, hv, by rw [lev_zero]; simp, hR⟩
    rw [this]; exact Nat.le_refl _

theorem toNat_and (a b : Bool) : (a && b).toNat = a.toNat * b.toNat := by cases a <;> cases b <;> rfl
theorem toNat_le (a : Bool) : a.toNat ≤ 1 := by cases a <;> decide

/-- Each vertex of the level i has at least k - 1 neighbours in the next one. -/
theorem Reg.out (h : Reg R n k g) (hv : v < n) {i x : Nat} (hg : 2 * i + 4 ≤ g) (hx : lev R n v (i + 1) x = true) : k - 1 ≤ sm (fun y => (R x y && lev R n v (i + 2) y).toNat) n := by
  have hxn := lev_lt hv hx
  have e1 : k ≤ sm (fun y => (R x y && lev R n v i y).toNat + (R x y && lev R n v (i + 2) y).toNat) n := by
    rw [← h.deg x hxn]
    refine sm_le n fun y hy => ?_
    cases hR : R x y with
    | false => exact Nat.zero_le _
    | true =>
      rcases h.near hv hx hy hR with ⟨j, hj, hl⟩ | hl | hl
      · obtain rfl : j = i := by omega
        rw [hl]
        exact Nat.le_add_right _ _
      · rw [h.within hv (by omega) (by omega) hx hl] at hR; cases hR
      · have hl' : lev R n v (i + 2) y = true := hl
        rw [hl']
        exact Nat.le_add_left _ _
  rw [sm_add] at e1
  have e2 : sm (fun y => (R x y && lev R n v i y).toNat) n ≤ 1 := sm_one n fun a b _ _ ha hb => by
    simp only [Bool.and_eq_true] at ha hb
    exact h.back hv (by omega) hx ha.2 hb.2 ha.1 hb.1
  omega
/-- The edges between two levels, counted from both sides: c is the most that a vertex of the second has. -/
theorem Reg.grow (h : Reg R n k g) (hv : v < n) {i c : Nat} (hg : 2 * i + 4 ≤ g) (hc : ∀ y, lev R n v (i + 2) y = true → sm (fun x => (R y x && lev R n v (i + 1) x).toNat) n ≤ c) : Lc R n v (i + 1) * (k - 1) ≤ Lc R n v (i + 2) * c := by
  have e1 : Lc R n v (i + 1) * (k - 1) ≤ sm (fun x => sm (fun y => (lev R n v (i + 1) x && (R x y && lev R n v (i + 2) y)).toNat) n) n := by
    unfold Lc
    rw [← sm_mul]
    refine sm_le n fun x hx => ?_
    cases hl : lev R n v (i + 1) x with
    | false => simp
    | true =>
      have := h.out hv hg hl
      simpa using this
  rw [sm_swap] at e1
  refine Nat.le_trans e1 ?_
  unfold Lc
  rw [← sm_mul]
  refine sm_le n fun y hy => ?_
  cases hl : lev R n v (i + 2) y with
  | false =>
    rw [sm_congr (g := fun _ => 0) n fun x _ => by simp, sm_zero]
    exact Nat.zero_le _
  | true =>
    have := hc y hl
    rw [sm_congr (g := fun x => (R y x && lev R n v (i + 1) x).toNat) n fun x hx => by rw [h.sym x y hx hy, Bool.and_true, Bool.and_comm]]
    simpa using this
theorem Reg.grow1 (h : Reg R n k g) (hv : v < n) {i : Nat} (hg : 2 * i + 5 ≤ g) : Lc R n v (i + 1) * (k - 1) ≤ Lc R n v (i + 2) := by
  have := h.grow hv (i := i) (c := 1) (by omega) fun y hy => sm_one n fun a b _ _ ha hb => by
    simp only [Bool.and_eq_true] at ha hb
    exact h.back hv (by omega) hy ha.2 hb.2 ha.1 hb.1
  omega
theorem Reg.growk (h : Reg R n k g) (hv : v < n) {i : Nat} (hg : 2 * i + 4 ≤ g) : Lc R n v (i + 1) * (k - 1) ≤ Lc R n v (i + 2) * k :=
  h.grow hv hg fun y hy => by
    rw [← h.deg y (lev_lt hv hy)]
    refine sm_le n fun x _ => ?_
    cases R y x <;> cases lev R n v (i + 1) x <;> decide

/-- The sum of the first m powers. -/
def pws (q : Nat) : Nat → Nat
  | 0 => 0
  | m + 1 => pws q m + q ^ m
theorem pws_next (q : Nat) : ∀ m, pws q (m + 1) = 1 + q * pws q m
  | 0 => by show 0 + q ^ 0 = 1 + q * 0; simp
  | m + 1 => by
    show pws q (m + 1) + q ^ (m + 1) = 1 + q * (pws q m + q ^ m)
    rw [pws_next q m, Nat.mul_add, Nat.pow_succ, Nat.mul_comm (q ^ m) q]
    omega
/-- The girth bound as it is told, without its limit. -/
def gB (k g : Nat) : Nat := if g % 2 = 1 then 1 + k * pws (k - 1) ((g - 1) / 2) else 2 * pws (k - 1) (g / 2)

theorem Reg.levels (h : Reg R n k g) (hv : v < n) : ∀ i, 2 * i + 3 ≤ g → k * (k - 1) ^ i ≤ Lc R n v (i + 1)
  | 0, _ => by simpa using h.one hv
  | i + 1, hg => by
    have ih := Reg.levels h hv i (by omega)
    have := h.grow1 hv (i := i) (by omega)
    refine Nat.le_trans ?_ this
    rw [Nat.pow_succ, ← Nat.mul_assoc]
    exact Nat.mul_le_mul_right _ ih
/-- The sum of the levels. -/
theorem Reg.sums (h : Reg R n k g) (hv : v < n) : ∀ m, 2 * m + 1 ≤ g → 1 + k * pws (k - 1) m ≤ sm (Lc R n v) (m + 1)
  | 0, _ => by show 1 + k * 0 ≤ 0 + Lc R n v 0; have := Lc_zero (R := R) hv; omega
  | m + 1, hg => by
    have ih := Reg.sums h hv m (by omega)
    have := h.levels hv m (by omega)
    show 1 + k * (pws (k - 1) m + (k - 1) ^ m) ≤ sm (Lc R n v) (m + 1) + Lc R n v (m + 1)
    rw [Nat.mul_add]
    omega
theorem sum_few (m : Nat) : sm (Lc R n v) m = sm (fun w => sm (fun i => (lev R n v i w).toNat) m) n := sm_swap (fun i w => (lev R n v i w).toNat) n m
theorem sum_each (m w : Nat) : sm (fun i => (lev R n v i w).toNat) m ≤ 1 := sm_one m fun _ _ _ _ ha hb => lev_uniq ha hb
theorem sum_le (m : Nat) : sm (Lc R n v) m ≤ n := by
  rw [sum_few]
  have := sm_le (g := fun _ => 1) n fun w (_ : w < n) => sum_each (R := R) (n := n) (v := v) m w
  rwa [sm_ones] at this
theorem Reg.bound (h : Reg R n k g) (hv : v < n) (hk : 2 ≤ k) (hg : 3 ≤ g) : ∃ m, gB k g ≤ sm (Lc R n v) m := by
  unfold gB
  by_cases ho : g % 2 = 1
  · rw [if_pos ho]
    exact ⟨_, h.sums hv ((g - 1) / 2) (by omega)⟩
  · rw [if_neg ho]
    obtain ⟨r, hr⟩ : ∃ r, g = 2 * r + 4 := ⟨(g - 4) / 2, by omega⟩
    refine ⟨r + 3, ?_⟩
    have e : g / 2 = r + 2 := by omega
    rw [e]
    obtain ⟨q, rfl⟩ : ∃ q, k = q + 1 := ⟨k - 1, by omega⟩
    have h1 := h.sums hv (r + 1) (by omega)
    have h2 := h.levels hv r (by omega)
    have h3 := h.growk hv (i := r) (by omega)
    simp only [Nat.add_sub_cancel] at h1 h2 h3 ⊢
    have h4 : q ^ (r + 1) ≤ Lc R n v (r + 2) := by
      have a : (q + 1) * q ^ (r + 1) ≤ (q + 1) * Lc R n v (r + 2) := by
        rw [Nat.mul_comm (q + 1) (Lc R n v (r + 2))]
        refine Nat.le_trans ?_ h3
        rw [Nat.pow_succ, ← Nat.mul_assoc]
        exact Nat.mul_le_mul_right _ h2
      exact Nat.le_of_mul_le_mul_left a (by omega)
    show 2 * pws q (r + 2) ≤ sm (Lc R n v) (r + 2) + Lc R n v (r + 2)
    have e2 : pws q (r + 2) = pws q (r + 1) + q ^ (r + 1) := rfl
    have e3 := pws_next q (r + 1)
    have e4 : (q + 1) * pws q (r + 1) = q * pws q (r + 1) + pws q (r + 1) := by rw [Nat.add_mul, Nat.one_mul]
    have e5 : pws q (r + 2) = 1 + q * pws q (r + 1) := e3
    have h1' : 1 + (q + 1) * pws q (r + 1) ≤ sm (Lc R n v) (r + 2) := h1
    omega
/-- A regular graph has no less vertices than its girth bound. -/
theorem Reg.moore (h : Reg R n k g) (hn : 0 < n) (hk : 2 ≤ k) (hg : 3 ≤ g) : gB k g ≤ n := by
  obtain ⟨m, hm⟩ := h.bound hn hk hg
  exact Nat.le_trans hm (sum_le m)
/-- And with just so many every vertex is reached from every one. -/
theorem Reg.reach (h : Reg R n k g) (hv : v < n) (hk : 2 ≤ k) (hg : 3 ≤ g) (hb : n ≤ gB k g) {w : Nat} (hw : w < n) : ∃ d, lev R n v d w = true := by
  obtain ⟨m, hm⟩ := h.bound hv hk hg
  rw [sum_few] at hm
  have := sm_full n (fun w _ => sum_each (R := R) (n := n) (v := v) m w) (by omega) w hw
  by_cases hd : ∃ d, lev R n v d w = true
  · exact hd
  · rw [sm_none m fun a _ => by
      cases hl : lev R n v a w with
      | false => rfl
      | true => exact absurd ⟨a, hl⟩ hd] at this
    cases this
end Go.Proofs.YtibpnemeehkdbaaDoor
namespace Go.Proofs.YtibpnemeehkdbaaDoor
set_option maxRecDepth 100000
open Go.RowKit

/-- There is a way of d steps from v to w. -/
def wk (R : Nat → Nat → Bool) (n v : Nat) : Nat → Nat → Prop
  | 0, w => w = v
  | d + 1, w => w < n ∧ ∃ x, x < n ∧ wk R n v d x ∧ R x w = true
theorem wk_front {R : Nat → Nat → Bool} {n v x : Nat} (hv : v < n) (hx : x < n) (hR : R v x = true) : ∀ d w, wk R n x d w → wk R n v (d + 1) w
  | 0, w, h => by
    obtain rfl : w = x := h
    exact ⟨hx, v, hv, rfl, hR⟩
  | d + 1, w, ⟨hw, y, hy, h, hR2⟩ => ⟨hw, y, hy, wk_front hv hx hR d y h, hR2⟩
theorem wk_back {R : Nat → Nat → Bool} {n v : Nat} (sym : ∀ a b, a < n → b < n → R b a = R a b) : ∀ d w, w < n → wk R n v d w → wk R n w d v
  | 0, w, _, h => by
    obtain rfl : w = v := h
    exact rfl
  | d + 1, w, hw, ⟨_, x, hx, h, hR⟩ => wk_front hw hx (by rw [sym x w hx hw]; exact hR) d v (wk_back sym d x hx h)
theorem wk_met {R : Nat → Nat → Bool} {n v : Nat} : ∀ d w, wk R n v d w → ∃ k, k ≤ d ∧ lev R n v k w = true
  | 0, w, h => ⟨0, Nat.le_refl _, by have : w = v := h; rw [lev_zero]; simpa using this⟩
  | d + 1, w, ⟨hw, x, hx, h, hR⟩ => by
    obtain ⟨k, hk, hl⟩ := wk_met d x h
    cases hm : met R n v k w with
    | true =>
      obtain ⟨j, hj, hj2⟩ := met_iff.1 hm
      exact ⟨j, by omega, hj2⟩
    | false => exact ⟨k + 1, by omega, lev_succ_iff.2 ⟨hw, hm, x, hx, hl, hR⟩⟩
theorem lev_wk {R : Nat → Nat → Bool} {n v : Nat} : ∀ d w, lev R n v d w = true → wk R n v d w
  | 0, w, h => by rw [lev_zero] at h; show w = v; simpa using h
  | d + 1, w, h => by
    obtain ⟨h1, _, x, hx, hl, hR⟩ := lev_succ_iff.1 h
    exact ⟨h1, x, hx, lev_wk d x hl, hR⟩
theorem dOf_le {R : Nat → Nat → Bool} {n v w : Nat} (sym : ∀ a b, a < n → b < n → R b a = R a b) (hw : w < n) (h : 0 ≤ dOf R n v w) : 0 ≤ dOf R n w v ∧ dOf R n w v ≤ dOf R n v w := by
  obtain ⟨d, hd⟩ := dOf_nat h
  obtain ⟨k, hk, hl⟩ := wk_met d v (wk_back sym d w hw (lev_wk d w (dOf_lt hd)))
  rw [dOf_lev hw hl, hd]
  omega
theorem dOf_symm {R : Nat → Nat → Bool} {n v w : Nat} (sym : ∀ a b, a < n → b < n → R b a = R a b) (hv : v < n) (hw : w < n) : dOf R n v w = dOf R n w v := by
  have g1 : -1 ≤ dOf R n v w := dOf_ge
  have g2 : -1 ≤ dOf R n w v := dOf_ge
  by_cases h : 0 ≤ dOf R n v w
  · have h1 := dOf_le sym hw h
    have h2 := dOf_le sym hv h1.1
    omega
  · by_cases h2 : 0 ≤ dOf R n w v
    · have := dOf_le sym hv h2
      omega
    · omega
theorem Rw_same (zs : List Int) (v u : Nat) : Rw zs v 0 = Rw zs u 0 := by funext x w; rw [Rw_zero, Rw_zero]
theorem dist_symm {n : Int} {zs : List Int} (hg : isG n zs = true) {v w : Nat} (hv : v < zs.length) (hw : w < zs.length) : dOf (Rw zs v 0) zs.length v w = dOf (Rw zs w 0) zs.length w v := by
  rw [Rw_same zs w v]
  exact dOf_symm (fun a b ha hb => by rw [Rw_zero, Rw_zero]; exact isG_symm hg ha hb) hv hw
end Go.Proofs.YtibpnemeehkdbaaDoor
namespace Go.Proofs.YtibpnemeehkdbaaDoor
set_option maxRecDepth 100000
set_option maxRecDepth 100000
open Go.RowKit

/-- The edges of a list at the vertex x. -/
def edX (x : Nat) (q : List (Nat × Nat)) : List (Nat × Nat) := q.filter fun p => p.1 == x || p.2 == x
theorem edX_sub {x : Nat} {q : List (Nat × Nat)} {p : Nat × Nat} (h : p ∈ edX x q) : p ∈ q := (List.mem_filter.1 h).1
theorem edX_in {x k y : Nat} {q : List (Nat × Nat)} (h : k = x ∨ y = x) : edX x (q ++ [(k, y)]) = edX x q ++ [(k, y)] := by
  unfold edX
  rw [List.filter_append]
  have : (k == x || y == x) = true := by simpa using h
  simp [this]
theorem edX_out {x k y : Nat} {q : List (Nat × Nat)} (h : ¬ (k = x ∨ y = x)) : edX x (q ++ [(k, y)]) = edX x q := by
  unfold edX
  rw [List.filter_append]
  have : (k == x || y == x) = false := by
    rw [Bool.or_eq_false_iff]
    exact ⟨by rw [beq_eq_false_iff_ne]; exact fun e => h (.inl e), by rw [beq_eq_false_iff_ne]; exact fun e => h (.inr e)⟩
  simp [this]

theorem flipL_comm (zs : List Int) {a b : Nat} (h : a ≠ b) : flipL zs a b = flipL zs b a := by
  unfold flipL
  rw [List.set_comm _ _ h]
/-- An edge is in the same cycles from both its ends. -/
theorem cyc_symm {zs : List Int} (hg : isG zs.length zs = true) {a b : Nat} (ha : a < zs.length) (hb : b < zs.length) (hab : a ≠ b) (hbt : bt (el zs a) b = true) : cyc zs a b = cyc zs b a := by
  have hbt2 : bt (el zs b) a = true := by rw [isG_symm hg ha hb]; exact hbt
  have hF := isG_flip hg ha hb hab
  have key : cyD zs a (2 ^ b) b = cyD zs b (2 ^ a) a := by
    rw [← cyD_cut9 ha hb hbt, ← cyD_cut9 hb ha hbt2, ← flipL_comm zs hab]
    unfold cyD
    have e : Rw (flipL zs a b) a 0 = Rw (flipL zs a b) b 0 := by funext p q; rw [Rw_zero, Rw_zero]
    rw [e, flipL_length]
    refine dOf_symm (fun p q hp hq => ?_) ha hb
    rw [Rw_zero, Rw_zero]
    exact isG_symm hF (by rw [flipL_length]; exact hp) (by rw [flipL_length]; exact hq)
  unfold cyc
  rw [key]

/-- The edges at x, x first. -/
def gaL (zs : List Int) (x : Nat) : List (Nat × Nat) := (mem (el zs x).toNat).map fun w => (x, w)
theorem gaL_eq {zs : List Int} (hg : isG zs.length zs = true) {x : Nat} (hx : x < zs.length) : gF zs (edX x (edL zs)) = gF zs (gaL zs x) := by
  obtain ⟨p1, p2, -, h4, h5⟩ := isG_iff.1 hg
  have hlt : ∀ w, bt (el zs x) w = true → w < zs.length := fun w hw => by
    refine Nat.lt_of_not_le fun hle => ?_
    unfold bt at hw
    rw [Nat.testBit_lt_two_pow (Nat.lt_of_lt_of_le (h4 x hx).2.1 (Nat.pow_le_pow_right (by decide) hle))] at hw
    cases hw
  have hne : ∀ w, bt (el zs x) w = true → x ≠ w := fun w hw e => by
    rw [← e, (h4 x hx).2.2] at hw; cases hw
  refine Int.le_antisymm ?_ ?_
  · refine gF_le.2 ⟨(gF_le.1 (Int.le_refl _)).1, fun p hp => ?_⟩
    obtain ⟨w, hw, rfl⟩ := List.mem_map.1 hp
    have hw2 : bt (el zs x) w = true := by
      have : (el zs x).toNat.testBit w = true := by
        unfold mem at hw
        simpa using (List.mem_filter.1 hw).2
      exact this
    have hwl := hlt w hw2
    have hxw := hne w hw2
    show _ ≤ cyc zs x w
    rcases Nat.lt_or_gt_of_ne hxw with h | h
    · exact (gF_le.1 (Int.le_refl (gF zs (edX x (edL zs))))).2 (x, w) (List.mem_filter.2 ⟨edL_mem.2 ⟨hx, by omega, h, hw2⟩, by simp⟩)
    · rw [cyc_symm hg hx hwl hxw hw2]
      exact (gF_le.1 (Int.le_refl (gF zs (edX x (edL zs))))).2 (w, x) (List.mem_filter.2 ⟨edL_mem.2 ⟨hwl, by omega, h, by rw [h5 w x hwl hx]; exact hw2⟩, by simp⟩)
  · refine gF_le.2 ⟨(gF_le.1 (Int.le_refl _)).1, fun p hp => ?_⟩
    obtain ⟨a, b⟩ := p
    obtain ⟨q1, q2⟩ := List.mem_filter.1 hp
    obtain ⟨e1, e2, e3, e4⟩ := edL_mem.1 q1
    have hbl := (edL_lt q1 (fun i hi => (h4 i hi).2.1)).2
    have q3 : a = x ∨ b = x := by simpa using q2
    show _ ≤ cyc zs a b
    rcases q3 with rfl | rfl
    · refine (gF_le.1 (Int.le_refl (gF zs (gaL zs a)))).2 (a, b) (List.mem_map.2 ⟨b, ?_, rfl⟩)
      unfold mem
      exact List.mem_filter.2 ⟨List.mem_range.2 e2, e4⟩
    · rw [cyc_symm hg e1 hbl (by omega) e4]
      have e5 : bt (el zs b) a = true := by rw [h5 b a hbl e1]; exact e4
      refine (gF_le.1 (Int.le_refl (gF zs (gaL zs b)))).2 (b, a) (List.mem_map.2 ⟨a, ?_, rfl⟩)
      unfold mem
      exact List.mem_filter.2 ⟨List.mem_range.2 (by omega), e5⟩

set_option maxHeartbeats 3200000 in
theorem girthSv_some (b off cap : Nat) (zs : List Int) (x : Nat) (w : World) (hb : b < w.heap.size) (hc : Cells w b off zs) (hg : isG zs.length zs = true) :
    Calls Tryd.prog 24 #[.agg #[.int .i64 zs.length, .slice (some ⟨b, off, none⟩) zs.length cap], .int .i64 x] w fun e w' => e = .returned (.int .i64 (oG zs (edX x (edL zs)))) ∧ Below w.heap.size w w' := by
  obtain ⟨p1, p2, -, -, -⟩ := isG_parts hg
  have hm62 : zs.length ≤ 62 := by omega
  have D0 : Below w.heap.size w (w.alloc (.cells #[.int .i64 zs.length, .slice (some ⟨b, off, none⟩) zs.length cap] 28)) := (Below.refl _ _).alloc (Nat.le_refl _) _
  have HG0 := Lib.hid (GBox.new (n := zs.length) (cap := cap) hb hc)
  have HZ := Lib.hid (isG_row_ok hg)
  have HZ2 : Hid (∀ k, k < zs.length → (el zs k).toNat < 2 ^ zs.length) := fun k hk => ((isG_iff.1 hg).2.2.2.1 k hk).2.1
  have HAW : Hid (∀ (W : World) (x y : Nat), Below w.heap.size w W → x < zs.length → y < zs.length → Calls Tryd.prog 42 #[.agg #[.int .i64 zs.length, .slice (some ⟨b, off, none⟩) zs.length cap], .int .i64 x, .int .i64 y] W fun ed w' => (∃ c : Int, ed = .returned (.tuple #[.int .i64 (arL zs x y), .int .i64 c])) ∧ Below W.heap.size W w') := fun W x y h hx hy => around_some b off cap zs x y W (Nat.lt_of_lt_of_le hb h.size) (hc.below h hb) hg hx hy
  have HFIN : Hid (oG zs (edX x (edP zs zs.length)) = oG zs (edX x (edL zs))) := rfl
  obtain ⟨GN, hGN⟩ : ∃ GN, GN = oG zs (edX x (edL zs)) := ⟨_, rfl⟩
  rw [← hGN] at HFIN ⊢
  obtain ⟨Wb, hWb⟩ : ∃ Wb, Wb = w.alloc (.cells #[.int .i64 zs.length, .slice (some ⟨b, off, none⟩) zs.length cap] 28) := ⟨_, rfl⟩
  rw [← hWb] at D0 HG0
  have sb : w.heap.size + 1 ≤ Wb.heap.size := by rw [hWb]; simp
  have HFX : Hid (∀ W, Below (w.heap.size + 1) Wb W → ∀ x : Nat, x < zs.length → W.cell? ⟨w.heap.size, 0, none⟩ = some (.int .i64 zs.length) ∧ W.cell? ⟨w.heap.size, 1, none⟩ = some (.slice (some ⟨b, off, none⟩) zs.length cap) ∧ W.cell? ⟨b, off + x, none⟩ = some (.int .i64 (el zs x))) := fun W hW x hx => by
    have hGW := HG0.out.below hW
    exact ⟨hGW.b0, hGW.b1, hGW.cells x hx⟩
  have HDB : Hid (∀ W, Below (w.heap.size + 1) Wb W → Below w.heap.size w W) := fun W hW => D0.trans (hW.mono (by omega))
  have HS0 : Hid (oG zs (edX x (edP zs 0)) = 0) := rfl
  have hp0 : 0 < zs.length := by omega
  have hxx0 : (0 : Int) ≤ x := by omega
  clear hc hg hGN HG0 D0
  go_enter Tryd.func24, Tryd.ntmps24
  go_wp2_with fail
  rw [← hWb]
  clear hWb
  go_loopw [5, 6] (fun o i wr => ∃ (k : Nat) (t : Int), k ≤ zs.length ∧ o = .int .i64 t ∧ i = .int .i64 k ∧ Hid (t = oG zs (edX x (edP zs k))) ∧ Below (w.heap.size + 1) Wb wr) (fun _ i _ => zs.length - (intOf i).toNat)
  case atStart => exact ⟨0, 0, Nat.zero_le _, rfl, rfl, HS0.out.symm, Below.refl _ _⟩
  case round =>
    clear HS0
    obtain ⟨k, t, hk, rfl, rfl, HT, hE⟩ := hrel
    obtain ⟨b0, b1, -⟩ := HFX.out _ hE 0 hp0
    by_cases hlt : (k : Int) < zs.length
    · have hkl : k < zs.length := by omega
      have hk0 : (0 : Int) ≤ k := by omega
      have HT1 : Hid (t = oG zs (edX x (edW zs k (k + 1)))) := by show _ = _; rw [edW_start]; exact HT.out
      go_wp2_with fail
      clear b0 b1 HT
      obtain ⟨wo, rfl⟩ : ∃ wo : World, wo = wr := ⟨_, rfl⟩
      go_loopw [5, 7, 8, 9] (fun o i _ _ wr => ∃ (y : Nat) (t : Int), k < y ∧ y ≤ zs.length ∧ o = .int .i64 t ∧ i = .int .i64 y ∧ Hid (t = oG zs (edX x (edW zs k y))) ∧ Below (w.heap.size + 1) Wb wr) (fun _ i _ _ _ => zs.length - (intOf i).toNat)
      case atStart => exact ⟨k + 1, t, by omega, by omega, rfl, by go_num, HT1, hE⟩
      case round =>
        clear HT1 hE
        obtain ⟨y, t, hky, hy, rfl, rfl, HT, hE⟩ := hrel
        obtain ⟨b0, b1, rk⟩ := HFX.out _ hE k hkl
        have hs := hE.size
        by_cases hly : (y : Int) < zs.length
        · have hyl : y < zs.length := by omega
          have hy0 : (0 : Int) ≤ y := by omega
          have hy62 : (y : Int) ≤ 61 := by omega
          obtain ⟨hb0, hb1⟩ := HZ.out k hkl
          have bit0 := bit_zero (el zs k) y hb0 hb1
          clear hb0 hb1
          cases hbt : bt (el zs k) y with
          | true =>
            rw [hbt] at bit0
            by_cases hix : k = x ∨ y = x
            · have HIX : ((k : Int) != (x : Int)) = false ∨ (((k : Int) != (x : Int)) = true ∧ ((y : Int) != (x : Int)) = false) := by
                by_cases h : k = x
                · exact .inl (by rw [h]; simp)
                · have h2 : y = x := hix.resolve_left h
                  exact .inr ⟨by rw [bne_iff_ne]; omega, by rw [h2]; simp⟩
              have HST := Lib.hid (oG_snoc (q := edX x (edW zs k y)) (gF_bd2 (fun p hp => edW_sub HZ2.out hkl hy p (edX_sub hp))) hm62 hkl (show k ≠ y by omega))
              rw [← edX_in hix, ← edW_yes hky hbt, ← HT.out] at HST
              have har := HAW.out wr k y (HDB.out _ hE) hkl hyl
              obtain ⟨ar, ha⟩ : ∃ ar, ar = arL zs k y := ⟨_, rfl⟩
              rw [← ha] at har HST
              clear hbt HT ha
              clear hix
              rcases HIX with hn1 | ⟨hn1, hn2⟩
              all_goals
                by_cases h1 : 0 < ar
                · have h1' : decide (ar > 0) = true := by simpa using h1
                  by_cases h2 : t = 0
                  · have h2' : (t == 0) = true := by simpa using h2
                    have HN := Lib.hid (HST.out.1 ⟨h1, .inl h2⟩)
                    clear HST h2
                    go_wp2_with (go_at_call 42; refine har.mono ?_; rintro ed w2 ⟨⟨cw, rfl⟩, hb2⟩; have hE2 := hE.trans (hb2.mono (by omega)))
                    go_roundw
                    case rel => exact ⟨y + 1, ar, by omega, by omega, rfl, by go_num, HN.out.symm, hE2⟩
                    case measure => simp [intOf]; omega
                  · have h2' : (t == 0) = false := by simpa using h2
                    by_cases h3 : ar < t
                    · have h3' : decide (ar < t) = true := by simpa using h3
                      have HN := Lib.hid (HST.out.1 ⟨h1, .inr h3⟩)
                      clear HST
                      go_wp2_with (go_at_call 42; refine har.mono ?_; rintro ed w2 ⟨⟨cw, rfl⟩, hb2⟩; have hE2 := hE.trans (hb2.mono (by omega)))
                      go_roundw
                      case rel => exact ⟨y + 1, ar, by omega, by omega, rfl, by go_num, HN.out.symm, hE2⟩
                      case measure => simp [intOf]; omega
                    · have h3' : decide (ar < t) = false := by simpa using h3
                      have HN := Lib.hid (HST.out.2 (fun h => h.2.elim h2 h3))
                      clear HST
                      go_wp2_with (go_at_call 42; refine har.mono ?_; rintro ed w2 ⟨⟨cw, rfl⟩, hb2⟩; have hE2 := hE.trans (hb2.mono (by omega)))
                      go_roundw
                      case rel => exact ⟨y + 1, t, by omega, by omega, rfl, by go_num, HN.out.symm, hE2⟩
                      case measure => simp [intOf]; omega
                · have h1' : decide (ar > 0) = false := by simpa using h1
                  have HN := Lib.hid (HST.out.2 (fun h => h1 h.1))
                  clear HST
                  go_wp2_with (go_at_call 42; refine har.mono ?_; rintro ed w2 ⟨⟨cw, rfl⟩, hb2⟩; have hE2 := hE.trans (hb2.mono (by omega)))
                  go_roundw
                  case rel => exact ⟨y + 1, t, by omega, by omega, rfl, by go_num, HN.out.symm, hE2⟩
                  case measure => simp [intOf]; omega
            · have hn1 : ((k : Int) != (x : Int)) = true := by rw [bne_iff_ne]; omega
              have hn2 : ((y : Int) != (x : Int)) = true := by rw [bne_iff_ne]; omega
              have HN : Hid (t = oG zs (edX x (edW zs k (y + 1)))) := by show _ = _; rw [edW_yes hky hbt, edX_out hix]; exact HT.out
              clear HT hbt hix
              go_wp2_with fail
              go_roundw
              case rel => exact ⟨y + 1, t, by omega, by omega, rfl, by go_num, HN, hE⟩
              case measure => simp [intOf]; omega
          | false =>
            rw [hbt] at bit0
            have HN : Hid (t = oG zs (edX x (edW zs k (y + 1)))) := by show _ = _; rw [edW_no hbt]; exact HT.out
            clear HT hbt
            go_wp2_with fail
            go_roundw
            case rel => exact ⟨y + 1, t, by omega, by omega, rfl, by go_num, HN, hE⟩
            case measure => simp [intOf]; omega
        · obtain rfl : y = zs.length := by omega
          have HT1 : Hid (t = oG zs (edX x (edP zs (k + 1)))) := by show _ = _; rw [← edW_end hm62 (HZ2.out k hkl)]; exact HT.out
          clear HT
          go_wp2_with fail
          go_roundw
          case rel => exact ⟨k + 1, t, by omega, rfl, by go_num, HT1, hE⟩
          case measure => simp [intOf]; omega
    · obtain rfl : k = zs.length := by omega
      have HR : Hid (t = GN) := HT.out.trans HFIN.out
      have hEF := HDB.out _ hE
      clear HT
      go_wp2_with fail
      go_ret
      exact ⟨ret_int HR.out, hEF⟩

end Go.Proofs.YtibpnemeehkdbaaDoor
namespace Go.Proofs.YtibpnemeehkdbaaDoor
set_option maxRecDepth 100000
open Go.RowKit

theorem sm_filter (p : Nat → Bool) : ∀ n, sm (fun i => (p i).toNat) n = ((List.range n).filter p).length
  | 0 => rfl
  | n + 1 => by
    show sm (fun i => (p i).toNat) n + (p n).toNat = _
    rw [sm_filter p n, List.range_succ, List.filter_append, List.length_append]
    cases hp : p n <;> simp [hp]
theorem pws_sum (q : Nat) : ∀ m, pws q m = sumP q m
  | 0 => rfl
  | m + 1 => by show pws q m + q ^ m = sumP q m + pw q m; rw [pws_sum q m]; rfl
theorem gB_gbN (k g : Nat) : gB k g = gbN k g := by unfold gB gbN; rw [pws_sum, pws_sum]
theorem cut_Rw (zs : List Int) (a b : Nat) : Rw zs a (2 ^ b) = cutR (fun x y => bt (el zs x) y) a b := by
  funext x y
  unfold Rw cutR
  rw [Nat.testBit_two_pow]
  congr 2
  cases h : decide (b = y) with
  | true => have : b = y := by simpa using h
            subst this; simp
  | false => have : b ≠ y := by simpa using h
             have h2 : (y == b) = false := by rw [beq_eq_false_iff_ne]; exact Ne.symm this
             rw [h2]
theorem dg_few {zs : List Int} {p n : Nat} (h : (el zs p).toNat < 2 ^ n) (hn : n ≤ 64) : dg zs p = ((List.range n).filter fun j => (el zs p).toNat.testBit j).length := by
  unfold dg
  rw [pc_few h hn]
theorem dg64 (zs : List Int) (p : Nat) : dg zs p ≤ 64 := by
  unfold dg
  exact pc_le _
theorem dg_le {zs : List Int} {p n : Nat} (h : (el zs p).toNat < 2 ^ n) (hn : n ≤ 64) : dg zs p ≤ n := by
  rw [dg_few h hn]
  have h3 := List.length_filter_le (fun j => (el zs p).toNat.testBit j) (List.range n)
  rwa [List.length_range] at h3
/-- A graph by rows that is regular, as the bound of Moore wants it. -/
theorem reg_zs {zs : List Int} (hg : isG zs.length zs = true) (hs : same zs zs.length = true) {g : Nat} (hle : (g : Int) ≤ gF zs (edL zs)) : Reg (fun x y => bt (el zs x) y) zs.length (dg zs 0) g := by
  obtain ⟨g1, g2, -, g4, g5⟩ := isG_iff.1 hg
  have h62 : zs.length ≤ 62 := by omega
  refine ⟨fun p q hp hq => g5 p q hp hq, fun p hp => (g4 p hp).2.2, fun p hp => ?_, fun a b ha hb hR m hm => ?_⟩
  · have e : dg zs p = dg zs 0 := by
      have := List.all_eq_true.1 hs p (List.mem_range.2 hp)
      simpa using this
    have h64 : zs.length ≤ 64 := by omega
    rw [← e, dg_few (g4 p hp).2.1 h64, sm_filter]
    rfl
  · have hab : a ≠ b := fun e => by subst e; rw [(g4 a ha).2.2] at hR; cases hR
    have key : (g : Int) ≤ cyc zs a b := by
      rcases Nat.lt_or_ge a b with h | h
      · exact (gF_le.1 hle).2 (a, b) (edL_mem.2 ⟨ha, by omega, h, hR⟩)
      · rw [cyc_symm hg ha hb hab hR]
        exact (gF_le.1 hle).2 (b, a) (edL_mem.2 ⟨hb, by omega, by omega, by rw [← g5 a b ha hb]; exact hR⟩)
    cases hmt : met (cutR (fun x y => bt (el zs x) y) a b) zs.length a m b with
    | false => rfl
    | true =>
      obtain ⟨d, hd, hl⟩ := met_iff.1 hmt
      rw [← cut_Rw] at hl
      have e : cyD zs a (2 ^ b) b = (d : Int) := dOf_lev ha hl
      unfold cyc at key
      rw [e, if_pos (by omega)] at key
      omega
/-- The girth bound of a regular graph, 0 where there is no cycle. -/
def exB (zs : List Int) : Nat := if goN zs = 0 then 0 else gbN (dg zs 0) (goN zs).toNat
theorem exB_le {zs : List Int} (hg : isG zs.length zs = true) (hs : same zs zs.length = true) (h2 : 2 ≤ dg zs 0) : exB zs ≤ zs.length := by
  unfold exB
  by_cases h0 : goN zs = 0
  · rw [if_pos h0]; exact Nat.zero_le _
  · rw [if_neg h0, ← gB_gbN]
    have hgb := gF_bd (fun i hi => ((isG_iff.1 hg).2.2.2.1 i hi).2.1) (List.prefix_refl (edL zs))
    have e : goN zs = gF zs (edL zs) := by unfold goN at h0 ⊢; split at h0 <;> simp_all
    have g1 := (isG_iff.1 hg).1
    exact (reg_zs hg hs (g := (goN zs).toNat) (by omega)).moore (by omega) h2 (by omega)
/-- With just so many vertices a graph is connected. -/
theorem exB_conn {zs : List Int} (hg : isG zs.length zs = true) (hs : same zs zs.length = true) (h2 : 2 ≤ dg zs 0) (hb : exB zs = zs.length) : connB zs = true := by
  have g1 := (isG_iff.1 hg).1
  unfold exB at hb
  have h0 : goN zs ≠ 0 := fun h => by rw [if_pos h] at hb; omega
  rw [if_neg h0, ← gB_gbN] at hb
  have hgb := gF_bd (fun i hi => ((isG_iff.1 hg).2.2.2.1 i hi).2.1) (List.prefix_refl (edL zs))
  have e : goN zs = gF zs (edL zs) := by unfold goN at h0 ⊢; split at h0 <;> simp_all
  unfold connB
  rw [List.all_eq_true]
  intro w hw
  have hw' := List.mem_range.1 hw
  obtain ⟨d, hd⟩ := (reg_zs hg hs (g := (goN zs).toNat) (by omega)).reach (v := 0) (by omega) h2 (by omega) (by omega) hw'
  rw [dsL_at hw']
  have hR : Rw zs 0 0 = fun x y => bt (el zs x) y := by funext p q; rw [Rw_zero]
  rw [hR, dOf_lev (by omega) hd]
  simp
/-- The excess and its code; whether a graph is a Moore graph. -/
def exOk (zs : List Int) : Bool := same zs zs.length && decide (2 ≤ dg zs 0)
def exD (n : Int) (zs : List Int) : Int := if isG n zs then (if exOk zs then n - (exB zs : Int) else 0) else 0
def exC (n : Int) (zs : List Int) : Int := if isG n zs then (if exOk zs then 0 else 5) else 1
def moD (n : Int) (zs : List Int) : Bool := isG n zs && exOk zs && decide (exB zs = zs.length)
def moC (n : Int) (zs : List Int) : Int := if isG n zs then 0 else 1
/-- What the program's bound gives. -/
theorem exB_impl {zs : List Int} (hg : isG zs.length zs = true) (hs : same zs zs.length = true) (h2 : 2 ≤ dg zs 0) : gbV (dg zs 0) (goN zs) = (exB zs : Int) := by
  have hle := exB_le hg hs h2
  obtain ⟨g1, g2, -, g4, g5⟩ := isG_iff.1 hg
  have hgb := gF_bd (fun i hi => (g4 i hi).2.1) (List.prefix_refl (edL zs))
  have h64 : zs.length ≤ 64 := by omega
  have hd := dg_le (g4 0 (by omega)).2.1 h64
  unfold exB at hle ⊢
  unfold gbV gbOk
  by_cases h0 : goN zs = 0
  · rw [if_pos h0, h0]
    simp
  · rw [if_neg h0] at hle ⊢
    have e : goN zs = gF zs (edL zs) := by unfold goN at h0 ⊢; split at h0 <;> simp_all
    have hne : gF zs (edL zs) ≠ 63 := fun e63 => by unfold goN at h0; rw [if_pos e63] at h0; exact h0 rfl
    rw [if_pos (by simp only [Bool.and_eq_true, decide_eq_true_eq]; omega), Int.toNat_natCast]
    unfold bdV
    rw [if_pos (by omega)]
end Go.Proofs.YtibpnemeehkdbaaDoor
