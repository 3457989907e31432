/-
  Rows of products: plain facts.
-/
import Derived.Test.YtklgimikdnokcaaDoorGe
import Derived.Test.YtklgimikdnokcaaDoorEd
namespace Go.Proofs.YtklgimikdnokcaaDoor
set_option maxRecDepth 100000
open Go.RowKit

/-- Whether y is one of the first t products of x with a list's elements. -/
def mulF (k p x : Nat) (js : List Int) (t y : Nat) : Bool := (List.range t).any fun i => y == gMul k p x (el js i).toNat
def quoF (k p x : Nat) (js : List Int) (t y : Nat) : Bool := (List.range t).any fun i => y == gQuo k p x (el js i).toNat
theorem mulF_succ (k p x : Nat) (js : List Int) (t : Nat) : (fun y => mulF k p x js (t + 1) y) = fun y => mulF k p x js t y || y == gMul k p x (el js t).toNat := by
  funext y; unfold mulF; rw [List.range_succ, List.any_append]; simp
theorem quoF_succ (k p x : Nat) (js : List Int) (t : Nat) : (fun y => quoF k p x js (t + 1) y) = fun y => quoF k p x js t y || y == gQuo k p x (el js t).toNat := by
  funext y; unfold quoF; rw [List.range_succ, List.any_append]; simp
/-- The row of both. -/
def proF (k p x : Nat) (js : List Int) (y : Nat) : Bool := mulF k p x js js.length y || quoF k p x js js.length y
/-- The row, behind t products, and behind all products and t quotients. -/
def rowM (k p x : Nat) (js : List Int) (t : Nat) : Int := ((bitsN (mulF k p x js t) (gOrd k p) : Nat) : Int)
def rowQ (k p x : Nat) (js : List Int) (t : Nat) : Int := ((bitsN (fun y => mulF k p x js js.length y || quoF k p x js t y) (gOrd k p) : Nat) : Int)
theorem rowM_zero (k p x : Nat) (js : List Int) : rowM k p x js 0 = 0 := by unfold rowM mulF; simp [bitsN_none]
theorem rowQ_zero (k p x : Nat) (js : List Int) : rowQ k p x js 0 = rowM k p x js js.length := by unfold rowQ rowM quoF; simp
theorem rowQ_all (k p x : Nat) (js : List Int) : rowQ k p x js js.length = ((bitsN (proF k p x js) (gOrd k p) : Nat) : Int) := rfl
theorem rowM_succ {k p x : Nat} {js : List Int} {t : Nat} (h : gOk k p = true) : por (rowM k p x js t) (gMul k p x (el js t).toNat) = rowM k p x js (t + 1) := by
  unfold rowM
  rw [por_bitsN _ _ _ (gMul_lt h), show mulF k p x js (t + 1) = fun y => mulF k p x js (t + 1) y from rfl, mulF_succ]
theorem gQuo_lt {k p x y : Nat} (h : gOk k p = true) (hx : x < gOrd k p) : gQuo k p x y < gOrd k p := by
  have hp := (gOk_pos h).1
  match k, h, hx with
  | 0, _, _ => simp only [gQuo, gOrd]; exact Nat.mod_lt _ (by omega)
  | 1, h, _ => simp only [gQuo]; exact gMul_lt h
  | 2, h, hx =>
    have u1 := aff_div h hx
    have h0 : 2 ≤ p := by simp [gOk] at h; omega
    obtain ⟨E, hE⟩ : ∃ E, E = gE p (y / p + 1) (x / p + 1) p 1 := ⟨_, rfl⟩
    simp only [gQuo, gOrd]
    rw [← hE]
    have h1 := Nat.mod_lt E (show p > 0 by omega)
    have h2 := Nat.mod_lt (x % p + (p - E) * (y % p)) (show p > 0 by omega)
    have h3 : (E % p - 1) * p ≤ (p - 2) * p := Nat.mul_le_mul_right p (by omega)
    have h4 : p * (p - 1) = (p - 2) * p + p := by
      obtain ⟨q, rfl⟩ : ∃ q, p = q + 2 := ⟨p - 2, by omega⟩
      simp only [Nat.add_sub_cancel]
      rw [show q + 2 - 1 = q + 1 by omega, Nat.mul_comm q]
      rfl
    omega
  | k + 3, h, _ => simp [gOk] at h
theorem rowQ_succ {k p x : Nat} {js : List Int} {t : Nat} (h : gOk k p = true) (hx : x < gOrd k p) : por (rowQ k p x js t) (gQuo k p x (el js t).toNat) = rowQ k p x js (t + 1) := by
  unfold rowQ
  rw [por_bitsN _ _ _ (gQuo_lt h hx)]
  congr 2
  have := quoF_succ k p x js t
  funext y
  rw [show quoF k p x js (t + 1) y = (quoF k p x js t y || y == gQuo k p x (el js t).toNat) from congrFun this y, Bool.or_assoc]
theorem row_bd (f : Nat → Bool) (n : Nat) (hn : n ≤ 62) : (0 : Int) ≤ ((bitsN f n : Nat) : Int) ∧ ((bitsN f n : Nat) : Int) ≤ 9223372036854775807 := by
  have h1 := bitsN_lt f n
  have h2 : 2 ^ n ≤ 2 ^ 62 := Nat.pow_le_pow_right (by decide) hn
  omega
theorem rowM_bd {k p x : Nat} {js : List Int} {t : Nat} (h : gOk k p = true) : 0 ≤ rowM k p x js t ∧ rowM k p x js t ≤ 9223372036854775807 := row_bd _ _ (gOrd_le h)
theorem rowQ_bd {k p x : Nat} {js : List Int} {t : Nat} (h : gOk k p = true) : 0 ≤ rowQ k p x js t ∧ rowQ k p x js t ≤ 9223372036854775807 := row_bd _ _ (gOrd_le h)
theorem rowM_or {k p x : Nat} {js : List Int} {t : Nat} (h : gOk k p = true) : bits .or .i64 (rowM k p x js t) (2 ^ gMul k p x (el js t).toNat) = rowM k p x js (t + 1) := by
  have hb := rowM_bd (k := k) (p := p) (x := x) (js := js) (t := t) h
  have hm := gMul_lt (k := k) (p := p) (x := x) (y := (el js t).toNat) h
  have ho := gOrd_le h
  rw [por_or _ _ hb.1 hb.2 (by omega), rowM_succ h]
theorem rowQ_or {k p x : Nat} {js : List Int} {t : Nat} (h : gOk k p = true) (hx : x < gOrd k p) : bits .or .i64 (rowQ k p x js t) (2 ^ gQuo k p x (el js t).toNat) = rowQ k p x js (t + 1) := by
  have hb := rowQ_bd (k := k) (p := p) (x := x) (js := js) (t := t) h
  have hm := gQuo_lt (k := k) (p := p) (x := x) (y := (el js t).toNat) h hx
  have ho := gOrd_le h
  rw [por_or _ _ hb.1 hb.2 (by omega), rowQ_succ h hx]

/-- The edges of a circulant graph: those of the first t jumps of vertex i; those of the first i vertices. -/
def cirR (n : Nat) (js : List Int) (i : Nat) : Nat → List (Nat × Nat)
  | 0 => []
  | t + 1 => cirR n js i t ++ [(i, (i + (el js t).toNat) % n)]
def cirS (n : Nat) (js : List Int) : Nat → List (Nat × Nat)
  | 0 => []
  | i + 1 => cirS n js i ++ cirR n js i js.length
theorem cirR_any (n : Nat) (js : List Int) (i : Nat) (f : Nat × Nat → Bool) : ∀ t, (cirR n js i t).any f = (List.range t).any fun s => f (i, (i + (el js s).toNat) % n)
  | 0 => rfl
  | t + 1 => by rw [cirR, List.any_append, cirR_any n js i f t, List.range_succ, List.any_append]; simp
theorem cirS_any (n : Nat) (js : List Int) (f : Nat × Nat → Bool) : ∀ m, (cirS n js m).any f = (List.range m).any fun i => (List.range js.length).any fun s => f (i, (i + (el js s).toNat) % n)
  | 0 => rfl
  | m + 1 => by rw [cirS, List.any_append, cirS_any n js f m, cirR_any, List.range_succ, List.any_append]; simp

theorem mod_back {n x y j : Nat} (hx : x < n) (hy : y < n) (hj : j < n) : x = (y + j) % n ↔ y = (x + n - j) % n := by
  by_cases h1 : y + j < n
  · rw [Nat.mod_eq_of_lt h1]
    by_cases h2 : x + n - j < n
    · rw [Nat.mod_eq_of_lt h2]; omega
    · rw [Nat.mod_eq_sub_mod (by omega), Nat.mod_eq_of_lt (by omega)]; omega
  · rw [Nat.mod_eq_sub_mod (by omega), Nat.mod_eq_of_lt (by omega)]
    by_cases h2 : x + n - j < n
    · rw [Nat.mod_eq_of_lt h2]; omega
    · rw [Nat.mod_eq_sub_mod (by omega), Nat.mod_eq_of_lt (by omega)]; omega

/-- Both programs' circulant graphs are the same. -/
theorem cir_rows (n : Nat) (js : List Int) (hj : elOk n js js.length = true) : rowsF n (adjS (cirS n js n)) = rowsF n (proF 0 n · js) := by
  apply rowsF_congr
  intro v w hv hw
  unfold adjS proF mulF quoF
  rw [cirS_any, Bool.eq_iff_iff]
  simp only [List.any_eq_true, List.mem_range, Bool.or_eq_true, Bool.and_eq_true, beq_iff_eq, gMul, gQuo]
  constructor
  · rintro ⟨i, hi, s, hs, ⟨rfl, rfl⟩ | ⟨h1, rfl⟩⟩
    · exact .inl ⟨s, hs, rfl⟩
    · have := elOk_at hj hs
      exact .inr ⟨s, hs, (mod_back hv hw (by omega)).1 h1⟩
  · rintro (⟨s, hs, h⟩ | ⟨s, hs, h⟩)
    · exact ⟨v, hv, s, hs, .inl ⟨rfl, h⟩⟩
    · have := elOk_at hj hs
      exact ⟨w, hw, s, hs, .inr ⟨(mod_back hv hw (by omega)).2 h, rfl⟩⟩
end Go.Proofs.YtklgimikdnokcaaDoor
