/-
  Edges exchanged: plain facts.
-/
import Derived.Test.YtabkfihhfkmioaaDoorMj7
import Derived.Test.YtabkfihhfkmioaaDoorCk2
import Derived.Test.YtabkfihhfkmioaaDoorEx9
namespace Go.Proofs.YtabkfihhfkmioaaDoor
set_option maxRecDepth 100000
open Go.RowKit

theorem bt_flipL {zs : List Int} {a b x y : Nat} (ha : a < zs.length) (hb : b < zs.length) (hx : x < zs.length) (hab : a ≠ b) :
    bt (el (flipL zs a b) x) y = (bt (el zs x) y ^^ (decide (x = a ∧ y = b) || decide (x = b ∧ y = a))) := by
  rw [el_flip ha hb hx]
  by_cases h1 : x = b
  · subst h1
    rw [if_pos rfl, bt_flip]
    congr 1
    have : ¬ x = a := fun e => hab e.symm
    simp [this, eq_comm]
  · rw [if_neg h1]
    by_cases h2 : x = a
    · subst h2
      rw [if_pos rfl, bt_flip]
      congr 1
      simp [h1, eq_comm]
    · rw [if_neg h2]
      simp [h1, h2]

/-- The graph with the first i of the four pairs turned. -/
def exZ (zs : List Int) (a b c d : Nat) : Nat → List Int
  | 0 => zs
  | 1 => flipL zs a b
  | 2 => flipL (flipL zs a b) c d
  | 3 => flipL (flipL (flipL zs a b) c d) a c
  | _ => flipL (flipL (flipL (flipL zs a b) c d) a c) b d
theorem exZ_length (zs : List Int) (a b c d : Nat) : ∀ i, (exZ zs a b c d i).length = zs.length
  | 0 => rfl
  | 1 => flipL_length _ _ _
  | 2 => by rw [exZ, flipL_length, flipL_length]
  | 3 => by rw [exZ, flipL_length, flipL_length, flipL_length]
  | _ + 4 => by
    show (flipL (flipL (flipL (flipL zs a b) c d) a c) b d).length = _
    rw [flipL_length, flipL_length, flipL_length, flipL_length]

/-- Four vertices, all different. -/
structure Four (m a b c d : Nat) : Prop where
  ha : a < m
  hb : b < m
  hc : c < m
  hd : d < m
  ab : a ≠ b
  ac : a ≠ c
  ad : a ≠ d
  bc : b ≠ c
  bd : b ≠ d
  cd : c ≠ d
theorem exZ_g {n : Int} {zs : List Int} {a b c d : Nat} (hg : isG n zs = true) (h : Four zs.length a b c d) : ∀ i, isG n (exZ zs a b c d i) = true
  | 0 => hg
  | 1 => isG_flip hg h.ha h.hb h.ab
  | 2 => isG_flip (exZ_g hg h 1) (by rw [flipL_length]; exact h.hc) (by rw [flipL_length]; exact h.hd) h.cd
  | 3 => isG_flip (exZ_g hg h 2) (by rw [flipL_length, flipL_length]; exact h.ha) (by rw [flipL_length, flipL_length]; exact h.hc) h.ac
  | _ + 4 => isG_flip (exZ_g hg h 3) (by rw [flipL_length, flipL_length, flipL_length]; exact h.hb) (by rw [flipL_length, flipL_length, flipL_length]; exact h.hd) h.bd
theorem exZ_bit1 {zs : List Int} {a b c d : Nat} (h : Four zs.length a b c d) : bt (el (exZ zs a b c d 1) c) d = bt (el zs c) d := by
  rw [exZ, bt_flipL h.ha h.hb h.hc h.ab]
  simp [h.ac.symm, h.bc.symm]
theorem exZ_bit2 {zs : List Int} {a b c d : Nat} (h : Four zs.length a b c d) : bt (el (exZ zs a b c d 2) a) c = bt (el zs a) c := by
  rw [exZ, bt_flipL (by rw [flipL_length]; exact h.hc) (by rw [flipL_length]; exact h.hd) (by rw [flipL_length]; exact h.ha) h.cd, bt_flipL h.ha h.hb h.ha h.ab]
  simp [h.ac, h.ad, h.bc.symm, h.ab, h.ac.symm]
theorem exZ_bit3 {zs : List Int} {a b c d : Nat} (h : Four zs.length a b c d) : bt (el (exZ zs a b c d 3) b) d = bt (el zs b) d := by
  rw [exZ, bt_flipL (by rw [flipL_length, flipL_length]; exact h.ha) (by rw [flipL_length, flipL_length]; exact h.hc) (by rw [flipL_length, flipL_length]; exact h.hb) h.ac, bt_flipL (by rw [flipL_length]; exact h.hc) (by rw [flipL_length]; exact h.hd) (by rw [flipL_length]; exact h.hb) h.cd, bt_flipL h.ha h.hb h.hb h.ab]
  simp [h.ab.symm, h.bc, h.bd, h.ad.symm]

theorem pcF_or : ∀ (f x k : Nat), k < f → pcF f (x ||| 2 ^ k) = pcF f x + if x.testBit k then 0 else 1
  | 0, _, _, h => absurd h (by omega)
  | f + 1, x, 0, _ => by
    have d1 : (x ||| 2 ^ 0) / 2 = x / 2 := by have := @Nat.or_div_two_pow x 1 1; simpa using this
    have m1 : (x ||| 2 ^ 0) % 2 = (x % 2) ||| 1 := by have := @Nat.or_mod_two_pow x 1 1; simpa using this
    rw [pcF, pcF, d1, m1, Nat.testBit_zero]
    rcases Nat.mod_two_eq_zero_or_one x with h | h <;> rw [h] <;> simp <;> omega
  | f + 1, x, k + 1, h => by
    have e2 : 2 ^ (k + 1) / 2 = 2 ^ k := by rw [Nat.pow_succ]; omega
    have e3 : 2 ^ (k + 1) % 2 = 0 := by rw [Nat.pow_succ]; omega
    have d1 : (x ||| 2 ^ (k + 1)) / 2 = x / 2 ||| 2 ^ k := by
      have := @Nat.or_div_two_pow x (2 ^ (k + 1)) 1
      rw [Nat.pow_one, e2] at this
      exact this
    have m1 : (x ||| 2 ^ (k + 1)) % 2 = x % 2 := by
      have := @Nat.or_mod_two_pow x (2 ^ (k + 1)) 1
      rw [Nat.pow_one, e3, Nat.or_zero] at this
      exact this
    rw [pcF, pcF, d1, m1, pcF_or f (x / 2) k (by omega), Nat.testBit_succ, Nat.add_assoc]
theorem cnt4_eq {a b c d : Nat} (ha : a < 62) (hb : b < 62) (hc : c < 62) (hd : d < 62) :
    pc (2 ^ a ||| 2 ^ b ||| 2 ^ c ||| 2 ^ d) = ((1 + if a = b then 0 else 1) + if a = c ∨ b = c then 0 else 1) + if (a = d ∨ b = d) ∨ c = d then 0 else 1 := by
  have h1 : pcF 64 (2 ^ a) = 1 := by
    have := pcF_or 64 0 a (by omega)
    rw [Nat.zero_or, pcF_zero, Nat.zero_testBit] at this
    simpa using this
  unfold pc
  rw [pcF_or 64 _ d (by omega), pcF_or 64 _ c (by omega), pcF_or 64 _ b (by omega), h1]
  simp only [Nat.testBit_or, Nat.testBit_two_pow, Bool.or_eq_true, decide_eq_true_eq]
theorem cnt4_yes {m a b c d : Nat} (hm : m ≤ 62) (h : Four m a b c d) : pc (2 ^ a ||| 2 ^ b ||| 2 ^ c ||| 2 ^ d) = 4 := by
  have h1 := h.ha; have h2 := h.hb; have h3 := h.hc; have h4 := h.hd
  rw [cnt4_eq (by omega) (by omega) (by omega) (by omega)]
  simp [h.ab, h.ac, h.ad, h.bc, h.bd, h.cd]
theorem cnt4_no {a b c d : Nat} (ha : a < 62) (hb : b < 62) (hc : c < 62) (hd : d < 62) (h : a = b ∨ a = c ∨ a = d ∨ b = c ∨ b = d ∨ c = d) : pc (2 ^ a ||| 2 ^ b ||| 2 ^ c ||| 2 ^ d) ≠ 4 := by
  rw [cnt4_eq ha hb hc hd]
  split <;> split <;> split <;> omega
theorem or_pows {x b : Nat} (hx : x < 2 ^ 62) (hb : b < 62) : bits .or .i64 (x : Int) (2 ^ b) = ((x ||| 2 ^ b : Nat) : Int) ∧ x ||| 2 ^ b < 2 ^ 62 := by
  have hp : 2 ^ b < 2 ^ 62 := Nat.pow_lt_pow_right (by decide) hb
  rw [show ((2 : Int) ^ b) = ((2 ^ b : Nat) : Int) by simp]
  exact ⟨or_i64 _ _ (by omega) (by omega), Nat.or_lt_two_pow hx hp⟩

theorem vs4_parts {n a b c d : Int} (h : vsOk n [a, b, c, d] 4 = true) : (0 ≤ a ∧ a ≤ n - 1) ∧ (0 ≤ b ∧ b ≤ n - 1) ∧ (0 ≤ c ∧ c ≤ n - 1) ∧ (0 ≤ d ∧ d ≤ n - 1) := by
  unfold vsOk at h
  rw [List.all_eq_true] at h
  have h0 := h 0 (by simp)
  have h1 := h 1 (by simp)
  have h2 := h 2 (by simp)
  have h3 := h 3 (by simp)
  simp [el] at h0 h1 h2 h3
  exact ⟨h0, h1, h2, h3⟩
theorem cells4 {W : World} {k : Nat} {a b c d : Int} {t : TypeId} (h : W.heap[k]? = some (.cells #[.int .i64 a, .int .i64 b, .int .i64 c, .int .i64 d] t (0, 0))) : Cells W k 0 [a, b, c, d] := by
  intro i hi
  have hi4 : i < 4 := by simpa using hi
  rw [Nat.zero_add, cell_of_row W k i _ _ _ h]
  rcases (by omega : i = 0 ∨ i = 1 ∨ i = 2 ∨ i = 3) with rfl | rfl | rfl | rfl <;> rfl

def exDf (a b c d : Int) : Bool := decide (a ≠ b ∧ a ≠ c ∧ a ≠ d ∧ b ≠ c ∧ b ≠ d ∧ c ≠ d)
def exSt (zs : List Int) (a b c d : Int) : Bool := bt (el zs a.toNat) b.toNat && bt (el zs c.toNat) d.toNat && !bt (el zs a.toNat) c.toNat && !bt (el zs b.toNat) d.toNat
def exOk (n : Int) (zs : List Int) (a b c d : Int) : Bool := isG n zs && vsOk n [a, b, c, d] 4 && exDf a b c d && exSt zs a b c d
def exN (n : Int) (zs : List Int) (a b c d : Int) : Int := if exOk n zs a b c d then n else 0
def exD (n : Int) (zs : List Int) (a b c d : Int) : List Int := if exOk n zs a b c d then exZ zs a.toNat b.toNat c.toNat d.toNat 4 else []
def exC (n : Int) (zs : List Int) (a b c d : Int) : Int := if isG n zs then (if vsOk n [a, b, c, d] 4 then (if exDf a b c d then (if exSt zs a b c d then 0 else 5) else 2) else 2) else 1
theorem exD_length (n : Int) (zs : List Int) (a b c d : Int) : (exD n zs a b c d).length ≤ 62 := by
  unfold exD
  split
  · rename_i h
    have hg : isG n zs = true := by unfold exOk at h; simp only [Bool.and_eq_true] at h; exact h.1.1.1
    obtain ⟨h1, h2, h3, -⟩ := isG_parts hg
    rw [exZ_length]; omega
  · simp
end Go.Proofs.YtabkfihhfkmioaaDoor
