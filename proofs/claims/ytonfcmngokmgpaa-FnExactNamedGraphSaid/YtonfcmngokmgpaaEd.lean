/-
  Plain facts on rows of digits that a list of edges makes; nothing of the program.
-/
import Derived.Test.YtonfcmngokmgpaaMath
namespace Go.Proofs.Ytonfcmngokmgpaa
set_option maxRecDepth 100000
open Go.RowKit

/-- The row with the digits that f tells, below k. -/
def bitsN (f : Nat → Bool) : Nat → Nat
  | 0 => 0
  | k + 1 => bitsN f k ||| (if f k then 2 ^ k else 0)
theorem bitsN_testBit (f : Nat → Bool) (i : Nat) : ∀ n, (bitsN f n).testBit i = (decide (i < n) && f i)
  | 0 => by simp [bitsN]
  | k + 1 => by
    rw [bitsN, Nat.testBit_or, bitsN_testBit f i k]
    by_cases h : f k = true
    · rw [if_pos h, Nat.testBit_two_pow]
      by_cases e : k = i
      · subst e; simp [h]
      · have : (i < k + 1) = (i < k) := by rw [eq_iff_iff]; omega
        simp [e, this]
    · rw [if_neg h]
      by_cases e : k = i
      · subst e; simp [h]
      · have : (i < k + 1) = (i < k) := by rw [eq_iff_iff]; omega
        simp [this]
theorem bitsN_lt (f : Nat → Bool) : ∀ n, bitsN f n < 2 ^ n
  | 0 => by simp [bitsN]
  | k + 1 => by
    rw [bitsN]
    have h := bitsN_lt f k
    have hp : 2 ^ k < 2 ^ (k + 1) := Nat.pow_lt_pow_right (by decide) (Nat.lt_succ_self k)
    refine Nat.or_lt_two_pow (Nat.lt_trans h hp) ?_
    split
    · exact hp
    · exact Nat.two_pow_pos _
theorem bitsN_none (n : Nat) : bitsN (fun _ => false) n = 0 := by
  apply Nat.eq_of_testBit_eq; intro i; rw [bitsN_testBit]; simp

/-- The rows of n vertices that f tells. -/
def rowsF (n : Nat) (f : Nat → Nat → Bool) : List Int := (List.range n).map fun v => ((bitsN (f v) n : Nat) : Int)
theorem rowsF_length (n : Nat) (f : Nat → Nat → Bool) : (rowsF n f).length = n := by simp [rowsF]
theorem el_rowsF (n : Nat) (f : Nat → Nat → Bool) (v : Nat) (h : v < n) : el (rowsF n f) v = ((bitsN (f v) n : Nat) : Int) := by simp [el, rowsF, h]
theorem rowsF_none (n : Nat) : rowsF n (fun _ _ => false) = List.replicate n 0 := by
  unfold rowsF
  rw [List.eq_replicate_iff]
  refine ⟨by simp, fun x hx => ?_⟩
  obtain ⟨v, _, rfl⟩ := List.mem_map.1 hx
  rw [bitsN_none]; rfl
theorem rowsF_bd (n : Nat) (f : Nat → Nat → Bool) (i : Nat) (h : i < n) : 0 ≤ el (rowsF n f) i ∧ el (rowsF n f) i ≤ 2 ^ n - 1 := by
  rw [el_rowsF n f i h]
  have := bitsN_lt (f i) n
  have e : ((2 : Int) ^ n) = ((2 ^ n : Nat) : Int) := by simp
  rw [e]; omega
theorem rowsF_congr {n : Nat} {f g : Nat → Nat → Bool} (h : ∀ v w, v < n → w < n → f v w = g v w) : rowsF n f = rowsF n g := by
  unfold rowsF
  apply List.map_congr_left
  intro v hv
  have hv' : v < n := List.mem_range.1 hv
  congr 1
  apply Nat.eq_of_testBit_eq; intro i
  rw [bitsN_testBit, bitsN_testBit]
  by_cases hi : i < n
  · rw [h v i hv' hi]
  · simp [hi]

/-- The row z with the digit at b. -/
def por (z : Int) (b : Nat) : Int := ((z.toNat ||| 2 ^ b : Nat) : Int)
theorem por_or (z : Int) (b : Nat) (h0 : 0 ≤ z) (h1 : z ≤ 9223372036854775807) (hb : b < 62) : bits .or .i64 z (2 ^ b) = por z b := by
  obtain ⟨k, rfl⟩ := Int.eq_ofNat_of_zero_le h0
  have hp : 2 ^ b < 2 ^ 63 := Nat.pow_lt_pow_right (by decide) (by omega)
  rw [show ((2 : Int) ^ b) = ((2 ^ b : Nat) : Int) by simp, or_i64 _ _ (by omega) hp]
  unfold por; rw [Int.toNat_natCast]
theorem por_ok (z : Int) (b m : Nat) (h1 : z ≤ 2 ^ m - 1) (hb : b < m) : 0 ≤ por z b ∧ por z b ≤ 2 ^ m - 1 := by
  have e : ((2 : Int) ^ m) = ((2 ^ m : Nat) : Int) := by simp
  have hp := Nat.two_pow_pos m
  have h := Nat.or_lt_two_pow (x := z.toNat) (y := 2 ^ b) (n := m) (by rw [e] at h1; omega) (Nat.pow_lt_pow_right (by decide) hb)
  unfold por
  rw [e]
  omega
theorem por_bitsN (f : Nat → Bool) (n b : Nat) (hb : b < n) : por ((bitsN f n : Nat) : Int) b = ((bitsN (fun w => f w || w == b) n : Nat) : Int) := by
  unfold por
  rw [Int.toNat_natCast]
  congr 1
  apply Nat.eq_of_testBit_eq; intro i
  rw [Nat.testBit_or, bitsN_testBit, bitsN_testBit, Nat.testBit_two_pow]
  by_cases e : b = i
  · subst e; simp [hb]
  · have : (i == b) = false := by simp; omega
    simp [e, this]
theorem el_set_same (L : List Int) (a : Nat) (z : Int) (h : a < L.length) : el (L.set a z) a = z := by simp [el, h]
theorem el_set_ne (L : List Int) (a b : Nat) (z : Int) (h : a ≠ b) : el (L.set a z) b = el L b := by
  unfold el; rw [List.getD_eq_getElem?_getD, List.getD_eq_getElem?_getD, List.getElem?_set_ne h]
theorem list_ext_el {xs ys : List Int} (hl : xs.length = ys.length) (h : ∀ i, i < xs.length → el xs i = el ys i) : xs = ys := by
  apply List.ext_getElem hl
  intro i h1 h2
  have := h i h1
  unfold el at this
  simpa [h1, h2] using this

/-- A digit put at b of row a, one at a of row b. -/
def put1 (L : List Int) (a b : Nat) : List Int := L.set a (por (el L a) b)
def putL (L : List Int) (a b : Nat) : List Int := put1 (put1 L a b) b a
theorem put1_length (L : List Int) (a b : Nat) : (put1 L a b).length = L.length := by simp [put1]
theorem putL_length (L : List Int) (a b : Nat) : (putL L a b).length = L.length := by simp [putL, put1]
/-- One more edge. -/
def half (f : Nat → Nat → Bool) (a b : Nat) : Nat → Nat → Bool := fun v w => f v w || (v == a && w == b)
def addF (f : Nat → Nat → Bool) (a b : Nat) : Nat → Nat → Bool := half (half f a b) b a
theorem put1_rows (n : Nat) (f : Nat → Nat → Bool) (a b : Nat) (hb : b < n) : put1 (rowsF n f) a b = rowsF n (half f a b) := by
  apply list_ext_el
  · rw [put1_length, rowsF_length, rowsF_length]
  · intro i hi
    rw [put1_length, rowsF_length] at hi
    unfold put1
    by_cases e : a = i
    · subst e
      rw [el_set_same _ _ _ (by rw [rowsF_length]; exact hi), el_rowsF n _ a hi, el_rowsF n _ a hi, por_bitsN _ _ _ hb]
      congr 2
      funext w
      unfold half; simp
    · rw [el_set_ne _ _ _ _ e, el_rowsF n _ i hi, el_rowsF n _ i hi]
      congr 2
      funext w
      unfold half
      have : (i == a) = false := by simp; omega
      simp [this]
theorem putL_rows (n : Nat) (f : Nat → Nat → Bool) (a b : Nat) (ha : a < n) (hb : b < n) : putL (rowsF n f) a b = rowsF n (addF f a b) := by
  unfold putL addF
  rw [put1_rows n f a b hb, put1_rows n _ b a ha]

/-- Whether a list of edges joins two vertices. -/
def adjS (S : List (Nat × Nat)) (v w : Nat) : Bool := S.any fun p => (v == p.1 && w == p.2) || (v == p.2 && w == p.1)
theorem adjS_nil : adjS [] = fun _ _ => false := rfl
theorem adjS_snoc (S : List (Nat × Nat)) (a b : Nat) : adjS (S ++ [(a, b)]) = addF (adjS S) a b := by
  funext v w
  unfold adjS addF half
  rw [List.any_append]
  simp [Bool.or_assoc]
theorem adjS_symm (S : List (Nat × Nat)) (v w : Nat) : adjS S v w = adjS S w v := by
  unfold adjS
  congr 1
  funext p
  rw [Bool.or_comm, Bool.and_comm, Bool.and_comm (v == p.1)]
theorem rows_snoc (n : Nat) (S : List (Nat × Nat)) (a b : Nat) (ha : a < n) (hb : b < n) : putL (rowsF n (adjS S)) a b = rowsF n (adjS (S ++ [(a, b)])) := by
  rw [putL_rows n _ a b ha hb, adjS_snoc]

end Go.Proofs.Ytonfcmngokmgpaa
