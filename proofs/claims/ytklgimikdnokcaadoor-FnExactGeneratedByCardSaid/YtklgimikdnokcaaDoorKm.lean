/-
  Closed sets: plain facts.
-/
import Derived.Test.YtklgimikdnokcaaDoorCm
namespace Go.Proofs.YtklgimikdnokcaaDoor
set_option maxRecDepth 100000
open Go.RowKit

/-- The digits of a that b has not. -/
def anot (a b : Nat) : Nat := a ^^^ (a &&& b)
theorem anot_bit (a b i : Nat) : (anot a b).testBit i = (a.testBit i && !b.testBit i) := by
  unfold anot
  rw [Nat.testBit_xor, Nat.testBit_and]
  cases a.testBit i <;> cases b.testBit i <;> rfl
theorem anot_lt {a b m : Nat} (h : a < 2 ^ m) : anot a b < 2 ^ m := by
  apply Nat.lt_pow_two_of_testBit
  intro i hi
  rw [anot_bit, Nat.testBit_lt_two_pow (Nat.lt_of_lt_of_le h (Nat.pow_le_pow_right (by decide) hi))]
  rfl
theorem andNot_nat (a b : Nat) (ha : a < 2 ^ 63) : bits .andNot .i64 (a : Int) (b : Int) = ((anot a b : Nat) : Int) := by
  have e1 : BitVec.ofInt 64 (a : Int) = BitVec.ofNat 64 a := by simp
  have e2 : BitVec.ofInt 64 (b : Int) = BitVec.ofNat 64 b := by simp
  show IntKind.i64.wrap ((BitVec.ofInt 64 (a : Int) &&& ~~~BitVec.ofInt 64 (b : Int)).toNat : Int) = _
  rw [e1, e2]
  have hlt : anot a b < 2 ^ 63 := anot_lt ha
  have h : (BitVec.ofNat 64 a &&& ~~~BitVec.ofNat 64 b) = BitVec.ofNat 64 (anot a b) := by
    apply BitVec.eq_of_getLsbD_eq
    intro i hi
    simp only [BitVec.getLsbD_and, BitVec.getLsbD_not, BitVec.getLsbD_ofNat, anot_bit, hi, decide_true, Bool.true_and]
  rw [h, BitVec.toNat_ofNat, Nat.mod_eq_of_lt (by omega), wrap_i64_nat _ (by omega) (by omega)]

theorem unit_all : allE (fun k p x => gMul k p 0 x == x) = true := by kernel_rfl
theorem gMul_unit {k p x : Nat} (h : gOk k p = true) (hx : x < gOrd k p) : gMul k p 0 x = x := by
  simpa using allE_at unit_all h hx

/-- Whether y is one of the first t elements or an inverse of one. -/
def metF (k p : Nat) (js : List Int) (t y : Nat) : Bool := (List.range t).any fun i => y == (el js i).toNat || y == gQuo k p 0 (el js i).toNat
theorem metF_succ (k p : Nat) (js : List Int) (t : Nat) : (fun y => metF k p js (t + 1) y) = fun y => (metF k p js t y || y == (el js t).toNat) || y == gQuo k p 0 (el js t).toNat := by
  funext y; unfold metF; rw [List.range_succ, List.any_append]; simp [Bool.or_assoc]
/-- Whether y is in the connection set. -/
def clF (k p : Nat) (js : List Int) (y : Nat) : Bool := decide (y ≠ 0) && metF k p js js.length y
/-- The connection set. -/
def clE (k p : Nat) (js : List Int) : List Int := ((List.range (gOrd k p)).filter (clF k p js)).map fun y : Nat => (y : Int)
theorem proF_met {k p : Nat} {js : List Int} (h : gOk k p = true) (hj : elOk (gOrd k p) js js.length = true) (y : Nat) : proF k p 0 js y = metF k p js js.length y := by
  unfold proF mulF quoF metF
  rw [Bool.eq_iff_iff]
  simp only [Bool.or_eq_true, List.any_eq_true, List.mem_range, beq_iff_eq]
  constructor
  · rintro (⟨i, hi, e⟩ | ⟨i, hi, e⟩)
    · have := elOk_at hj hi
      rw [gMul_unit h (by omega)] at e
      exact ⟨i, hi, .inl e⟩
    · exact ⟨i, hi, .inr e⟩
  · rintro ⟨i, hi, e | e⟩
    · have := elOk_at hj hi
      exact .inl ⟨i, hi, by rw [gMul_unit h (by omega)]; exact e⟩
    · exact .inr ⟨i, hi, e⟩
theorem bitsN_not0 (f : Nat → Bool) (n : Nat) : anot (bitsN f n) 1 = bitsN (fun y => decide (y ≠ 0) && f y) n := by
  apply Nat.eq_of_testBit_eq; intro i
  rw [anot_bit, bitsN_testBit, bitsN_testBit, show (1 : Nat) = 2 ^ 0 from rfl, Nat.testBit_two_pow]
  by_cases h : i = 0
  · subst h; simp
  · have : (0 = i) = False := by simp; omega
    simp [h, this]
theorem clRow {k p : Nat} {js : List Int} (h : gOk k p = true) (hj : elOk (gOrd k p) js js.length = true) : bits .andNot .i64 ((bitsN (proF k p 0 js) (gOrd k p) : Nat) : Int) 1 = ((bitsN (clF k p js) (gOrd k p) : Nat) : Int) := by
  have hb := row_bd (proF k p 0 js) (gOrd k p) (gOrd_le h)
  rw [show (1 : Int) = ((1 : Nat) : Int) from rfl, andNot_nat _ _ (by omega), bitsN_not0]
  congr 2
  funext y
  unfold clF
  rw [proF_met h hj]
end Go.Proofs.YtklgimikdnokcaaDoor
