/-
  The walk girth: plain facts. (A plain seat of bases.)
-/
import Derived.Test.YthonkphjahomeaaYa
import Derived.Test.YthonkphjahomeaaBb
namespace Go.Proofs.Ythonkphjahomeaa
set_option maxRecDepth 100000
open Go.RowKit

/-- The step the other way around. -/
def flp (s : Nat) : Nat := if s % 2 = 0 then s + 1 else s - 1
theorem flp_flp (s : Nat) : flp (flp s) = s := by unfold flp; split <;> split <;> omega
theorem flp_ne (s t : Nat) : s ≠ flp t ↔ t ≠ flp s := by
  constructor <;> intro h e <;> apply h <;> rw [e, flp_flp]
theorem flp_int (s : Nat) : (s : Int) + 1 - 2 * ((s % 2 : Nat) : Int) = ((flp s : Nat) : Int) := by
  unfold flp
  split <;> omega
theorem xor_one : ∀ t, t < 32 → bits BinOp.xor IntKind.i64 ((t : Nat) : Int) 1 = ((flp t : Nat) : Int) := by decide +kernel

/-- A row of rests by m, each with c added to it. -/
def rotN (m x c : Nat) : Nat := ((x * 2 ^ c) ||| (x / 2 ^ (m - c))) % 2 ^ m
theorem ofInt_wrap (z : Int) : BitVec.ofInt 64 (IntKind.i64.wrap z) = BitVec.ofInt 64 z := by
  apply BitVec.eq_of_toNat_eq
  rw [BitVec.toNat_ofInt, BitVec.toNat_ofInt]
  congr 1
  rw [IntKind.wrap_i64]
  omega
theorem ofInt_nat (n : Nat) : BitVec.ofInt 64 (n : Int) = BitVec.ofNat 64 n := by
  apply BitVec.eq_of_toNat_eq
  rw [BitVec.toNat_ofInt, BitVec.toNat_ofNat]
  omega
theorem mask_mod (v : BitVec 64) (m : Nat) (hm : m ≤ 62) : (v &&& BitVec.ofNat 64 (2 ^ m - 1)).toNat = v.toNat % 2 ^ m := by
  have h1 : 2 ^ m ≤ 2 ^ 62 := Nat.pow_le_pow_right (by decide) hm
  rw [BitVec.toNat_and, BitVec.toNat_ofNat, Nat.mod_eq_of_lt (show 2 ^ m - 1 < 2 ^ 64 by omega), Nat.and_two_pow_sub_one_eq_mod]
theorem rot_val {x m c : Nat} (hx : x < 2 ^ m) (hm : m ≤ 62) : bits .and .i64 (bits .or .i64 (IntKind.i64.wrap ((x : Int) * 2 ^ c)) (((x / 2 ^ (m - c) : Nat) : Int))) (((2 ^ m - 1 : Nat) : Int)) = ((rotN m x c : Nat) : Int) := by
  have h1 : 2 ^ m ≤ 2 ^ 62 := Nat.pow_le_pow_right (by decide) hm
  have hp : 0 < 2 ^ m := Nat.two_pow_pos m
  have e1 : ((x : Int) * 2 ^ c) = ((x * 2 ^ c : Nat) : Int) := by push_cast; rfl
  show IntKind.i64.wrap ((BitVec.ofInt 64 (IntKind.i64.wrap ((BitVec.ofInt 64 (IntKind.i64.wrap ((x : Int) * 2 ^ c)) ||| BitVec.ofInt 64 ((x / 2 ^ (m - c) : Nat) : Int)).toNat : Int)) &&& BitVec.ofInt 64 ((2 ^ m - 1 : Nat) : Int)).toNat : Int) = _
  rw [ofInt_wrap, ofInt_wrap, e1, ofInt_nat, ofInt_nat, ofInt_nat, ofInt_nat, mask_mod _ _ hm]
  have e2 : (BitVec.ofNat 64 ((BitVec.ofNat 64 (x * 2 ^ c) ||| BitVec.ofNat 64 (x / 2 ^ (m - c))).toNat)).toNat % 2 ^ m = rotN m x c := by
    unfold rotN
    apply Nat.eq_of_testBit_eq
    intro i
    have hl : x / 2 ^ (m - c) < 2 ^ 64 := Nat.lt_of_le_of_lt (Nat.div_le_self _ _) (by omega)
    rw [Nat.testBit_mod_two_pow, Nat.testBit_mod_two_pow, BitVec.toNat_ofNat, BitVec.toNat_or, BitVec.toNat_ofNat, BitVec.toNat_ofNat, Nat.testBit_mod_two_pow, Nat.testBit_or, Nat.testBit_mod_two_pow, Nat.testBit_mod_two_pow, Nat.testBit_or]
    by_cases hi : i < m
    · simp [hi, show i < 64 by omega]
    · simp [hi]
  rw [e2]
  have h3 : rotN m x c < 2 ^ m := Nat.mod_lt _ hp
  exact IntWalk.i64_in _ (by omega)
theorem rotN_lt (m x c : Nat) : rotN m x c < 2 ^ m := Nat.mod_lt _ (Nat.two_pow_pos m)
theorem rotN_bit {m x c r : Nat} (hx : x < 2 ^ m) (hc : c < m) (hr : r < m) : (rotN m x c).testBit r = if c ≤ r then x.testBit (r - c) else x.testBit (r + (m - c)) := by
  unfold rotN
  rw [Nat.testBit_mod_two_pow, Nat.testBit_or, Nat.testBit_mul_two_pow, Nat.testBit_div_two_pow, decide_eq_true hr, Bool.true_and]
  by_cases h : c ≤ r
  · have : x.testBit (r + (m - c)) = false := Nat.testBit_lt_two_pow (Nat.lt_of_lt_of_le hx (Nat.pow_le_pow_right (by decide) (by omega)))
    rw [if_pos h, decide_eq_true h, this]; simp
  · rw [if_neg h, decide_eq_false h]; simp
theorem rest_of {m c r q : Nat} (hc : c < m) (hr : r < m) (hq : q < m) : (q + c) % m = r ↔ q = if c ≤ r then r - c else r + (m - c) := by
  rw [md2 (by omega)]
  split <;> split <;> omega

/-- Whether step j may stand behind step i. -/
def pcB (m : Nat) (fs : List Int) (i j : Nat) : Bool := (stA m fs i 1 == stA m fs j 0) && (i != flp j)
def orN (m : Nat) (fs : List Int) (g : Nat → Nat) (j : Nat) : Nat → Nat
  | 0 => 0
  | i + 1 => if pcB m fs i j then orN m fs g j i ||| g i else orN m fs g j i
theorem orN_bit (m : Nat) (fs : List Int) (g : Nat → Nat) (j q : Nat) : ∀ n, (orN m fs g j n).testBit q = (List.range n).any fun i => pcB m fs i j && (g i).testBit q
  | 0 => by simp [orN]
  | n + 1 => by
    rw [orN, List.range_succ, List.any_append]
    cases h : pcB m fs n j
    · simp [orN_bit m fs g j q n, h]
    · simp [Nat.testBit_or, orN_bit m fs g j q n, h]
theorem orN_lt {m : Nat} {fs : List Int} {g : Nat → Nat} {j M : Nat} (hg : ∀ i, g i < 2 ^ M) : ∀ n, orN m fs g j n < 2 ^ M
  | 0 => by rw [orN]; exact Nat.two_pow_pos _
  | n + 1 => by
    rw [orN]
    split
    · exact Nat.or_lt_two_pow (orN_lt hg n) (hg n)
    · exact orN_lt hg n
/-- The row of the sums of reduced walks of t + 1 steps that begin with step f and end with a step. -/
def rwN (m : Nat) (fs : List Int) (K f : Nat) : Nat → Nat → Nat
  | 0, i => if i = f then 2 ^ stA m fs f 2 else 0
  | t + 1, j => rotN m (orN m fs (rwN m fs K f t) j K) (stA m fs j 2)
theorem rwN_lt {m : Nat} {fs : List Int} {K f : Nat} (hf : stA m fs f 2 < m) : ∀ t i, rwN m fs K f t i < 2 ^ m
  | 0, i => by
    rw [rwN]
    split
    · exact Nat.pow_lt_pow_right (by decide) hf
    · exact Nat.two_pow_pos _
  | t + 1, j => by rw [rwN]; exact rotN_lt _ _ _
/-- Whether a closed reduced walk of t + 1 steps with the sum 0 begins with step f. -/
def fdB (m : Nat) (fs : List Int) (K f t : Nat) : Bool := (List.range K).any fun i => (rwN m fs K f t i).testBit 0 && pcB m fs i f

/-- The same, as the model tells it: state s is step s / m with the sum s % m. -/
def tmB (m : Nat) (fs : List Int) (K f t j r s : Nat) : Bool := (rwN m fs K f t (s / m)).testBit (s % m) && (pcB m fs (s / m) j && ((s % m + stA m fs j 2) % m == r))
def nxB (m : Nat) (fs : List Int) (K f t S j r : Nat) : Bool := (List.range S).any (tmB m fs K f t j r)
theorem nxB_succ (m : Nat) (fs : List Int) (K f t S j r : Nat) : nxB m fs K f t (S + 1) j r = (nxB m fs K f t S j r || tmB m fs K f t j r S) := by simp [nxB, List.range_succ]
def fsB (m : Nat) (fs : List Int) (K f t s : Nat) : Bool := (rwN m fs K f t (s / m)).testBit (s % m) && ((stA m fs (s / m) 1 == stA m fs f 0) && (s % m == 0) && (flp (s / m) != f))
def fdS (m : Nat) (fs : List Int) (K f t S : Nat) : Bool := (List.range S).any (fsB m fs K f t)
theorem fdS_succ (m : Nat) (fs : List Int) (K f t S : Nat) : fdS m fs K f t (S + 1) = (fdS m fs K f t S || fsB m fs K f t S) := by simp [fdS, List.range_succ]
theorem st_div {m i q : Nat} (hq : q < m) : (i * m + q) / m = i ∧ (i * m + q) % m = q := by
  constructor
  · rw [Nat.add_comm, Nat.add_mul_div_right _ _ (by omega), Nat.div_eq_of_lt hq, Nat.zero_add]
  · rw [Nat.add_comm, Nat.add_mul_mod_self_right, Nat.mod_eq_of_lt hq]
theorem st_lt {m K s : Nat} (h : s < K * m) : s / m < K ∧ s % m < m := by
  have hm : 0 < m := Nat.pos_of_ne_zero fun e => by subst e; simp at h
  exact ⟨(Nat.div_lt_iff_lt_mul hm).2 h, Nat.mod_lt _ hm⟩
theorem nx_eq {m : Nat} {fs : List Int} {K f t j r : Nat} (hf : stA m fs f 2 < m) (hj : stA m fs j 2 < m) (hr : r < m) : nxB m fs K f t (K * m) j r = (rwN m fs K f (t + 1) j).testBit r := by
  rw [rwN, rotN_bit (orN_lt (rwN_lt hf t) K) hj hr, Bool.eq_iff_iff]
  have key : nxB m fs K f t (K * m) j r = true ↔ ∃ i, i < K ∧ pcB m fs i j = true ∧ (rwN m fs K f t i).testBit (if stA m fs j 2 ≤ r then r - stA m fs j 2 else r + (m - stA m fs j 2)) = true := by
    unfold nxB tmB
    rw [List.any_eq_true]
    constructor
    · rintro ⟨s, hs, h⟩
      obtain ⟨h1, h2⟩ := st_lt (List.mem_range.1 hs)
      simp only [Bool.and_eq_true, beq_iff_eq] at h
      refine ⟨s / m, h1, h.2.1, ?_⟩
      rw [← (rest_of hj hr h2).1 h.2.2]; exact h.1
    · rintro ⟨i, hi, h1, h2⟩
      obtain ⟨q, hq⟩ : ∃ q, q = if stA m fs j 2 ≤ r then r - stA m fs j 2 else r + (m - stA m fs j 2) := ⟨_, rfl⟩
      have hqm : q < m := by rw [hq]; split <;> omega
      rw [← hq] at h2
      obtain ⟨e1, e2⟩ := st_div (i := i) hqm
      refine ⟨i * m + q, List.mem_range.2 ?_, ?_⟩
      · have : (i + 1) * m ≤ K * m := Nat.mul_le_mul_right _ hi
        rw [Nat.add_mul] at this; omega
      · rw [e1, e2]
        simp only [Bool.and_eq_true, beq_iff_eq]
        exact ⟨h2, h1, (rest_of hj hr hqm).2 hq⟩
  rw [key]
  split
  · next h =>
    rw [orN_bit, List.any_eq_true]
    constructor
    · rintro ⟨i, hi, h1, h2⟩
      exact ⟨i, List.mem_range.2 hi, by rw [h1]; simpa [h] using h2⟩
    · rintro ⟨i, hi, h1⟩
      rw [Bool.and_eq_true] at h1
      exact ⟨i, List.mem_range.1 hi, h1.1, by simpa [h] using h1.2⟩
  · next h =>
    rw [orN_bit, List.any_eq_true]
    constructor
    · rintro ⟨i, hi, h1, h2⟩
      exact ⟨i, List.mem_range.2 hi, by rw [h1]; simpa [h] using h2⟩
    · rintro ⟨i, hi, h1⟩
      rw [Bool.and_eq_true] at h1
      exact ⟨i, List.mem_range.1 hi, h1.1, by simpa [h] using h1.2⟩
theorem fd_eq {m : Nat} {fs : List Int} {K f t : Nat} (hm : 0 < m) : fdS m fs K f t (K * m) = fdB m fs K f t := by
  rw [Bool.eq_iff_iff]
  unfold fdS fdB fsB
  rw [List.any_eq_true, List.any_eq_true]
  constructor
  · rintro ⟨s, hs, h⟩
    obtain ⟨h1, h2⟩ := st_lt (List.mem_range.1 hs)
    simp only [Bool.and_eq_true, beq_iff_eq, bne_iff_ne] at h
    refine ⟨s / m, List.mem_range.2 h1, ?_⟩
    unfold pcB
    simp only [Bool.and_eq_true, beq_iff_eq, bne_iff_ne]
    exact ⟨by rw [← h.2.1.2]; exact h.1, h.2.1.1, (flp_ne _ _).2 (fun e => h.2.2 e.symm)⟩
  · rintro ⟨i, hi, h⟩
    unfold pcB at h
    simp only [Bool.and_eq_true, beq_iff_eq, bne_iff_ne] at h
    obtain ⟨e1, e2⟩ := st_div (i := i) hm
    refine ⟨i * m + 0, List.mem_range.2 ?_, ?_⟩
    · have : (i + 1) * m ≤ K * m := Nat.mul_le_mul_right _ (List.mem_range.1 hi)
      rw [Nat.add_mul] at this; omega
    · rw [e1, e2]
      simp only [Bool.and_eq_true, beq_iff_eq, bne_iff_ne]
      exact ⟨h.1, ⟨h.2.1, trivial⟩, fun e => (flp_ne _ _).1 h.2.2 e.symm⟩

/-- The first number below n with a mark, n for none. -/
def srch (g : Nat → Bool) : Nat → Nat
  | 0 => 0
  | n + 1 => if srch g n < n then srch g n else if g n then n else n + 1
theorem srch_le (g : Nat → Bool) : ∀ n, srch g n ≤ n
  | 0 => by simp [srch]
  | n + 1 => by
    have := srch_le g n
    rw [srch]
    split
    · omega
    · split <;> omega
theorem srch_none {g : Nat → Bool} : ∀ {n}, (∀ t, t < n → g t = false) → srch g n = n
  | 0, _ => rfl
  | n + 1, h => by rw [srch, srch_none (fun t ht => h t (by omega)), if_neg (by omega), if_neg (by rw [h n (by omega)]; simp)]
theorem srch_at {g : Nat → Bool} {j : Nat} (h : ∀ t, t < j → g t = false) (hj : g j = true) : ∀ n, j < n → srch g n = j
  | 0, hn => by omega
  | n + 1, hn => by
    rw [srch]
    by_cases e : j = n
    · subst e; rw [srch_none h, if_neg (by omega), if_pos hj]
    · rw [srch_at h hj n (by omega), if_pos (by omega)]
theorem srch_ge {g : Nat → Bool} {j : Nat} (h : ∀ t, t < j → g t = false) : ∀ n, j ≤ n → j ≤ srch g n
  | 0, hn => by omega
  | n + 1, hn => by
    rw [srch]
    by_cases e : j ≤ n
    · have := srch_ge h n e
      split
      · omega
      · split <;> omega
    · have e2 : j = n + 1 := by omega
      rw [srch_none (fun t ht => h t (by omega)), if_neg (by omega), if_neg (by rw [h n (by omega)]; simp)]; omega
/-- The least number of steps that begins with step f, 15 for none; the least of the first j steps. -/
def shN (m : Nat) (fs : List Int) (K f : Nat) : Nat := srch (fdB m fs K f) 14 + 1
def lsN (m : Nat) (fs : List Int) (K : Nat) : Nat → Nat
  | 0 => 15
  | j + 1 => min (lsN m fs K j) (shN m fs K j)
theorem shN_le (m : Nat) (fs : List Int) (K f : Nat) : 1 ≤ shN m fs K f ∧ shN m fs K f ≤ 15 := by
  have := srch_le (fdB m fs K f) 14
  unfold shN; omega
theorem lsN_le (m : Nat) (fs : List Int) (K : Nat) : ∀ j, 1 ≤ lsN m fs K j ∧ lsN m fs K j ≤ 15
  | 0 => by rw [lsN]; omega
  | j + 1 => by have := lsN_le m fs K j; have := shN_le m fs K j; rw [lsN]; omega
/-- What WalkGirth answers. -/
def wgN (n m : Int) (k : Nat) (fs : List Int) : Int := if isB n m k fs then (if lsN m.toNat fs (2 * k) (2 * k) = 15 then 0 else (lsN m.toNat fs (2 * k) (2 * k) : Nat)) else 0
def wgC (n m : Int) (k : Nat) (fs : List Int) : Int := if isB n m k fs then (if lsN m.toNat fs (2 * k) (2 * k) = 15 then 4 else 0) else 1
end Go.Proofs.Ythonkphjahomeaa
