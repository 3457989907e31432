/-
  math/bits.OnesCount64: the number of digits 1.
-/
import Derived.Test.YthbfdblpgdhngaaDoorTz
namespace Go.Proofs.YthbfdblpgdhngaaDoor
set_option maxRecDepth 100000
open Go.RowKit

/-- The number of digits 1. -/
def pcF : Nat → Nat → Nat
  | 0, _ => 0
  | f + 1, x => x % 2 + pcF f (x / 2)
def pc (x : Nat) : Nat := pcF 64 x

/-- A number by its bytes, the lowest first. -/
def val : List Nat → Nat
  | [] => 0
  | b :: bs => b + 256 * val bs

theorem and_byte (a v p m : Nat) (ha : a < 256) (hp : p < 256) : (a + 256 * v) &&& (p + 256 * m) = (a &&& p) + 256 * (v &&& m) := by
  have h1 : a + 256 * v = 2 ^ 8 * v + a := by omega
  have h2 : p + 256 * m = 2 ^ 8 * m + p := by omega
  have h4 : a &&& p < 2 ^ 8 := Nat.and_lt_two_pow _ hp
  have h3 : (a &&& p) + 256 * (v &&& m) = 2 ^ 8 * (v &&& m) + (a &&& p) := by omega
  rw [h1, h2, h3]
  apply Nat.eq_of_testBit_eq
  intro i
  rw [Nat.testBit_and, Nat.testBit_two_pow_mul_add _ ha, Nat.testBit_two_pow_mul_add _ hp, Nat.testBit_two_pow_mul_add _ h4]
  split <;> simp

def c1 (b : Nat) : Nat := (b / 2 &&& 85) + (b &&& 85)
def c2 (b : Nat) : Nat := (b / 4 &&& 51) + (b &&& 51)
def c3 (b : Nat) : Nat := (b / 16 + b) % 16
def mk (p : Nat) : Nat → Nat
  | 0 => 0
  | k + 1 => p + 256 * mk p k

theorem c1_mask : ∀ b, b < 256 → ∀ t, t < 2 → (b / 2 + 128 * t) &&& 85 = b / 2 &&& 85 := by decide +kernel
theorem c1_lt : ∀ b, b < 256 → c1 b < 256 ∧ c1 b / 4 % 4 ≤ 2 := by decide +kernel
theorem c2_mask : ∀ b, b < 256 → ∀ t, t < 4 → (b / 4 + 64 * t) &&& 51 = b / 4 &&& 51 := by decide +kernel
theorem c2_ok : ∀ b, b < 256 → c2 (c1 b) % 16 ≤ 4 ∧ c2 (c1 b) / 16 ≤ 4 := by decide +kernel
theorem c3_ok : ∀ b, b < 256 → c3 (c2 (c1 b)) = pcF 8 b := by decide +kernel
theorem and15 (a : Nat) : a &&& 15 = a % 16 := nat_mask4 a

theorem st1 : ∀ l : List Nat, (∀ b ∈ l, b < 256) → (val l / 2 &&& mk 85 l.length) + (val l &&& mk 85 l.length) = val (l.map c1)
  | [], _ => by simp [val, mk]
  | b :: l, h => by
    have hb := h b List.mem_cons_self
    have ih := st1 l fun x hx => h x (List.mem_cons_of_mem _ hx)
    simp only [val, mk, List.length_cons, List.map_cons]
    have e : (b + 256 * val l) / 2 = (b / 2 + 128 * (val l % 2)) + 256 * (val l / 2) := by omega
    rw [e, and_byte _ _ _ _ (by omega) (by decide), and_byte _ _ _ _ hb (by decide), c1_mask b hb _ (by omega)]
    have hc : c1 b = (b / 2 &&& 85) + (b &&& 85) := rfl
    omega
theorem st2 : ∀ l : List Nat, (∀ b ∈ l, b < 256) → (val l / 4 &&& mk 51 l.length) + (val l &&& mk 51 l.length) = val (l.map c2)
  | [], _ => by simp [val, mk]
  | b :: l, h => by
    have hb := h b List.mem_cons_self
    have ih := st2 l fun x hx => h x (List.mem_cons_of_mem _ hx)
    simp only [val, mk, List.length_cons, List.map_cons]
    have e : (b + 256 * val l) / 4 = (b / 4 + 64 * (val l % 4)) + 256 * (val l / 4) := by omega
    rw [e, and_byte _ _ _ _ (by omega) (by decide), and_byte _ _ _ _ hb (by decide), c2_mask b hb _ (by omega)]
    have hc : c2 b = (b / 4 &&& 51) + (b &&& 51) := rfl
    omega
theorem st3 : ∀ l : List Nat, (∀ b ∈ l, b % 16 ≤ 4 ∧ b / 16 ≤ 4) → (val l / 16 + val l) &&& mk 15 l.length = val (l.map c3) ∧ val l % 16 ≤ 4
  | [], _ => by simp [val, mk]
  | b :: l, h => by
    have hb := h b List.mem_cons_self
    have ih := st3 l fun x hx => h x (List.mem_cons_of_mem _ hx)
    simp only [val, mk, List.length_cons, List.map_cons]
    have e : (b + 256 * val l) / 16 + (b + 256 * val l) = (b / 16 + 16 * (val l % 16) + b) + 256 * (val l / 16 + val l) := by omega
    refine ⟨?_, by omega⟩
    rw [e, and_byte _ _ _ _ (by omega) (by decide), ih.1, and15]
    unfold c3
    omega

/-- The bytes of a number. -/
def bytes : Nat → Nat → List Nat
  | 0, _ => []
  | k + 1, x => x % 256 :: bytes k (x / 256)
theorem bytes_lt : ∀ (k x b : Nat), b ∈ bytes k x → b < 256
  | 0, _, _, h => by simp [bytes] at h
  | k + 1, x, b, h => by
    rcases List.mem_cons.1 h with rfl | h
    · omega
    · exact bytes_lt k _ b h
theorem val_bytes : ∀ (k x : Nat), x < 256 ^ k → val (bytes k x) = x
  | 0, x, h => by simp at h; simp [bytes, val, h]
  | k + 1, x, h => by
    have := val_bytes k (x / 256) (by rw [Nat.pow_succ] at h; omega)
    simp only [bytes, val, this]
    omega
theorem bytes_length (k x : Nat) : (bytes k x).length = k := by
  induction k generalizing x with
  | zero => rfl
  | succ k ih => simp [bytes, ih]
theorem pcF_add : ∀ (a b x : Nat), pcF (a + b) x = pcF a x + pcF b (x / 2 ^ a)
  | 0, b, x => by simp [pcF]
  | a + 1, b, x => by
    rw [show a + 1 + b = (a + b) + 1 from by omega, pcF, pcF, pcF_add a b (x / 2), Nat.pow_succ, Nat.mul_comm, ← Nat.div_div_eq_div_mul]
    omega
theorem pcF_mod : ∀ (a x k : Nat), pcF a (x % 2 ^ (a + k)) = pcF a x
  | 0, x, k => rfl
  | a + 1, x, k => by
    rw [pcF, pcF]
    have e1 : x % 2 ^ (a + 1 + k) % 2 = x % 2 := by
      rw [show a + 1 + k = (a + k) + 1 from by omega, Nat.pow_succ]
      exact Nat.mod_mod_of_dvd _ ⟨2 ^ (a + k), by omega⟩
    have e2 : x % 2 ^ (a + 1 + k) / 2 = x / 2 % 2 ^ (a + k) := by
      rw [show a + 1 + k = (a + k) + 1 from by omega, Nat.pow_succ, Nat.mul_comm, Nat.mod_mul_right_div_self]
    rw [e1, e2, pcF_mod a (x / 2) k]
theorem sum_bytes : ∀ (k x : Nat), ((bytes k x).map (pcF 8)).sum = pcF (8 * k) x
  | 0, x => by simp [bytes, pcF]
  | k + 1, x => by
    simp only [bytes, List.map_cons, List.sum_cons]
    rw [sum_bytes k, show 8 * (k + 1) = 8 + 8 * k from by omega, pcF_add 8 (8 * k) x, show x % 256 = x % 2 ^ (8 + 0) from rfl, pcF_mod 8 x 0]

theorem fold_bytes (p0 p1 p2 p3 p4 p5 p6 p7 s3 : Nat) (g0 : p0 ≤ 8) (g1 : p1 ≤ 8) (g2 : p2 ≤ 8) (g3 : p3 ≤ 8) (g4 : p4 ≤ 8) (g5 : p5 ≤ 8) (g6 : p6 ≤ 8) (g7 : p7 ≤ 8)
    (h3 : s3 = p0 + 256 * (p1 + 256 * (p2 + 256 * (p3 + 256 * (p4 + 256 * (p5 + 256 * (p6 + 256 * (p7 + 256 * 0)))))))) :
    s3 < 2305843009213693952 ∧ s3 + s3 / 256 < 2305843009213693952 ∧ s3 + s3 / 256 + (s3 + s3 / 256) / 65536 < 4611686018427387904 ∧
    s3 + s3 / 256 + (s3 + s3 / 256) / 65536 + (s3 + s3 / 256 + (s3 + s3 / 256) / 65536) / 4294967296 < 9223372036854775808 ∧
    (s3 + s3 / 256 + (s3 + s3 / 256) / 65536 + (s3 + s3 / 256 + (s3 + s3 / 256) / 65536) / 4294967296) % 128 = p0 + (p1 + (p2 + (p3 + (p4 + (p5 + (p6 + (p7 + 0))))))) := by
  obtain ⟨t6, e6⟩ : ∃ t, t = p6 + 256 * p7 := ⟨_, rfl⟩
  obtain ⟨t5, e5⟩ : ∃ t, t = p5 + 256 * t6 := ⟨_, rfl⟩
  obtain ⟨t4, e4⟩ : ∃ t, t = p4 + 256 * t5 := ⟨_, rfl⟩
  obtain ⟨t3, e3⟩ : ∃ t, t = p3 + 256 * t4 := ⟨_, rfl⟩
  obtain ⟨t2, e2⟩ : ∃ t, t = p2 + 256 * t3 := ⟨_, rfl⟩
  obtain ⟨t1, e1⟩ : ∃ t, t = p1 + 256 * t2 := ⟨_, rfl⟩
  have e0 : s3 = p0 + 256 * t1 := by rw [h3, e1, e2, e3, e4, e5, e6, Nat.mul_zero, Nat.add_zero]
  clear h3
  have l6 : t6 ≤ 2056 := by omega
  have l5 : t5 ≤ 526344 := by omega
  have l4 : t4 ≤ 134744072 := by omega
  have l3 : t3 ≤ 34494482440 := by omega
  have l2 : t2 ≤ 8830587504648 := by omega
  have l1 : t1 ≤ 2260630401189896 := by omega
  have l0 : s3 ≤ 578721382704613384 := by omega
  have d1 : s3 / 256 = t1 := by omega
  rw [d1]
  obtain ⟨u0, f0⟩ : ∃ u, u = s3 + t1 := ⟨_, rfl⟩
  obtain ⟨u2, f2⟩ : ∃ u, u = t2 + t3 := ⟨_, rfl⟩
  obtain ⟨u4, f4⟩ : ∃ u, u = t4 + t5 := ⟨_, rfl⟩
  obtain ⟨u6, f6⟩ : ∃ u, u = t6 + p7 := ⟨_, rfl⟩
  rw [← f0]
  have c0 : u0 = (p0 + p1) + 256 * (p1 + p2) + 65536 * u2 := by omega
  have c2 : u2 = (p2 + p3) + 256 * (p3 + p4) + 65536 * u4 := by omega
  have c4 : u4 = (p4 + p5) + 256 * (p5 + p6) + 65536 * u6 := by omega
  have d2 : u0 / 65536 = u2 := by clear e0 e1 e2 e3 e4 e5 e6 c2 c4 f0 f2 f4 f6; omega
  rw [d2]
  obtain ⟨v0, k0⟩ : ∃ v, v = u0 + u2 := ⟨_, rfl⟩
  obtain ⟨v2, k2⟩ : ∃ v, v = u2 + u4 := ⟨_, rfl⟩
  obtain ⟨v4, k4⟩ : ∃ v, v = u4 + u6 := ⟨_, rfl⟩
  have lu0 : u0 ≤ 580982013105803280 := by omega
  have lu2 : u2 ≤ 8865081987088 := by omega
  rw [← k0]
  have m0 : v0 = (p0 + p1 + p2 + p3) + 256 * (p1 + p2 + p3 + p4) + 65536 * v2 := by omega
  have m2 : v2 = (p2 + p3 + p4 + p5) + 256 * (p3 + p4 + p5 + p6) + 65536 * v4 := by omega
  have m4 : v4 = (p4 + p5 + p6 + p7) + 256 * (p5 + p6 + p7) + 65536 * u6 := by omega
  have lv0 : v0 ≤ 580990878187790368 := by omega
  clear e0 e1 e2 e3 e4 e5 e6 c0 c2 c4 f0 f2 f4 f6 d1 d2 k0 k2 k4 l1 l2 l3 l4 l5 l6
  have d3 : v0 / 4294967296 = v4 := by clear m4; omega
  rw [d3]
  have lv4 : v4 ≤ v0 := by omega
  refine ⟨by omega, by omega, by omega, by omega, ?_⟩
  clear lu0 lu2 lv0 lv4 l0 d3
  omega
theorem pc8_le : ∀ b, b < 256 → pcF 8 b ≤ 8 := by decide +kernel

end Go.Proofs.YthbfdblpgdhngaaDoor
