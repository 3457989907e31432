/-
  math/bits.OnesCount64: the number of digits 1.
-/
import Derived.Test.YtonfcmngokmgpaaTz
namespace Go.Proofs.Ytonfcmngokmgpaa
set_option maxRecDepth 100000
open Go.RowKit

set_option maxHeartbeats 1000000 in
theorem ones_core (x s1 s2 s3 s4 s5 s6 r : Nat) (w : World)
    (k1 : IntKind.u64.wrap (bits BinOp.and IntKind.u64 ((x : Int) / 2) 6148914691236517205 + bits BinOp.and IntKind.u64 (x : Int) 6148914691236517205) = (s1 : Int))
    (k2 : IntKind.u64.wrap (bits BinOp.and IntKind.u64 ((s1 : Int) / 4) 3689348814741910323 + bits BinOp.and IntKind.u64 (s1 : Int) 3689348814741910323) = (s2 : Int))
    (k3 : bits BinOp.and IntKind.u64 (IntKind.u64.wrap ((s2 : Int) / 16 + (s2 : Int))) 1085102592571150095 = (s3 : Int))
    (k4 : IntKind.u64.wrap ((s3 : Int) + (s3 : Int) / 256) = (s4 : Int))
    (k5 : IntKind.u64.wrap ((s4 : Int) + (s4 : Int) / 65536) = (s5 : Int))
    (k6 : IntKind.u64.wrap ((s5 : Int) + (s5 : Int) / 4294967296) = (s6 : Int))
    (k7 : bits BinOp.and IntKind.i64 (wrap64 (s6 : Int)) 127 = (r : Int)) :
    Calls Try.prog 31 #[.int .u64 x] w fun e w' => e = .returned (.int .i64 r) ∧ w = w' := by
  go_enter Try.func31, Try.ntmps31
  go_wp2
  go_ret
  exact ⟨rfl, rfl⟩

/-- The number of digits 1. -/
def pcF : Nat → Nat → Nat
  | 0, _ => 0
  | f + 1, x => x % 2 + pcF f (x / 2)
def pc (x : Nat) : Nat := pcF 64 x

/-- A number by its bytes, the lowest first. -/
def val : List Nat → Nat
  | [] => 0
  | b :: bs => b + 256 * val bs

theorem and_byte (a v p m : Nat) (ha : a < 256) (hp : p < 256) : (a + 256 * v) &&& (p + 256 * m) = (a &&& p) + 256 * (v &&& m) := by
  have h1 : a + 256 * v = 2 ^ 8 * v + a := by omega
  have h2 : p + 256 * m = 2 ^ 8 * m + p := by omega
  have h4 : a &&& p < 2 ^ 8 := Nat.and_lt_two_pow _ hp
  have h3 : (a &&& p) + 256 * (v &&& m) = 2 ^ 8 * (v &&& m) + (a &&& p) := by omega
  rw [h1, h2, h3]
  apply Nat.eq_of_testBit_eq
  intro i
  rw [Nat.testBit_and, Nat.testBit_two_pow_mul_add _ ha, Nat.testBit_two_pow_mul_add _ hp, Nat.testBit_two_pow_mul_add _ h4]
  split <;> simp

def c1 (b : Nat) : Nat := (b / 2 &&& 85) + (b &&& 85)
def c2 (b : Nat) : Nat := (b / 4 &&& 51) + (b &&& 51)
def c3 (b : Nat) : Nat := (b / 16 + b) % 16
def mk (p : Nat) : Nat → Nat
  | 0 => 0
  | k + 1 => p + 256 * mk p k

theorem c1_mask : ∀ b, b < 256 → ∀ t, t < 2 → (b / 2 + 128 * t) &&& 85 = b / 2 &&& 85 := by decide +kernel
theorem c1_lt : ∀ b, b < 256 → c1 b < 256 ∧ c1 b / 4 % 4 ≤ 2 := by decide +kernel
theorem c2_mask : ∀ b, b < 256 → ∀ t, t < 4 → (b / 4 + 64 * t) &&& 51 = b / 4 &&& 51 := by decide +kernel
theorem c2_ok : ∀ b, b < 256 → c2 (c1 b) % 16 ≤ 4 ∧ c2 (c1 b) / 16 ≤ 4 := by decide +kernel
theorem c3_ok : ∀ b, b < 256 → c3 (c2 (c1 b)) = pcF 8 b := by decide +kernel
theorem and15 (a : Nat) : a &&& 15 = a % 16 := nat_mask4 a

theorem st1 : ∀ l : List Nat, (∀ b ∈ l, b < 256) → (val l / 2 &&& mk 85 l.length) + (val l &&& mk 85 l.length) = val (l.map c1)
  | [], _ => by simp [val, mk]
  | b :: l, h => by
    have hb := h b List.mem_cons_self
    have ih := st1 l fun x hx => h x (List.mem_cons_of_mem _ hx)
    simp only [val, mk, List.length_cons, List.map_cons]
    have e : (b + 256 * val l) / 2 = (b / 2 + 128 * (val l % 2)) + 256 * (val l / 2) := by omega
    rw [e, and_byte _ _ _ _ (by omega) (by decide), and_byte _ _ _ _ hb (by decide), c1_mask b hb _ (by omega)]
    have hc : c1 b = (b / 2 &&& 85) + (b &&& 85) := rfl
    omega
theorem st2 : ∀ l : List Nat, (∀ b ∈ l, b < 256) → (val l / 4 &&& mk 51 l.length) + (val l &&& mk 51 l.length) = val (l.map c2)
  | [], _ => by simp [val, mk]
  | b :: l, h => by
    have hb := h b List.mem_cons_self
    have ih := st2 l fun x hx => h x (List.mem_cons_of_mem _ hx)
    simp only [val, mk, List.length_cons, List.map_cons]
    have e : (b + 256 * val l) / 4 = (b / 4 + 64 * (val l % 4)) + 256 * (val l / 4) := by omega
    rw [e, and_byte _ _ _ _ (by omega) (by decide), and_byte _ _ _ _ hb (by decide), c2_mask b hb _ (by omega)]
    have hc : c2 b = (b / 4 &&& 51) + (b &&& 51) := rfl
    omega
theorem st3 : ∀ l : List Nat, (∀ b ∈ l, b % 16 ≤ 4 ∧ b / 16 ≤ 4) → (val l / 16 + val l) &&& mk 15 l.length = val (l.map c3) ∧ val l % 16 ≤ 4
  | [], _ => by simp [val, mk]
  | b :: l, h => by
    have hb := h b List.mem_cons_self
    have ih := st3 l fun x hx => h x (List.mem_cons_of_mem _ hx)
    simp only [val, mk, List.length_cons, List.map_cons]
    have e : (b + 256 * val l) / 16 + (b + 256 * val l) = (b / 16 + 16 * (val l % 16) + b) + 256 * (val l / 16 + val l) := by omega
    refine ⟨?_, by omega⟩
    rw [e, and_byte _ _ _ _ (by omega) (by decide), ih.1, and15]
    unfold c3
    omega

/-- The bytes of a number. -/
def bytes : Nat → Nat → List Nat
  | 0, _ => []
  | k + 1, x => x % 256 :: bytes k (x / 256)
theorem bytes_lt : ∀ (k x b : Nat), b ∈ bytes k x → b < 256
  | 0, _, _, h => by simp [bytes] at h
  | k + 1, x, b, h => by
    rcases List.mem_cons.1 h with rfl | h
    · omega
    · exact bytes_lt k _ b h
theorem val_bytes : ∀ (k x : Nat), x < 256 ^ k → val (bytes k x) = x
  | 0, x, h => by simp at h; simp [bytes, val, h]
  | k + 1, x, h => by
    have := val_bytes k (x / 256) (by rw [Nat.pow_succ] at h; omega)
    simp only [bytes, val, this]
    omega
theorem bytes_length (k x : Nat) : (bytes k x).length = k := by
  induction k generalizing x with
  | zero => rfl
  | succ k ih => simp [bytes, ih]
theorem pcF_add : ∀ (a b x : Nat), pcF (a + b) x = pcF a x + pcF b (x / 2 ^ a)
  | 0, b, x => by simp [pcF]
  | a + 1, b, x => by
    rw [show a + 1 + b = (a + b) + 1 from by omega, pcF, pcF, pcF_add a b (x / 2), Nat.pow_succ, Nat.mul_comm, ← Nat.div_div_eq_div_mul]
    omega
theorem pcF_mod : ∀ (a x k : Nat), pcF a (x % 2 ^ (a + k)) = pcF a x
  | 0, x, k => rfl
  | a + 1, x, k => by
    rw [pcF, pcF]
    have e1 : x % 2 ^ (a + 1 + k) % 2 = x % 2 := by
      rw [show a + 1 + k = (a + k) + 1 from by omega, Nat.pow_succ]
      exact Nat.mod_mod_of_dvd _ ⟨2 ^ (a + k), by omega⟩
    have e2 : x % 2 ^ (a + 1 + k) / 2 = x / 2 % 2 ^ (a + k) := by
      rw [show a + 1 + k = (a + k) + 1 from by omega, Nat.pow_succ, Nat.mul_comm, Nat.mod_mul_right_div_self]
    rw [e1, e2, pcF_mod a (x / 2) k]
theorem sum_bytes : ∀ (k x : Nat), ((bytes k x).map (pcF 8)).sum = pcF (8 * k) x
  | 0, x => by simp [bytes, pcF]
  | k + 1, x => by
    simp only [bytes, List.map_cons, List.sum_cons]
    rw [sum_bytes k, show 8 * (k + 1) = 8 + 8 * k from by omega, pcF_add 8 (8 * k) x, show x % 256 = x % 2 ^ (8 + 0) from rfl, pcF_mod 8 x 0]

theorem fold_bytes (p0 p1 p2 p3 p4 p5 p6 p7 s3 : Nat) (g0 : p0 ≤ 8) (g1 : p1 ≤ 8) (g2 : p2 ≤ 8) (g3 : p3 ≤ 8) (g4 : p4 ≤ 8) (g5 : p5 ≤ 8) (g6 : p6 ≤ 8) (g7 : p7 ≤ 8)
    (h3 : s3 = p0 + 256 * (p1 + 256 * (p2 + 256 * (p3 + 256 * (p4 + 256 * (p5 + 256 * (p6 + 256 * (p7 + 256 * 0)))))))) :
    s3 < 2305843009213693952 ∧ s3 + s3 / 256 < 2305843009213693952 ∧ s3 + s3 / 256 + (s3 + s3 / 256) / 65536 < 4611686018427387904 ∧
    s3 + s3 / 256 + (s3 + s3 / 256) / 65536 + (s3 + s3 / 256 + (s3 + s3 / 256) / 65536) / 4294967296 < 9223372036854775808 ∧
    (s3 + s3 / 256 + (s3 + s3 / 256) / 65536 + (s3 + s3 / 256 + (s3 + s3 / 256) / 65536) / 4294967296) % 128 = p0 + (p1 + (p2 + (p3 + (p4 + (p5 + (p6 + (p7 + 0))))))) := by
  obtain ⟨t6, e6⟩ : ∃ t, t = p6 + 256 * p7 := ⟨_, rfl⟩
  obtain ⟨t5, e5⟩ : ∃ t, t = p5 + 256 * t6 := ⟨_, rfl⟩
  obtain ⟨t4, e4⟩ : ∃ t, t = p4 + 256 * t5 := ⟨_, rfl⟩
  obtain ⟨t3, e3⟩ : ∃ t, t = p3 + 256 * t4 := ⟨_, rfl⟩
  obtain ⟨t2, e2⟩ : ∃ t, t = p2 + 256 * t3 := ⟨_, rfl⟩
  obtain ⟨t1, e1⟩ : ∃ t, t = p1 + 256 * t2 := ⟨_, rfl⟩
  have e0 : s3 = p0 + 256 * t1 := by rw [h3, e1, e2, e3, e4, e5, e6, Nat.mul_zero, Nat.add_zero]
  clear h3
  have l6 : t6 ≤ 2056 := by omega
  have l5 : t5 ≤ 526344 := by omega
  have l4 : t4 ≤ 134744072 := by omega
  have l3 : t3 ≤ 34494482440 := by omega
  have l2 : t2 ≤ 8830587504648 := by omega
  have l1 : t1 ≤ 2260630401189896 := by omega
  have l0 : s3 ≤ 578721382704613384 := by omega
  have d1 : s3 / 256 = t1 := by omega
  rw [d1]
  obtain ⟨u0, f0⟩ : ∃ u, u = s3 + t1 := ⟨_, rfl⟩
  obtain ⟨u2, f2⟩ : ∃ u, u = t2 + t3 := ⟨_, rfl⟩
  obtain ⟨u4, f4⟩ : ∃ u, u = t4 + t5 := ⟨_, rfl⟩
  obtain ⟨u6, f6⟩ : ∃ u, u = t6 + p7 := ⟨_, rfl⟩
  rw [← f0]
  have c0 : u0 = (p0 + p1) + 256 * (p1 + p2) + 65536 * u2 := by omega
  have c2 : u2 = (p2 + p3) + 256 * (p3 + p4) + 65536 * u4 := by omega
  have c4 : u4 = (p4 + p5) + 256 * (p5 + p6) + 65536 * u6 := by omega
  have d2 : u0 / 65536 = u2 := by clear e0 e1 e2 e3 e4 e5 e6 c2 c4 f0 f2 f4 f6; omega
  rw [d2]
  obtain ⟨v0, k0⟩ : ∃ v, v = u0 + u2 := ⟨_, rfl⟩
  obtain ⟨v2, k2⟩ : ∃ v, v = u2 + u4 := ⟨_, rfl⟩
  obtain ⟨v4, k4⟩ : ∃ v, v = u4 + u6 := ⟨_, rfl⟩
  have lu0 : u0 ≤ 580982013105803280 := by omega
  have lu2 : u2 ≤ 8865081987088 := by omega
  rw [← k0]
  have m0 : v0 = (p0 + p1 + p2 + p3) + 256 * (p1 + p2 + p3 + p4) + 65536 * v2 := by omega
  have m2 : v2 = (p2 + p3 + p4 + p5) + 256 * (p3 + p4 + p5 + p6) + 65536 * v4 := by omega
  have m4 : v4 = (p4 + p5 + p6 + p7) + 256 * (p5 + p6 + p7) + 65536 * u6 := by omega
  have lv0 : v0 ≤ 580990878187790368 := by omega
  clear e0 e1 e2 e3 e4 e5 e6 c0 c2 c4 f0 f2 f4 f6 d1 d2 k0 k2 k4 l1 l2 l3 l4 l5 l6
  have d3 : v0 / 4294967296 = v4 := by clear m4; omega
  rw [d3]
  have lv4 : v4 ≤ v0 := by omega
  refine ⟨by omega, by omega, by omega, by omega, ?_⟩
  clear lu0 lu2 lv0 lv4 l0 d3
  omega
theorem pc8_le : ∀ b, b < 256 → pcF 8 b ≤ 8 := by decide +kernel

theorem ones_any (x : Nat) (hx : x < 18446744073709551616) (w : World) :
    Calls Try.prog 31 #[.int .u64 x] w fun e w' => e = .returned (.int .i64 (pc x)) ∧ w = w' := by
  have hb := fun b => bytes_lt 8 x b
  have hv := val_bytes 8 x (by omega)
  have hl := bytes_length 8 x
  have q1 := st1 (bytes 8 x) hb
  rw [hv, hl, show mk 85 8 = 6148914691236517205 from by decide +kernel] at q1
  have hb1 : ∀ b ∈ (bytes 8 x).map c1, b < 256 := fun b hm => by
    obtain ⟨a, ha, rfl⟩ := List.mem_map.1 hm
    exact (c1_lt a (hb a ha)).1
  have q2 := st2 ((bytes 8 x).map c1) hb1
  rw [List.length_map, hl, show mk 51 8 = 3689348814741910323 from by decide +kernel, List.map_map] at q2
  have hb2 : ∀ b ∈ (bytes 8 x).map (c2 ∘ c1), b % 16 ≤ 4 ∧ b / 16 ≤ 4 := fun b hm => by
    obtain ⟨a, ha, rfl⟩ := List.mem_map.1 hm
    exact c2_ok a (hb a ha)
  have q3 := (st3 ((bytes 8 x).map (c2 ∘ c1)) hb2).1
  rw [List.length_map, hl, show mk 15 8 = 1085102592571150095 from by decide +kernel, List.map_map] at q3
  have e3 : (bytes 8 x).map (c3 ∘ c2 ∘ c1) = (bytes 8 x).map (pcF 8) := List.map_congr_left fun a ha => c3_ok a (hb a ha)
  rw [e3] at q3
  have hsum := sum_bytes 8 x
  have hp : ∀ p ∈ (bytes 8 x).map (pcF 8), p ≤ 8 := fun p hm => by
    obtain ⟨a, ha, rfl⟩ := List.mem_map.1 hm
    exact pc8_le a (hb a ha)
  have hpl : ((bytes 8 x).map (pcF 8)).length = 8 := by rw [List.length_map, hl]
  generalize (bytes 8 x).map (pcF 8) = P at q3 hsum hp hpl
  generalize val ((bytes 8 x).map c1) = s1 at q1 q2
  generalize val ((bytes 8 x).map (c2 ∘ c1)) = s2 at q2 q3
  obtain ⟨p0, p1, p2, p3, p4, p5, p6, p7, rfl⟩ : ∃ p0 p1 p2 p3 p4 p5 p6 p7, P = [p0, p1, p2, p3, p4, p5, p6, p7] := by
    match P, hpl with
    | [p0, p1, p2, p3, p4, p5, p6, p7], _ => exact ⟨_, _, _, _, _, _, _, _, rfl⟩
  have g0 := hp p0 (by simp); have g1 := hp p1 (by simp); have g2 := hp p2 (by simp); have g3 := hp p3 (by simp)
  have g4 := hp p4 (by simp); have g5 := hp p5 (by simp); have g6 := hp p6 (by simp); have g7 := hp p7 (by simp)
  simp only [val] at q3
  simp only [List.sum_cons, List.sum_nil] at hsum
  have hpc : pc x = p0 + (p1 + (p2 + (p3 + (p4 + (p5 + (p6 + (p7 + 0))))))) := hsum.symm
  have m1 : x / 2 &&& 6148914691236517205 ≤ 6148914691236517205 := Nat.and_le_right
  have m2 : x &&& 6148914691236517205 ≤ 6148914691236517205 := Nat.and_le_right
  have m3 : s1 / 4 &&& 3689348814741910323 ≤ 3689348814741910323 := Nat.and_le_right
  have m4 : s1 &&& 3689348814741910323 ≤ 3689348814741910323 := Nat.and_le_right
  clear hb hb1 hb2 hv hl e3 hp hpl hsum
  obtain ⟨s3, h3⟩ : ∃ s3, s3 = p0 + 256 * (p1 + 256 * (p2 + 256 * (p3 + 256 * (p4 + 256 * (p5 + 256 * (p6 + 256 * (p7 + 256 * 0))))))) := ⟨_, rfl⟩
  obtain ⟨b3, b4, b5, b6, v6⟩ := fold_bytes p0 p1 p2 p3 p4 p5 p6 p7 s3 g0 g1 g2 g3 g4 g5 g6 g7 h3
  rw [← h3] at q3
  obtain ⟨s4, h4⟩ : ∃ s4, s4 = s3 + s3 / 256 := ⟨_, rfl⟩
  obtain ⟨s5, h5⟩ : ∃ s5, s5 = s4 + s4 / 65536 := ⟨_, rfl⟩
  obtain ⟨s6, h6⟩ : ∃ s6, s6 = s5 + s5 / 4294967296 := ⟨_, rfl⟩
  rw [← h4, ← h5, ← h6, ← hpc] at v6
  rw [← h4, ← h5, ← h6] at b6
  rw [← h4, ← h5] at b5
  rw [← h4] at b4
  clear h3 g0 g1 g2 g3 g4 g5 g6 g7 hpc
  have u1 : ∀ a b : Nat, a < 18446744073709551616 → b < 18446744073709551616 → bits BinOp.and IntKind.u64 (a : Int) (b : Int) = ((a &&& b : Nat) : Int) := and_u64_nat
  refine ones_core x s1 s2 s3 s4 s5 s6 (pc x) w ?_ ?_ ?_ ?_ ?_ ?_ ?_
  · rw [show ((x : Int) / 2) = ((x / 2 : Nat) : Int) from by omega]
    have a1 : bits BinOp.and IntKind.u64 ((x / 2 : Nat) : Int) 6148914691236517205 = ((x / 2 &&& 6148914691236517205 : Nat) : Int) := u1 (x / 2) 6148914691236517205 (by omega) (by decide)
    have a2 : bits BinOp.and IntKind.u64 (x : Int) 6148914691236517205 = ((x &&& 6148914691236517205 : Nat) : Int) := u1 x 6148914691236517205 hx (by decide)
    rw [a1, a2, IntKind.wrap_u64]
    omega
  · rw [show ((s1 : Int) / 4) = ((s1 / 4 : Nat) : Int) from by omega]
    have a1 : bits BinOp.and IntKind.u64 ((s1 / 4 : Nat) : Int) 3689348814741910323 = ((s1 / 4 &&& 3689348814741910323 : Nat) : Int) := u1 (s1 / 4) 3689348814741910323 (by omega) (by decide)
    have a2 : bits BinOp.and IntKind.u64 (s1 : Int) 3689348814741910323 = ((s1 &&& 3689348814741910323 : Nat) : Int) := u1 s1 3689348814741910323 (by omega) (by decide)
    rw [a1, a2, IntKind.wrap_u64]
    omega
  · have e : IntKind.u64.wrap ((s2 : Int) / 16 + (s2 : Int)) = ((s2 / 16 + s2 : Nat) : Int) := by rw [IntKind.wrap_u64]; omega
    have a1 : bits BinOp.and IntKind.u64 ((s2 / 16 + s2 : Nat) : Int) 1085102592571150095 = (((s2 / 16 + s2) &&& 1085102592571150095 : Nat) : Int) := u1 (s2 / 16 + s2) 1085102592571150095 (by omega) (by decide)
    rw [e, a1, q3]
  · rw [IntKind.wrap_u64]; omega
  · rw [IntKind.wrap_u64]; omega
  · rw [IntKind.wrap_u64]; omega
  · have e : wrap64 (s6 : Int) = (s6 : Int) := IntWalk.wrap64_in _ ⟨by omega, by omega⟩
    have a1 : bits BinOp.and IntKind.i64 (s6 : Int) 127 = ((s6 &&& 127 : Nat) : Int) := and_i64 s6 127 (by omega) (by decide)
    rw [e, a1, nat_mask7, v6]
end Go.Proofs.Ytonfcmngokmgpaa
