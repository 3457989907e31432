/-
  Several texts in one: Bnd BndW GbW.
-/
import Derived.WalkKit
import Derived.Test.YtibpnemeehkdbaaDoorProg
import Derived.WalkSpells
import Derived.WalkLawsBesides
import Derived.Lib.Hide
namespace Go.Proofs.YtibpnemeehkdbaaDoor
set_option maxRecDepth 100000
open Go.RowKit

/-- b^n, behind a name. -/
def pw (b n : Nat) : Nat := b ^ n
theorem pw_zero (b : Nat) : pw b 0 = 1 := by simp [pw]
theorem pw_succ (b n : Nat) : pw b (n + 1) = pw b n * b := by unfold pw; exact Nat.pow_succ ..
/-- b^0 + .. + b^(n-1). -/
def sumP (b : Nat) : Nat → Nat
  | 0 => 0
  | n + 1 => sumP b n + pw b n
theorem sumP_succ (b n : Nat) : sumP b (n + 1) = sumP b n + pw b n := rfl
theorem sumP_mono (b n d : Nat) : sumP b n ≤ sumP b (n + d) := by
  induction d with
  | zero => exact Nat.le_refl _
  | succ d ih => rw [← Nat.add_assoc, sumP_succ]; omega
theorem sumP_le {b n m : Nat} (h : n ≤ m) : sumP b n ≤ sumP b m := by
  have := sumP_mono b n (m - n)
  rwa [show n + (m - n) = m by omega] at this

/-- A number, and 10^12 + 1 if it is greater. -/
def cap12 (x : Nat) : Nat := min x 1000000000001
theorem cap12_le (x : Nat) : cap12 x ≤ 1000000000001 := Nat.min_le_right _ _
theorem cap12_add (x y : Nat) : min (cap12 x + cap12 y) 1000000000001 = cap12 (x + y) := by unfold cap12; omega
theorem cap12_mul (x b : Nat) : min (cap12 x * b) 1000000000001 = cap12 (x * b) := by
  unfold cap12
  rcases Nat.le_total x 1000000000001 with h | h
  · rw [Nat.min_eq_left h]
  · rw [Nat.min_eq_right h]
    rcases Nat.eq_zero_or_pos b with rfl | hb
    · simp
    · have h1 : 1000000000001 ≤ 1000000000001 * b := Nat.le_mul_of_pos_right _ hb
      have h2 : 1000000000001 ≤ x * b := Nat.le_trans h (Nat.le_mul_of_pos_right _ hb)
      omega
theorem cap12_small {x : Nat} (h : x ≤ 1000000000000) : cap12 x = x := by unfold cap12; omega
theorem cap12_big {x : Nat} (h : 1000000000000 < x) : cap12 x = 1000000000001 := by unfold cap12; omega

/-- The next power is at most 61 times the sum so far, and 1 at the start. -/
theorem pow_le_sum (b n : Nat) (hb : b ≤ 61) : pw b n ≤ 61 * sumP b n + 1 := by
  cases n with
  | zero => simp [pw]
  | succ n =>
    rw [sumP_succ, pw_succ]
    have : pw b n * b ≤ pw b n * 61 := Nat.mul_le_mul_left _ hb
    omega

/-- A bound and its code. -/
def bdV (x : Nat) : Int := if x ≤ 1000000000000 then x else 0
def bdC (x : Nat) : Int := if x ≤ 1000000000000 then 0 else 3
/-- What the sum of the program may be: the sum, or something beyond 10^12 where it is beyond. -/
def SumOk (b n : Nat) (r : Nat) : Prop := (sumP b n ≤ 1000000000000 → r = sumP b n) ∧ (1000000000000 < sumP b n → 1000000000000 < r) ∧ r ≤ 62000000000001
theorem SumOk.odd {b n r k : Nat} (h : SumOk b n r) (hk : 1 ≤ k) : bdV (1 + k * r) = bdV (1 + k * sumP b n) ∧ bdC (1 + k * r) = bdC (1 + k * sumP b n) := by
  rcases Nat.lt_or_ge 1000000000000 (sumP b n) with g | g
  rotate_left
  · rw [h.1 g]; exact ⟨rfl, rfl⟩
  · have h1 := h.2.1 g
    have e1 : r ≤ k * r := Nat.le_mul_of_pos_left _ hk
    have e2 : sumP b n ≤ k * sumP b n := Nat.le_mul_of_pos_left _ hk
    unfold bdV bdC
    rw [if_neg (by omega), if_neg (by omega), if_neg (by omega), if_neg (by omega)]
    exact ⟨rfl, rfl⟩
theorem SumOk.even {b n r : Nat} (h : SumOk b n r) : bdV (2 * r) = bdV (2 * sumP b n) ∧ bdC (2 * r) = bdC (2 * sumP b n) := by
  rcases Nat.lt_or_ge 1000000000000 (sumP b n) with g | g
  rotate_left
  · rw [h.1 g]; exact ⟨rfl, rfl⟩
  · have h1 := h.2.1 g
    unfold bdV bdC
    rw [if_neg (by omega), if_neg (by omega), if_neg (by omega), if_neg (by omega)]
    exact ⟨rfl, rfl⟩
theorem SumOk.cap (b n : Nat) : SumOk b n (cap12 (sumP b n)) := ⟨fun h => cap12_small h, fun h => by rw [cap12_big h]; omega, Nat.le_trans (cap12_le _) (by omega)⟩
theorem SumOk.sum (b n : Nat) (h : sumP b n ≤ 1000000000000) : SumOk b n (sumP b n) := ⟨fun _ => rfl, fun h => by omega, by omega⟩
theorem SumOk.over {b n m : Nat} (hm : m < n) (hb : b ≤ 61) (h : sumP b m ≤ 1000000000000) (h2 : 1000000000000 < sumP b (m + 1)) : SumOk b n (sumP b (m + 1)) :=
  ⟨fun g => by have := sumP_le (b := b) (show m + 1 ≤ n by omega); omega, fun _ => h2, by have := pow_le_sum b m hb; rw [sumP_succ]; omega⟩
end Go.Proofs.YtibpnemeehkdbaaDoor
namespace Go.Proofs.YtibpnemeehkdbaaDoor
set_option maxRecDepth 100000
open Go.RowKit

theorem rint {k : IntKind} {a b : Int} (h : a = b) : Ending.returned (.int k a) = .returned (.int k b) := by rw [h]
theorem rint2 {k : IntKind} {a b c d : Int} (h : a = b) (h2 : c = d) : Ending.returned (.tuple #[.int k a, .int k c]) = .returned (.tuple #[.int k b, .int k d]) := by rw [h, h2]

theorem cap_add_i (x y : Nat) : (if (1000000000001 : Int) < (cap12 x : Int) + (cap12 y : Int) then (1000000000001 : Int) else (cap12 x : Int) + (cap12 y : Int)) = ((cap12 (x + y) : Nat) : Int) := by
  rw [← cap12_add]; split <;> omega
theorem cap_mul_i (x b : Nat) : (if (1000000000001 : Int) < (cap12 x : Int) * (b : Int) then (1000000000001 : Int) else (cap12 x : Int) * (b : Int)) = ((cap12 (x * b) : Nat) : Int) := by
  rw [← cap12_mul, ← Int.natCast_mul]; split <;> omega
theorem cap_prod (x b : Nat) (hb : b ≤ 61) : 0 ≤ (cap12 x : Int) * (b : Int) ∧ (cap12 x : Int) * (b : Int) ≤ 61000000000061 := by
  have h := cap12_le x
  have h1 : cap12 x * b ≤ 1000000000001 * 61 := Nat.mul_le_mul h hb
  rw [← Int.natCast_mul]
  omega

set_option maxHeartbeats 800000 in
theorem l02Sum_any (b n : Nat) (w : World) (hb : b ≤ 61) (hn : n ≤ 62) :
    Calls Tryd.prog 41 #[.int .i64 ((b : Int) + 1), .int .i64 n] w fun e w' => e = .returned (.int .i64 (cap12 (sumP b n))) ∧ w = w' := by
  have hk0 : (0 : Int) ≤ (b : Int) + 1 := by omega
  have hk1 : (b : Int) + 1 ≤ 62 := by omega
  have hkk : (b : Int) + 1 - 1 = b := by omega
  have HK := Lib.hid hkk; clear hkk
  go_enter Tryd.func41, Tryd.ntmps41
  go_wp2
  go_loop [5, 6, 7] (fun s p i => ∃ k : Nat, k ≤ n ∧ i = .int .i64 k ∧ s = .int .i64 (cap12 (sumP b k)) ∧ p = .int .i64 (cap12 (pw b k))) (fun _ _ i => n - (intOf i).toNat)
  case atStart => exact ⟨0, Nat.zero_le _, rfl, rfl, rfl⟩
  case round =>
    obtain ⟨k, hk, rfl, rfl, rfl⟩ := hrel
    by_cases hlt : (k : Int) < n
    · have c1 := cap12_le (sumP b k)
      have c2 := cap12_le (pw b k)
      obtain ⟨p0, p1⟩ := cap_prod (pw b k) b hb
      have HA := Lib.hid (cap_add_i (sumP b k) (pw b k))
      have HM := Lib.hid (cap_mul_i (pw b k) b)
      have hs : (cap12 (sumP b k) : Int) + (cap12 (pw b k) : Int) ≤ 2000000000002 := by omega
      have hs0 : 0 ≤ (cap12 (sumP b k) : Int) + (cap12 (pw b k) : Int) := by omega
      have hkk := HK.out
      go_wp2
      go_round
      case rel =>
        refine ⟨k + 1, by omega, by go_num, ?_, ?_⟩
        · rw [HA.out]; rfl
        · rw [HM.out, ← pw_succ]
      case measure => simp [intOf]; omega
    · have hkn : k = n := by omega
      subst hkn
      go_wp2
      go_ret
      exact ⟨rfl, rfl⟩

/-- What the program's sum answers. -/
def SumRes (b n : Nat) (e : Ending) : Prop := ∃ r : Nat, e = .returned (.int .i64 r) ∧ SumOk b n r

set_option maxHeartbeats 800000 in
theorem sumOf_any (b n : Nat) (w : World) (hb : b ≤ 61) (hn : n ≤ 62) :
    Calls Tryd.prog 48 #[.int .i64 b, .int .i64 n] w fun e w' => SumRes b n e ∧ w = w' := by
  go_enter Tryd.func48, Tryd.ntmps48
  go_wp2
  go_loop [5, 6, 8] (fun s p i => ∃ k : Nat, k ≤ n ∧ i = .int .i64 k ∧ s = .int .i64 (sumP b k : Nat) ∧ p = .int .i64 (pw b k : Nat) ∧ sumP b k ≤ 1000000000000) (fun _ _ i => n - (intOf i).toNat)
  case atStart => exact ⟨0, Nat.zero_le _, rfl, rfl, rfl, by simp [sumP]⟩
  case round =>
    obtain ⟨k, hk, rfl, rfl, rfl, hle⟩ := hrel
    by_cases hlt : (k : Int) < n
    · have hp := pow_le_sum b k hb
      have HS : Hid (((sumP b k : Nat) : Int) + ((pw b k : Nat) : Int) = ((sumP b (k + 1) : Nat) : Int)) := by show _ = _; rw [sumP_succ]; omega
      have HM : Hid (((pw b k : Nat) : Int) * (b : Int) = ((pw b (k + 1) : Nat) : Int)) := by show _ = _; rw [pw_succ]; simp
      have hm1 : pw b k * b ≤ pw b k * 61 := Nat.mul_le_mul_left _ hb
      have q0 : 0 ≤ ((pw b k : Nat) : Int) * (b : Int) := by rw [← Int.natCast_mul]; omega
      have q1 : ((pw b k : Nat) : Int) * (b : Int) ≤ 3721000000000061 := by rw [← Int.natCast_mul]; omega
      have s0 : 0 ≤ ((sumP b k : Nat) : Int) + ((pw b k : Nat) : Int) := by omega
      have s1 : ((sumP b k : Nat) : Int) + ((pw b k : Nat) : Int) ≤ 62000000000001 := by omega
      by_cases hbig : (1000000000000 : Int) < ((sumP b k : Nat) : Int) + ((pw b k : Nat) : Int)
      · have hsb : 1000000000000 < sumP b (k + 1) := by rw [sumP_succ]; omega
        have HO := Lib.hid (SumOk.over (n := n) (by omega) hb hle hsb)
        clear hm1 hsb
        go_wp2
        go_ret
        exact ⟨⟨_, rint HS.out, HO.out⟩, rfl⟩
      · have hsb : sumP b (k + 1) ≤ 1000000000000 := by rw [sumP_succ]; omega
        clear hm1
        go_wp2
        go_round
        case rel => exact ⟨k + 1, by omega, by go_num, by rw [HS.out], by rw [HM.out], hsb⟩
        case measure => simp [intOf]; omega
    · have hkn : k = n := by omega
      subst hkn
      have HO := Lib.hid (SumOk.sum b k hle)
      go_wp2
      go_ret
      exact ⟨⟨_, rfl, HO.out⟩, rfl⟩

set_option maxHeartbeats 400000 in
theorem in_yn (a b c : Int) (w : World) (r : Bool) (h : (decide (b ≤ a) && decide (a ≤ c)) = r) :
    Calls Tryd.prog 32 #[.int .i64 a, .int .i64 b, .int .i64 c] w fun e w' => e = .returned (.bool r) ∧ w = w' := by
  subst h
  by_cases h : b ≤ a
  · have h' : decide (b ≤ a) = true := by simpa using h
    have h2 : (decide (b ≤ a) && decide (a ≤ c)) = decide (a ≤ c) := by rw [h']; rfl
    rw [h2]; clear h2
    go_enter Tryd.func32, Tryd.ntmps32
    go_wp2
    go_ret
    exact ⟨rfl, rfl⟩
  · have h' : decide (b ≤ a) = false := by simpa using h
    have h2 : (decide (b ≤ a) && decide (a ≤ c)) = false := by rw [h']; rfl
    rw [h2]; clear h2
    go_enter Tryd.func32, Tryd.ntmps32
    go_wp2
    go_ret
    exact ⟨rfl, rfl⟩

theorem bd_ret (x : Nat) (h : x ≤ 1000000000000) : Ending.returned (.tuple #[.int .i64 x, .int .i64 0]) = .returned (.tuple #[.int .i64 (bdV x), .int .i64 (bdC x)]) := by unfold bdV bdC; rw [if_pos h, if_pos h]
theorem bd_ret3 (x : Nat) (h : ¬ x ≤ 1000000000000) : Ending.returned (.tuple #[.int .i64 0, .int .i64 3]) = .returned (.tuple #[.int .i64 (bdV x), .int .i64 (bdC x)]) := by unfold bdV bdC; rw [if_neg h, if_neg h]

set_option maxHeartbeats 400000 in
theorem limit_any (x : Nat) (w : World) :
    Calls Tryd.prog 47 #[.int .i64 x] w fun e w' => e = .returned (.tuple #[.int .i64 (bdV x), .int .i64 (bdC x)]) ∧ w = w' := by
  by_cases h : (1000000000000 : Int) < x
  · have HX := Lib.hid (bd_ret3 x (by omega))
    go_enter Tryd.func47, Tryd.ntmps47
    go_wp2
    go_ret2
    exact ⟨HX.out, rfl⟩
  · have HX := Lib.hid (bd_ret x (by omega))
    go_enter Tryd.func47, Tryd.ntmps47
    go_wp2
    go_ret2
    exact ⟨HX.out, rfl⟩
end Go.Proofs.YtibpnemeehkdbaaDoor
namespace Go.Proofs.YtibpnemeehkdbaaDoor
set_option maxRecDepth 100000
open Go.RowKit

/-- The girth bound of k and g, and its code. -/
def gbOk (k g : Int) : Bool := decide (2 ≤ k) && decide (k ≤ 62) && (decide (3 ≤ g) && decide (g ≤ 62))
def gbN (k g : Nat) : Nat := if g % 2 = 1 then 1 + k * sumP (k - 1) ((g - 1) / 2) else 2 * sumP (k - 1) (g / 2)
def gbV (k g : Int) : Int := if gbOk k g then bdV (gbN k.toNat g.toNat) else 0
def gbC (k g : Int) : Int := if gbOk k g then bdC (gbN k.toNat g.toNat) else 2

theorem mul_bd' (k r : Nat) (hk : k ≤ 62) (hr : r ≤ 62000000000001) : 0 ≤ (k : Int) * (r : Int) ∧ (k : Int) * (r : Int) ≤ 3844000000000062 ∧ 1 + (k : Int) * (r : Int) = ((1 + k * r : Nat) : Int) := by
  have h : k * r ≤ 62 * 62000000000001 := Nat.mul_le_mul hk hr
  have e : (k : Int) * (r : Int) = ((k * r : Nat) : Int) := by simp
  rw [e]
  omega

set_option maxHeartbeats 800000 in
theorem l02Bound_odd (k h : Nat) (w : World) (h1 : 2 ≤ k) (h2 : k ≤ 62) (h3 : h ≤ 31) :
    Calls Tryd.prog 23 #[.int .i64 k, .int .i64 (2 * (h : Int) + 1)] w fun e w' => e = .returned (.int .i64 ((1 + k * cap12 (sumP (k - 1) h) : Nat) : Int)) ∧ w = w' := by
  have hs := fun W => l02Sum_any (k - 1) h W (by omega) (by omega)
  rw [show (((k - 1 : Nat) : Int) + 1) = (k : Int) by omega] at hs
  obtain ⟨m0, m1, m2⟩ := mul_bd' k (cap12 (sumP (k - 1) h)) h2 (by have := cap12_le (sumP (k - 1) h); omega)
  have HM := Lib.hid m2; clear m2
  have g0 : (0 : Int) ≤ 2 * (h : Int) + 1 := by omega
  have g1 : 2 * (h : Int) + 1 ≤ 63 := by omega
  have t1 : ((2 * (h : Int) + 1) % 2 == 1) = true := by rw [beq_iff_eq]; omega
  have d1 : (2 * (h : Int) + 1 - 1) / 2 = (h : Int) := by omega
  have d2 : (2 * (h : Int) / 2) = (h : Int) := by omega
  go_enter Tryd.func23, Tryd.ntmps23
  go_wp2_with (go_at_call 41; refine (hs _).mono ?_; rintro e w' ⟨rfl, rfl⟩)
  go_ret
  exact ⟨rint HM.out, rfl⟩

set_option maxHeartbeats 800000 in
theorem l02Bound_even (k h : Nat) (w : World) (h1 : 2 ≤ k) (h2 : k ≤ 62) (h3 : h ≤ 31) :
    Calls Tryd.prog 23 #[.int .i64 k, .int .i64 (2 * (h : Int))] w fun e w' => e = .returned (.int .i64 ((2 * cap12 (sumP (k - 1) h) : Nat) : Int)) ∧ w = w' := by
  have hs := fun W => l02Sum_any (k - 1) h W (by omega) (by omega)
  rw [show (((k - 1 : Nat) : Int) + 1) = (k : Int) by omega] at hs
  have hc := cap12_le (sumP (k - 1) h)
  have g0 : (0 : Int) ≤ 2 * (h : Int) := by omega
  have g1 : 2 * (h : Int) ≤ 62 := by omega
  have t1 : ((2 * (h : Int)) % 2 == 1) = false := by rw [beq_eq_false_iff_ne]; omega
  have d2 : (2 * (h : Int) / 2) = (h : Int) := by omega
  go_enter Tryd.func23, Tryd.ntmps23
  go_wp2_with (go_at_call 41; refine (hs _).mono ?_; rintro e w' ⟨rfl, rfl⟩)
  go_ret
  exact ⟨rint (by omega), rfl⟩

theorem gb_odd (k h : Nat) : gbN k (2 * h + 1) = 1 + k * sumP (k - 1) h := by
  unfold gbN; rw [if_pos (by omega), show (2 * h + 1 - 1) / 2 = h by omega]
theorem gb_even (k h : Nat) : gbN k (2 * h) = 2 * sumP (k - 1) h := by
  unfold gbN; rw [if_neg (by omega), show 2 * h / 2 = h by omega]

set_option maxHeartbeats 800000 in
theorem implGb_odd (k h : Nat) (w : World) (h1 : 2 ≤ k) (h2 : k ≤ 62) (h3 : 1 ≤ h) (h4 : h ≤ 30) :
    Calls Tryd.prog 28 #[.int .i64 k, .int .i64 (2 * (h : Int) + 1)] w fun e w' => e = .returned (.tuple #[.int .i64 (bdV (1 + k * sumP (k - 1) h)), .int .i64 (bdC (1 + k * sumP (k - 1) h))]) ∧ w = w' := by
  have hs := fun W => sumOf_any (k - 1) h W (by omega) (by omega)
  rw [show (((k - 1 : Nat) : Int)) = (k : Int) - 1 by omega] at hs
  have t1 : decide ((k : Int) < 2) = false := by simp; omega
  have t2 : decide ((62 : Int) < k) = false := by simp; omega
  have t3 : decide (2 * (h : Int) + 1 < 3) = false := by simp; omega
  have t4 : decide ((62 : Int) < 2 * (h : Int) + 1) = false := by simp; omega
  have g0 : (0 : Int) ≤ 2 * (h : Int) + 1 := by omega
  have g1 : 2 * (h : Int) + 1 ≤ 63 := by omega
  have t5 : ((2 * (h : Int) + 1) % 2 == 1) = true := by rw [beq_iff_eq]; omega
  have d1 : (2 * (h : Int) + 1 - 1) / 2 = (h : Int) := by omega
  have d2 : (2 * (h : Int) / 2) = (h : Int) := by omega
  go_enter Tryd.func28, Tryd.ntmps28
  go_wp2_with fail
  refine (hs _).mono ?_
  rintro e w' ⟨⟨r, rfl, hr⟩, rfl⟩
  obtain ⟨m0, m1, m2⟩ := mul_bd' k r h2 hr.2.2
  have ht := fun W => limit_any (1 + k * r) W
  rw [← m2] at ht
  have HE := Lib.hid (hr.odd (show 1 ≤ k by omega))
  clear m2 hr
  go_wp2_with (go_at_call 47; refine (ht _).mono ?_; rintro e w' ⟨rfl, rfl⟩)
  go_ret2
  exact ⟨rint2 HE.out.1 HE.out.2, rfl⟩

set_option maxHeartbeats 800000 in
theorem implGb_even (k h : Nat) (w : World) (h1 : 2 ≤ k) (h2 : k ≤ 62) (h3 : 2 ≤ h) (h4 : h ≤ 31) :
    Calls Tryd.prog 28 #[.int .i64 k, .int .i64 (2 * (h : Int))] w fun e w' => e = .returned (.tuple #[.int .i64 (bdV (2 * sumP (k - 1) h)), .int .i64 (bdC (2 * sumP (k - 1) h))]) ∧ w = w' := by
  have hs := fun W => sumOf_any (k - 1) h W (by omega) (by omega)
  rw [show (((k - 1 : Nat) : Int)) = (k : Int) - 1 by omega] at hs
  have t1 : decide ((k : Int) < 2) = false := by simp; omega
  have t2 : decide ((62 : Int) < k) = false := by simp; omega
  have t3 : decide (2 * (h : Int) < 3) = false := by simp; omega
  have t4 : decide ((62 : Int) < 2 * (h : Int)) = false := by simp; omega
  have g0 : (0 : Int) ≤ 2 * (h : Int) := by omega
  have g1 : 2 * (h : Int) ≤ 62 := by omega
  have t5 : ((2 * (h : Int)) % 2 == 1) = false := by rw [beq_eq_false_iff_ne]; omega
  have d2 : (2 * (h : Int) / 2) = (h : Int) := by omega
  go_enter Tryd.func28, Tryd.ntmps28
  go_wp2_with fail
  refine (hs _).mono ?_
  rintro e w' ⟨⟨r, rfl, hr⟩, rfl⟩
  have hr1 := hr.2.2
  have m2 : 2 * (r : Int) = ((2 * r : Nat) : Int) := by omega
  have ht := fun W => limit_any (2 * r) W
  rw [← m2] at ht
  have HE := Lib.hid hr.even
  clear m2 hr
  go_wp2_with (go_at_call 47; refine (ht _).mono ?_; rintro e w' ⟨rfl, rfl⟩)
  go_ret2
  exact ⟨rint2 HE.out.1 HE.out.2, rfl⟩

set_option maxHeartbeats 800000 in
theorem implGb_no (k g : Int) (w : World) (h : gbOk k g = false) :
    Calls Tryd.prog 28 #[.int .i64 k, .int .i64 g] w fun e w' => e = .returned (.tuple #[.int .i64 0, .int .i64 2]) ∧ w = w' := by
  unfold gbOk at h
  by_cases a1 : k < 2
  · clear h
    go_enter Tryd.func28, Tryd.ntmps28
    go_wp2
    go_ret2
    exact ⟨rfl, rfl⟩
  · by_cases a2 : 62 < k
    · clear h
      go_enter Tryd.func28, Tryd.ntmps28
      go_wp2
      go_ret2
      exact ⟨rfl, rfl⟩
    · by_cases a3 : g < 3
      · clear h
        go_enter Tryd.func28, Tryd.ntmps28
        go_wp2
        go_ret2
        exact ⟨rfl, rfl⟩
      · have a4 : 62 < g := by
          have e1 : decide (2 ≤ k) = true := by simp; omega
          have e2 : decide (k ≤ 62) = true := by simp; omega
          have e3 : decide (3 ≤ g) = true := by simp; omega
          rw [e1, e2, e3] at h
          simpa using h
        clear h
        go_enter Tryd.func28, Tryd.ntmps28
        go_wp2
        go_ret2
        exact ⟨rfl, rfl⟩

theorem gb_nat {k g : Int} (h : gbOk k g = true) : ∃ a b : Nat, k = a ∧ 2 ≤ a ∧ a ≤ 62 ∧ ((g = 2 * (b : Int) + 1 ∧ 1 ≤ b ∧ b ≤ 30) ∨ (g = 2 * (b : Int) ∧ 2 ≤ b ∧ b ≤ 31)) := by
  unfold gbOk at h
  simp only [Bool.and_eq_true, decide_eq_true_eq] at h
  exact ⟨k.toNat, g.toNat / 2, by omega, by omega, by omega, by omega⟩

theorem implGb_any (k g : Int) (w : World) : Calls Tryd.prog 28 #[.int .i64 k, .int .i64 g] w fun e w' => e = .returned (.tuple #[.int .i64 (gbV k g), .int .i64 (gbC k g)]) ∧ w = w' := by
  unfold gbV gbC
  cases h : gbOk k g
  · exact implGb_no k g w h
  · simp only [if_true]
    obtain ⟨a, b, rfl, h1, h2, ⟨rfl, h3, h4⟩ | ⟨rfl, h3, h4⟩⟩ := gb_nat h
    · rw [show (2 * (b : Int) + 1).toNat = 2 * b + 1 by omega, Int.toNat_natCast, gb_odd]
      exact implGb_odd a b w h1 h2 h3 h4
    · rw [show (2 * (b : Int)).toNat = 2 * b by omega, Int.toNat_natCast, gb_even]
      exact implGb_even a b w h1 h2 h3 h4

end Go.Proofs.YtibpnemeehkdbaaDoor
