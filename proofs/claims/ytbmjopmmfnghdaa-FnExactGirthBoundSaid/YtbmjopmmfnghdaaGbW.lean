/-
  The girth bound: both programs.
-/
import Derived.Test.YtbmjopmmfnghdaaBndW
namespace Go.Proofs.Ytbmjopmmfnghdaa
open Go.RowKit

/-- The girth bound of k and g, and its code. -/
def gbOk (k g : Int) : Bool := decide (2 ≤ k) && decide (k ≤ 62) && (decide (3 ≤ g) && decide (g ≤ 62))
def gbN (k g : Nat) : Nat := if g % 2 = 1 then 1 + k * sumP (k - 1) ((g - 1) / 2) else 2 * sumP (k - 1) (g / 2)
def gbV (k g : Int) : Int := if gbOk k g then bdV (gbN k.toNat g.toNat) else 0
def gbC (k g : Int) : Int := if gbOk k g then bdC (gbN k.toNat g.toNat) else 2

theorem mul_bd' (k r : Nat) (hk : k ≤ 62) (hr : r ≤ 62000000000001) : 0 ≤ (k : Int) * (r : Int) ∧ (k : Int) * (r : Int) ≤ 3844000000000062 ∧ 1 + (k : Int) * (r : Int) = ((1 + k * r : Nat) : Int) := by
  have h : k * r ≤ 62 * 62000000000001 := Nat.mul_le_mul hk hr
  have e : (k : Int) * (r : Int) = ((k * r : Nat) : Int) := by simp
  rw [e]
  omega

set_option maxHeartbeats 800000 in
theorem l02Bound_odd (k h : Nat) (w : World) (h1 : 2 ≤ k) (h2 : k ≤ 62) (h3 : h ≤ 31) :
    Calls Try.prog 11 #[.int .i64 k, .int .i64 (2 * (h : Int) + 1)] w fun e w' => e = .returned (.int .i64 ((1 + k * cap12 (sumP (k - 1) h) : Nat) : Int)) ∧ w = w' := by
  have hs := fun W => l02Sum_any (k - 1) h W (by omega) (by omega)
  rw [show (((k - 1 : Nat) : Int) + 1) = (k : Int) by omega] at hs
  obtain ⟨m0, m1, m2⟩ := mul_bd' k (cap12 (sumP (k - 1) h)) h2 (by have := cap12_le (sumP (k - 1) h); omega)
  have HM := Lib.hid m2; clear m2
  have g0 : (0 : Int) ≤ 2 * (h : Int) + 1 := by omega
  have g1 : 2 * (h : Int) + 1 ≤ 63 := by omega
  have t1 : ((2 * (h : Int) + 1) % 2 == 1) = true := by rw [beq_iff_eq]; omega
  have d1 : (2 * (h : Int) + 1 - 1) / 2 = (h : Int) := by omega
  have d2 : (2 * (h : Int) / 2) = (h : Int) := by omega
  go_enter Try.func11, Try.ntmps11
  go_wp2_with (go_at_call 14; refine (hs _).mono ?_; rintro e w' ⟨rfl, rfl⟩)
  go_ret
  exact ⟨rint HM.out, rfl⟩

set_option maxHeartbeats 800000 in
theorem l02Bound_even (k h : Nat) (w : World) (h1 : 2 ≤ k) (h2 : k ≤ 62) (h3 : h ≤ 31) :
    Calls Try.prog 11 #[.int .i64 k, .int .i64 (2 * (h : Int))] w fun e w' => e = .returned (.int .i64 ((2 * cap12 (sumP (k - 1) h) : Nat) : Int)) ∧ w = w' := by
  have hs := fun W => l02Sum_any (k - 1) h W (by omega) (by omega)
  rw [show (((k - 1 : Nat) : Int) + 1) = (k : Int) by omega] at hs
  have hc := cap12_le (sumP (k - 1) h)
  have g0 : (0 : Int) ≤ 2 * (h : Int) := by omega
  have g1 : 2 * (h : Int) ≤ 62 := by omega
  have t1 : ((2 * (h : Int)) % 2 == 1) = false := by rw [beq_eq_false_iff_ne]; omega
  have d2 : (2 * (h : Int) / 2) = (h : Int) := by omega
  go_enter Try.func11, Try.ntmps11
  go_wp2_with (go_at_call 14; refine (hs _).mono ?_; rintro e w' ⟨rfl, rfl⟩)
  go_ret
  exact ⟨rint (by omega), rfl⟩

theorem gb_odd (k h : Nat) : gbN k (2 * h + 1) = 1 + k * sumP (k - 1) h := by
  unfold gbN; rw [if_pos (by omega), show (2 * h + 1 - 1) / 2 = h by omega]
theorem gb_even (k h : Nat) : gbN k (2 * h) = 2 * sumP (k - 1) h := by
  unfold gbN; rw [if_neg (by omega), show 2 * h / 2 = h by omega]

set_option maxHeartbeats 800000 in
theorem specGb_of (k g : Int) (x : Nat) (w : World) (h1 : 2 ≤ k) (h2 : k ≤ 62) (h3 : 3 ≤ g) (h4 : g ≤ 62)
    (hb : ∀ W, Calls Try.prog 11 #[.int .i64 k, .int .i64 g] W fun e w' => e = .returned (.int .i64 (x : Int)) ∧ W = w') :
    Calls Try.prog 5 #[.int .i64 k, .int .i64 g] w fun e w' => e = .returned (.tuple #[.int .i64 (bdV x), .int .i64 (bdC x)]) ∧ w = w' := by
  have i1 := fun W => in_yn k 2 62 W true (by simp; omega)
  have i2 := fun W => in_yn g 3 62 W true (by simp; omega)
  go_enter Try.func5, Try.ntmps5
  go_wp2_with (first | (go_at_call 9; with_reducible refine (i1 _).mono ?_; rintro e w' ⟨rfl, rfl⟩) | (go_at_call 9; with_reducible refine (i2 _).mono ?_; rintro e w' ⟨rfl, rfl⟩) | (go_at_call 11; refine (hb _).mono ?_; rintro e w' ⟨rfl, rfl⟩) | (go_at_call 10; refine (told_any _ _).mono ?_; rintro e w' ⟨rfl, rfl⟩))
  go_ret2
  exact ⟨rfl, rfl⟩

set_option maxHeartbeats 800000 in
theorem specGb_no (k g : Int) (w : World) (h : gbOk k g = false) :
    Calls Try.prog 5 #[.int .i64 k, .int .i64 g] w fun e w' => e = .returned (.tuple #[.int .i64 0, .int .i64 2]) ∧ w = w' := by
  unfold gbOk at h
  cases hk : (decide (2 ≤ k) && decide (k ≤ 62))
  · have i1 := fun W => in_yn k 2 62 W false hk
    clear h hk
    go_enter Try.func5, Try.ntmps5
    go_wp2_with (go_at_call 9; refine (i1 _).mono ?_; rintro e w' ⟨rfl, rfl⟩)
    go_ret2
    exact ⟨rfl, rfl⟩
  · rw [hk, Bool.true_and] at h
    have i1 := fun W => in_yn k 2 62 W true hk
    have i2 := fun W => in_yn g 3 62 W false h
    clear h hk
    go_enter Try.func5, Try.ntmps5
    go_wp2_with (first | (go_at_call 9; with_reducible refine (i1 _).mono ?_; rintro e w' ⟨rfl, rfl⟩) | (go_at_call 9; with_reducible refine (i2 _).mono ?_; rintro e w' ⟨rfl, rfl⟩))
    go_ret2
    exact ⟨rfl, rfl⟩

set_option maxHeartbeats 800000 in
theorem implGb_odd (k h : Nat) (w : World) (h1 : 2 ≤ k) (h2 : k ≤ 62) (h3 : 1 ≤ h) (h4 : h ≤ 30) :
    Calls Try.prog 6 #[.int .i64 k, .int .i64 (2 * (h : Int) + 1)] w fun e w' => e = .returned (.tuple #[.int .i64 (bdV (1 + k * sumP (k - 1) h)), .int .i64 (bdC (1 + k * sumP (k - 1) h))]) ∧ w = w' := by
  have hs := fun W => sumOf_any (k - 1) h W (by omega) (by omega)
  rw [show (((k - 1 : Nat) : Int)) = (k : Int) - 1 by omega] at hs
  have t1 : decide ((k : Int) < 2) = false := by simp; omega
  have t2 : decide ((62 : Int) < k) = false := by simp; omega
  have t3 : decide (2 * (h : Int) + 1 < 3) = false := by simp; omega
  have t4 : decide ((62 : Int) < 2 * (h : Int) + 1) = false := by simp; omega
  have g0 : (0 : Int) ≤ 2 * (h : Int) + 1 := by omega
  have g1 : 2 * (h : Int) + 1 ≤ 63 := by omega
  have t5 : ((2 * (h : Int) + 1) % 2 == 1) = true := by rw [beq_iff_eq]; omega
  have d1 : (2 * (h : Int) + 1 - 1) / 2 = (h : Int) := by omega
  have d2 : (2 * (h : Int) / 2) = (h : Int) := by omega
  go_enter Try.func6, Try.ntmps6
  go_wp2_with fail
  refine (hs _).mono ?_
  rintro e w' ⟨⟨r, rfl, hr⟩, rfl⟩
  obtain ⟨m0, m1, m2⟩ := mul_bd' k r h2 hr.2.2
  have ht := fun W => limit_any (1 + k * r) W
  rw [← m2] at ht
  have HE := Lib.hid (hr.odd (show 1 ≤ k by omega))
  clear m2 hr
  go_wp2_with (go_at_call 12; refine (ht _).mono ?_; rintro e w' ⟨rfl, rfl⟩)
  go_ret2
  exact ⟨rint2 HE.out.1 HE.out.2, rfl⟩

set_option maxHeartbeats 800000 in
theorem implGb_even (k h : Nat) (w : World) (h1 : 2 ≤ k) (h2 : k ≤ 62) (h3 : 2 ≤ h) (h4 : h ≤ 31) :
    Calls Try.prog 6 #[.int .i64 k, .int .i64 (2 * (h : Int))] w fun e w' => e = .returned (.tuple #[.int .i64 (bdV (2 * sumP (k - 1) h)), .int .i64 (bdC (2 * sumP (k - 1) h))]) ∧ w = w' := by
  have hs := fun W => sumOf_any (k - 1) h W (by omega) (by omega)
  rw [show (((k - 1 : Nat) : Int)) = (k : Int) - 1 by omega] at hs
  have t1 : decide ((k : Int) < 2) = false := by simp; omega
  have t2 : decide ((62 : Int) < k) = false := by simp; omega
  have t3 : decide (2 * (h : Int) < 3) = false := by simp; omega
  have t4 : decide ((62 : Int) < 2 * (h : Int)) = false := by simp; omega
  have g0 : (0 : Int) ≤ 2 * (h : Int) := by omega
  have g1 : 2 * (h : Int) ≤ 62 := by omega
  have t5 : ((2 * (h : Int)) % 2 == 1) = false := by rw [beq_eq_false_iff_ne]; omega
  have d2 : (2 * (h : Int) / 2) = (h : Int) := by omega
  go_enter Try.func6, Try.ntmps6
  go_wp2_with fail
  refine (hs _).mono ?_
  rintro e w' ⟨⟨r, rfl, hr⟩, rfl⟩
  have hr1 := hr.2.2
  have m2 : 2 * (r : Int) = ((2 * r : Nat) : Int) := by omega
  have ht := fun W => limit_any (2 * r) W
  rw [← m2] at ht
  have HE := Lib.hid hr.even
  clear m2 hr
  go_wp2_with (go_at_call 12; refine (ht _).mono ?_; rintro e w' ⟨rfl, rfl⟩)
  go_ret2
  exact ⟨rint2 HE.out.1 HE.out.2, rfl⟩

set_option maxHeartbeats 800000 in
theorem implGb_no (k g : Int) (w : World) (h : gbOk k g = false) :
    Calls Try.prog 6 #[.int .i64 k, .int .i64 g] w fun e w' => e = .returned (.tuple #[.int .i64 0, .int .i64 2]) ∧ w = w' := by
  unfold gbOk at h
  by_cases a1 : k < 2
  · clear h
    go_enter Try.func6, Try.ntmps6
    go_wp2
    go_ret2
    exact ⟨rfl, rfl⟩
  · by_cases a2 : 62 < k
    · clear h
      go_enter Try.func6, Try.ntmps6
      go_wp2
      go_ret2
      exact ⟨rfl, rfl⟩
    · by_cases a3 : g < 3
      · clear h
        go_enter Try.func6, Try.ntmps6
        go_wp2
        go_ret2
        exact ⟨rfl, rfl⟩
      · have a4 : 62 < g := by
          have e1 : decide (2 ≤ k) = true := by simp; omega
          have e2 : decide (k ≤ 62) = true := by simp; omega
          have e3 : decide (3 ≤ g) = true := by simp; omega
          rw [e1, e2, e3] at h
          simpa using h
        clear h
        go_enter Try.func6, Try.ntmps6
        go_wp2
        go_ret2
        exact ⟨rfl, rfl⟩

theorem gb_nat {k g : Int} (h : gbOk k g = true) : ∃ a b : Nat, k = a ∧ 2 ≤ a ∧ a ≤ 62 ∧ ((g = 2 * (b : Int) + 1 ∧ 1 ≤ b ∧ b ≤ 30) ∨ (g = 2 * (b : Int) ∧ 2 ≤ b ∧ b ≤ 31)) := by
  unfold gbOk at h
  simp only [Bool.and_eq_true, decide_eq_true_eq] at h
  exact ⟨k.toNat, g.toNat / 2, by omega, by omega, by omega, by omega⟩

theorem specGb_any (k g : Int) (w : World) : Calls Try.prog 5 #[.int .i64 k, .int .i64 g] w fun e w' => e = .returned (.tuple #[.int .i64 (gbV k g), .int .i64 (gbC k g)]) ∧ w = w' := by
  unfold gbV gbC
  cases h : gbOk k g
  · exact specGb_no k g w h
  · simp only [if_true]
    obtain ⟨a, b, rfl, h1, h2, ⟨rfl, h3, h4⟩ | ⟨rfl, h3, h4⟩⟩ := gb_nat h
    · rw [show (2 * (b : Int) + 1).toNat = 2 * b + 1 by omega, Int.toNat_natCast, gb_odd, ← ((SumOk.cap (a - 1) b).odd (show 1 ≤ a by omega)).1, ← ((SumOk.cap (a - 1) b).odd (show 1 ≤ a by omega)).2]
      exact specGb_of a _ _ w (by omega) (by omega) (by omega) (by omega) fun W => l02Bound_odd a b W h1 h2 (by omega)
    · rw [show (2 * (b : Int)).toNat = 2 * b by omega, Int.toNat_natCast, gb_even, ← (SumOk.cap (a - 1) b).even.1, ← (SumOk.cap (a - 1) b).even.2]
      exact specGb_of a _ _ w (by omega) (by omega) (by omega) (by omega) fun W => l02Bound_even a b W h1 h2 (by omega)
theorem implGb_any (k g : Int) (w : World) : Calls Try.prog 6 #[.int .i64 k, .int .i64 g] w fun e w' => e = .returned (.tuple #[.int .i64 (gbV k g), .int .i64 (gbC k g)]) ∧ w = w' := by
  unfold gbV gbC
  cases h : gbOk k g
  · exact implGb_no k g w h
  · simp only [if_true]
    obtain ⟨a, b, rfl, h1, h2, ⟨rfl, h3, h4⟩ | ⟨rfl, h3, h4⟩⟩ := gb_nat h
    · rw [show (2 * (b : Int) + 1).toNat = 2 * b + 1 by omega, Int.toNat_natCast, gb_odd]
      exact implGb_odd a b w h1 h2 h3 h4
    · rw [show (2 * (b : Int)).toNat = 2 * b by omega, Int.toNat_natCast, gb_even]
      exact implGb_even a b w h1 h2 h3 h4

set_option maxHeartbeats 800000 in
theorem lawGb (k g : Int) (w : World) : Calls Try.prog 3 #[.int .i64 k, .int .i64 g] w fun e w' => e = .returned (.bool true) ∧ w = w' := by
  have hs := fun W => specGb_any k g W
  have hi := fun W => implGb_any k g W
  generalize gbV k g = x at hs hi
  generalize gbC k g = y at hs hi
  have e1 : (x != x) = false := by simp
  have e2 : (y != y) = false := by simp
  go_enter Try.func3, Try.ntmps3
  go_wp2_with (first | (go_at_call 5; refine (hs _).mono ?_; rintro e w' ⟨rfl, rfl⟩) | (go_at_call 6; refine (hi _).mono ?_; rintro e w' ⟨rfl, rfl⟩))
  go_ret
  exact ⟨rfl, rfl⟩
end Go.Proofs.Ytbmjopmmfnghdaa
