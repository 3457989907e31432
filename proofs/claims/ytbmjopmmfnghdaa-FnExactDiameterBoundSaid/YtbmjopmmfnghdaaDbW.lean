/-
  The diameter bound: both programs.
-/
import Derived.Test.YtbmjopmmfnghdaaBndW
namespace Go.Proofs.Ytbmjopmmfnghdaa
open Go.RowKit

/-- The diameter bound of k and d, and its code. -/
def dbOk (k d : Int) : Bool := decide (1 ≤ k) && decide (k ≤ 62) && (decide (1 ≤ d) && decide (d ≤ 60))
def dbN (k d : Int) : Nat := 1 + k.toNat * sumP (k.toNat - 1) d.toNat
def dbV (k d : Int) : Int := if dbOk k d then bdV (dbN k d) else 0
def dbC (k d : Int) : Int := if dbOk k d then bdC (dbN k d) else 2

theorem mul_bd (k r : Nat) (hk : k ≤ 62) (hr : r ≤ 62000000000001) : 0 ≤ (k : Int) * (r : Int) ∧ (k : Int) * (r : Int) ≤ 3844000000000062 ∧ 1 + (k : Int) * (r : Int) = ((1 + k * r : Nat) : Int) := by
  have h : k * r ≤ 62 * 62000000000001 := Nat.mul_le_mul hk hr
  have e : (k : Int) * (r : Int) = ((k * r : Nat) : Int) := by simp
  rw [e]
  omega

set_option maxHeartbeats 800000 in
theorem specDb_yes (k d : Nat) (w : World) (h1 : 1 ≤ k) (h2 : k ≤ 62) (h3 : 1 ≤ d) (h4 : d ≤ 60) :
    Calls Try.prog 7 #[.int .i64 k, .int .i64 d] w fun e w' => e = .returned (.tuple #[.int .i64 (bdV (1 + k * sumP (k - 1) d)), .int .i64 (bdC (1 + k * sumP (k - 1) d))]) ∧ w = w' := by
  have i1 := fun W => in_yn (k : Int) 1 62 W true (by simp; omega)
  have i2 := fun W => in_yn (d : Int) 1 60 W true (by simp; omega)
  have hs := fun W => l02Sum_any (k - 1) d W (by omega) (by omega)
  rw [show (((k - 1 : Nat) : Int) + 1) = (k : Int) by omega] at hs
  obtain ⟨m0, m1, m2⟩ := mul_bd k (cap12 (sumP (k - 1) d)) h2 (by have := cap12_le (sumP (k - 1) d); omega)
  have ht := fun W => told_any (1 + k * cap12 (sumP (k - 1) d)) W
  rw [← m2] at ht
  have HE := Lib.hid ((SumOk.cap (k - 1) d).odd h1)
  clear m2
  go_enter Try.func7, Try.ntmps7
  go_wp2_with (first | (go_at_call 9; with_reducible refine (i1 _).mono ?_; rintro e w' ⟨rfl, rfl⟩) | (go_at_call 9; with_reducible refine (i2 _).mono ?_; rintro e w' ⟨rfl, rfl⟩) | (go_at_call 14; refine (hs _).mono ?_; rintro e w' ⟨rfl, rfl⟩) | (go_at_call 10; refine (ht _).mono ?_; rintro e w' ⟨rfl, rfl⟩))
  go_ret2
  exact ⟨rint2 HE.out.1 HE.out.2, rfl⟩

set_option maxHeartbeats 800000 in
theorem specDb_no (k d : Int) (w : World) (h : dbOk k d = false) :
    Calls Try.prog 7 #[.int .i64 k, .int .i64 d] w fun e w' => e = .returned (.tuple #[.int .i64 0, .int .i64 2]) ∧ w = w' := by
  unfold dbOk at h
  cases hk : (decide (1 ≤ k) && decide (k ≤ 62))
  · have i1 := fun W => in_yn k 1 62 W false hk
    clear h hk
    go_enter Try.func7, Try.ntmps7
    go_wp2_with (go_at_call 9; refine (i1 _).mono ?_; rintro e w' ⟨rfl, rfl⟩)
    go_ret2
    exact ⟨rfl, rfl⟩
  · rw [hk, Bool.true_and] at h
    have i1 := fun W => in_yn k 1 62 W true hk
    have i2 := fun W => in_yn d 1 60 W false h
    clear h hk
    go_enter Try.func7, Try.ntmps7
    go_wp2_with (first | (go_at_call 9; with_reducible refine (i1 _).mono ?_; rintro e w' ⟨rfl, rfl⟩) | (go_at_call 9; with_reducible refine (i2 _).mono ?_; rintro e w' ⟨rfl, rfl⟩))
    go_ret2
    exact ⟨rfl, rfl⟩

set_option maxHeartbeats 800000 in
theorem implDb_yes (k d : Nat) (w : World) (h1 : 1 ≤ k) (h2 : k ≤ 62) (h3 : 1 ≤ d) (h4 : d ≤ 60) :
    Calls Try.prog 8 #[.int .i64 k, .int .i64 d] w fun e w' => e = .returned (.tuple #[.int .i64 (bdV (1 + k * sumP (k - 1) d)), .int .i64 (bdC (1 + k * sumP (k - 1) d))]) ∧ w = w' := by
  have hs := fun W => sumOf_any (k - 1) d W (by omega) (by omega)
  rw [show (((k - 1 : Nat) : Int)) = (k : Int) - 1 by omega] at hs
  have t1 : decide ((k : Int) < 1) = false := by simp; omega
  have t2 : decide ((62 : Int) < k) = false := by simp; omega
  have t3 : decide ((d : Int) < 1) = false := by simp; omega
  have t4 : decide ((60 : Int) < d) = false := by simp; omega
  go_enter Try.func8, Try.ntmps8
  go_wp2_with fail
  refine (hs _).mono ?_
  rintro e w' ⟨⟨r, rfl, hr⟩, rfl⟩
  obtain ⟨m0, m1, m2⟩ := mul_bd k r h2 hr.2.2
  have ht := fun W => limit_any (1 + k * r) W
  rw [← m2] at ht
  have HE := Lib.hid (hr.odd h1)
  clear m2 hr
  go_wp2_with (go_at_call 12; refine (ht _).mono ?_; rintro e w' ⟨rfl, rfl⟩)
  go_ret2
  exact ⟨rint2 HE.out.1 HE.out.2, rfl⟩

set_option maxHeartbeats 800000 in
theorem implDb_no (k d : Int) (w : World) (h : dbOk k d = false) :
    Calls Try.prog 8 #[.int .i64 k, .int .i64 d] w fun e w' => e = .returned (.tuple #[.int .i64 0, .int .i64 2]) ∧ w = w' := by
  unfold dbOk at h
  by_cases a1 : k < 1
  · clear h
    go_enter Try.func8, Try.ntmps8
    go_wp2
    go_ret2
    exact ⟨rfl, rfl⟩
  · by_cases a2 : 62 < k
    · clear h
      go_enter Try.func8, Try.ntmps8
      go_wp2
      go_ret2
      exact ⟨rfl, rfl⟩
    · by_cases a3 : d < 1
      · clear h
        go_enter Try.func8, Try.ntmps8
        go_wp2
        go_ret2
        exact ⟨rfl, rfl⟩
      · have a4 : 60 < d := by
          have e1 : decide (1 ≤ k) = true := by simp; omega
          have e2 : decide (k ≤ 62) = true := by simp; omega
          have e3 : decide (1 ≤ d) = true := by simp; omega
          rw [e1, e2, e3] at h
          simpa using h
        clear h
        go_enter Try.func8, Try.ntmps8
        go_wp2
        go_ret2
        exact ⟨rfl, rfl⟩

theorem db_nat {k d : Int} (h : dbOk k d = true) : ∃ a b : Nat, k = a ∧ d = b ∧ 1 ≤ a ∧ a ≤ 62 ∧ 1 ≤ b ∧ b ≤ 60 := by
  unfold dbOk at h
  simp only [Bool.and_eq_true, decide_eq_true_eq] at h
  exact ⟨k.toNat, d.toNat, by omega, by omega, by omega, by omega, by omega, by omega⟩

theorem specDb_any (k d : Int) (w : World) : Calls Try.prog 7 #[.int .i64 k, .int .i64 d] w fun e w' => e = .returned (.tuple #[.int .i64 (dbV k d), .int .i64 (dbC k d)]) ∧ w = w' := by
  unfold dbV dbC dbN
  cases h : dbOk k d
  · exact specDb_no k d w h
  · obtain ⟨a, b, rfl, rfl, h1, h2, h3, h4⟩ := db_nat h
    exact specDb_yes a b w h1 h2 h3 h4
theorem implDb_any (k d : Int) (w : World) : Calls Try.prog 8 #[.int .i64 k, .int .i64 d] w fun e w' => e = .returned (.tuple #[.int .i64 (dbV k d), .int .i64 (dbC k d)]) ∧ w = w' := by
  unfold dbV dbC dbN
  cases h : dbOk k d
  · exact implDb_no k d w h
  · obtain ⟨a, b, rfl, rfl, h1, h2, h3, h4⟩ := db_nat h
    exact implDb_yes a b w h1 h2 h3 h4

set_option maxHeartbeats 800000 in
theorem lawDb (k d : Int) (w : World) : Calls Try.prog 4 #[.int .i64 k, .int .i64 d] w fun e w' => e = .returned (.bool true) ∧ w = w' := by
  have hs := fun W => specDb_any k d W
  have hi := fun W => implDb_any k d W
  generalize dbV k d = x at hs hi
  generalize dbC k d = y at hs hi
  have e1 : (x != x) = false := by simp
  have e2 : (y != y) = false := by simp
  go_enter Try.func4, Try.ntmps4
  go_wp2_with (first | (go_at_call 7; refine (hs _).mono ?_; rintro e w' ⟨rfl, rfl⟩) | (go_at_call 8; refine (hi _).mono ?_; rintro e w' ⟨rfl, rfl⟩))
  go_ret
  exact ⟨rfl, rfl⟩
end Go.Proofs.Ytbmjopmmfnghdaa
