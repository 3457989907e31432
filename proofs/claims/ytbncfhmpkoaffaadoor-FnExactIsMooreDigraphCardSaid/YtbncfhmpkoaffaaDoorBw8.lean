/-
  The bounds of chapter 2: both programs' sums of powers, for bases of up to 62.
-/
import Derived.Test.YtbncfhmpkoaffaaDoorProg
import Derived.Test.YtbncfhmpkoaffaaDoorBn8
import Derived.Test.YtbncfhmpkoaffaaDoorNu8
import Derived.WalkSpells
import Derived.WalkLawsBesides
import Derived.Lib.Hide
namespace Go.Proofs.YtbncfhmpkoaffaaDoor
set_option maxRecDepth 100000
open Go.RowKit

theorem rint {k : IntKind} {a b : Int} (h : a = b) : Ending.returned (.int k a) = .returned (.int k b) := by rw [h]
theorem rint2 {k : IntKind} {a b c d : Int} (h : a = b) (h2 : c = d) : Ending.returned (.tuple #[.int k a, .int k c]) = .returned (.tuple #[.int k b, .int k d]) := by rw [h, h2]

theorem cap_add_i (x y : Nat) : (if (1000000000001 : Int) < (cap12 x : Int) + (cap12 y : Int) then (1000000000001 : Int) else (cap12 x : Int) + (cap12 y : Int)) = ((cap12 (x + y) : Nat) : Int) := by
  rw [← cap12_add]; split <;> omega
theorem cap_mul_i (x b : Nat) : (if (1000000000001 : Int) < (cap12 x : Int) * (b : Int) then (1000000000001 : Int) else (cap12 x : Int) * (b : Int)) = ((cap12 (x * b) : Nat) : Int) := by
  rw [← cap12_mul, ← Int.natCast_mul]; split <;> omega
theorem cap_prod (x b : Nat) (hb : b ≤ 62) : 0 ≤ (cap12 x : Int) * (b : Int) ∧ (cap12 x : Int) * (b : Int) ≤ 62000000000062 := by
  have h := cap12_le x
  have h1 : cap12 x * b ≤ 1000000000001 * 62 := Nat.mul_le_mul h hb
  rw [← Int.natCast_mul]
  omega

set_option maxHeartbeats 800000 in
theorem l02Sum_any (b n : Nat) (w : World) (hb : b ≤ 62) (hn : n ≤ 62) :
    Calls Tryd.prog 64 #[.int .i64 ((b : Int) + 1), .int .i64 n] w fun e w' => e = .returned (.int .i64 (cap12 (sumP b n))) ∧ w = w' := by
  have hk0 : (0 : Int) ≤ (b : Int) + 1 := by omega
  have hk1 : (b : Int) + 1 ≤ 63 := by omega
  have hkk : (b : Int) + 1 - 1 = b := by omega
  have HK := Lib.hid hkk; clear hkk
  go_enter Tryd.func64, Tryd.ntmps64
  go_wp2
  go_loop [5, 6, 7] (fun s p i => ∃ k : Nat, k ≤ n ∧ i = .int .i64 k ∧ s = .int .i64 (cap12 (sumP b k)) ∧ p = .int .i64 (cap12 (pw b k))) (fun _ _ i => n - (intOf i).toNat)
  case atStart => exact ⟨0, Nat.zero_le _, rfl, rfl, rfl⟩
  case round =>
    obtain ⟨k, hk, rfl, rfl, rfl⟩ := hrel
    by_cases hlt : (k : Int) < n
    · have c1 := cap12_le (sumP b k)
      have c2 := cap12_le (pw b k)
      obtain ⟨p0, p1⟩ := cap_prod (pw b k) b hb
      have HA := Lib.hid (cap_add_i (sumP b k) (pw b k))
      have HM := Lib.hid (cap_mul_i (pw b k) b)
      have hs : (cap12 (sumP b k) : Int) + (cap12 (pw b k) : Int) ≤ 2000000000002 := by omega
      have hs0 : 0 ≤ (cap12 (sumP b k) : Int) + (cap12 (pw b k) : Int) := by omega
      have hkk := HK.out
      go_wp2
      go_round
      case rel =>
        refine ⟨k + 1, by omega, by go_num, ?_, ?_⟩
        · rw [HA.out]; rfl
        · rw [HM.out, ← pw_succ]
      case measure => simp [intOf]; omega
    · have hkn : k = n := by omega
      subst hkn
      go_wp2
      go_ret
      exact ⟨rfl, rfl⟩

/-- What the program's sum answers. -/
def SumRes (b n : Nat) (e : Ending) : Prop := ∃ r : Nat, e = .returned (.int .i64 r) ∧ SumOk b n r

set_option maxHeartbeats 800000 in
theorem sumOf_any (b n : Nat) (w : World) (hb : b ≤ 62) (hn : n ≤ 62) :
    Calls Tryd.prog 80 #[.int .i64 b, .int .i64 n] w fun e w' => SumRes b n e ∧ w = w' := by
  go_enter Tryd.func80, Tryd.ntmps80
  go_wp2
  go_loop [5, 6, 8] (fun s p i => ∃ k : Nat, k ≤ n ∧ i = .int .i64 k ∧ s = .int .i64 (sumP b k : Nat) ∧ p = .int .i64 (pw b k : Nat) ∧ sumP b k ≤ 1000000000000) (fun _ _ i => n - (intOf i).toNat)
  case atStart => exact ⟨0, Nat.zero_le _, rfl, rfl, rfl, by simp [sumP]⟩
  case round =>
    obtain ⟨k, hk, rfl, rfl, rfl, hle⟩ := hrel
    by_cases hlt : (k : Int) < n
    · have hp := pow_le_sum b k hb
      have HS : Hid (((sumP b k : Nat) : Int) + ((pw b k : Nat) : Int) = ((sumP b (k + 1) : Nat) : Int)) := by show _ = _; rw [sumP_succ]; omega
      have HM : Hid (((pw b k : Nat) : Int) * (b : Int) = ((pw b (k + 1) : Nat) : Int)) := by show _ = _; rw [pw_succ]; simp
      have hm1 : pw b k * b ≤ pw b k * 62 := Nat.mul_le_mul_left _ hb
      have q0 : 0 ≤ ((pw b k : Nat) : Int) * (b : Int) := by rw [← Int.natCast_mul]; omega
      have q1 : ((pw b k : Nat) : Int) * (b : Int) ≤ 3844000000000062 := by rw [← Int.natCast_mul]; omega
      have s0 : 0 ≤ ((sumP b k : Nat) : Int) + ((pw b k : Nat) : Int) := by omega
      have s1 : ((sumP b k : Nat) : Int) + ((pw b k : Nat) : Int) ≤ 63000000000001 := by omega
      by_cases hbig : (1000000000000 : Int) < ((sumP b k : Nat) : Int) + ((pw b k : Nat) : Int)
      · have hsb : 1000000000000 < sumP b (k + 1) := by rw [sumP_succ]; omega
        have HO := Lib.hid (SumOk.over (n := n) (by omega) hb hle hsb)
        clear hm1 hsb
        go_wp2
        go_ret
        exact ⟨⟨_, rint HS.out, HO.out⟩, rfl⟩
      · have hsb : sumP b (k + 1) ≤ 1000000000000 := by rw [sumP_succ]; omega
        clear hm1
        go_wp2
        go_round
        case rel => exact ⟨k + 1, by omega, by go_num, by rw [HS.out], by rw [HM.out], hsb⟩
        case measure => simp [intOf]; omega
    · have hkn : k = n := by omega
      subst hkn
      have HO := Lib.hid (SumOk.sum b k hle)
      go_wp2
      go_ret
      exact ⟨⟨_, rfl, HO.out⟩, rfl⟩

set_option maxHeartbeats 400000 in
theorem in_yn (a b c : Int) (w : World) (r : Bool) (h : (decide (b ≤ a) && decide (a ≤ c)) = r) :
    Calls Tryd.prog 60 #[.int .i64 a, .int .i64 b, .int .i64 c] w fun e w' => e = .returned (.bool r) ∧ w = w' := by
  subst h
  by_cases h : b ≤ a
  · have h' : decide (b ≤ a) = true := by simpa using h
    have h2 : (decide (b ≤ a) && decide (a ≤ c)) = decide (a ≤ c) := by rw [h']; rfl
    rw [h2]; clear h2
    go_enter Tryd.func60, Tryd.ntmps60
    go_wp2
    go_ret
    exact ⟨rfl, rfl⟩
  · have h' : decide (b ≤ a) = false := by simpa using h
    have h2 : (decide (b ≤ a) && decide (a ≤ c)) = false := by rw [h']; rfl
    rw [h2]; clear h2
    go_enter Tryd.func60, Tryd.ntmps60
    go_wp2
    go_ret
    exact ⟨rfl, rfl⟩

theorem bd_ret (x : Nat) (h : x ≤ 1000000000000) : Ending.returned (.tuple #[.int .i64 x, .int .i64 0]) = .returned (.tuple #[.int .i64 (bdV x), .int .i64 (bdC x)]) := by unfold bdV bdC; rw [if_pos h, if_pos h]
theorem bd_ret3 (x : Nat) (h : ¬ x ≤ 1000000000000) : Ending.returned (.tuple #[.int .i64 0, .int .i64 3]) = .returned (.tuple #[.int .i64 (bdV x), .int .i64 (bdC x)]) := by unfold bdV bdC; rw [if_neg h, if_neg h]

end Go.Proofs.YtbncfhmpkoaffaaDoor
