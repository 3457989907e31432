/-
  Words of Kautz and of de Bruijn: how many there are; the checks of both programs.
-/
import Derived.Test.YtkflcjhoghiffaaDoorPg
namespace Go.Proofs.YtkflcjhoghiffaaDoor
set_option maxRecDepth 100000
set_option maxRecDepth 100000
open Go.RowKit

def pw (b n : Nat) : Nat := b ^ n
theorem pw_zero (b : Nat) : pw b 0 = 1 := by simp [pw]
theorem pw_succ (b n : Nat) : pw b (n + 1) = pw b n * b := by unfold pw; exact Nat.pow_succ ..
theorem pw_le (d k j n : Nat) (hd : d ≤ n) (hj : j ≤ k) (hn : 1 ≤ n) : pw d j ≤ n ^ k :=
  Nat.le_trans (Nat.pow_le_pow_left hd j) (Nat.pow_le_pow_right hn hj)

set_option maxHeartbeats 800000 in
theorem numPow_any (d k : Nat) (w : World) (hd : d ≤ 62) (hk : k ≤ 10) :
    Calls Tryd.prog 50 #[.int .i64 d, .int .i64 k] w fun e w' => e = .returned (.int .i64 (pw d k : Nat)) ∧ w = w' := by
  go_enter Tryd.func50, Tryd.ntmps50
  go_wp2
  go_loop [5, 7] (fun p i => ∃ j : Nat, j ≤ k ∧ i = .int .i64 j ∧ p = .int .i64 (pw d j : Nat)) (fun _ i => k - (intOf i).toNat)
  case atStart => exact ⟨0, Nat.zero_le _, rfl, rfl⟩
  case round =>
    obtain ⟨j, hj, rfl, rfl⟩ := hrel
    by_cases hlt : (j : Int) < k
    · have h62 : (62 : Nat) ^ 10 = 839299365868340224 := by decide
      have h2 := pw_le d 10 (j + 1) 62 hd (by omega) (by omega)
      rw [h62, pw_succ] at h2
      have HM : Hid (((pw d j : Nat) : Int) * (d : Int) = ((pw d (j + 1) : Nat) : Int)) := by show _ = _; rw [pw_succ]; simp
      have q0 : 0 ≤ ((pw d j : Nat) : Int) * (d : Int) := by rw [← Int.natCast_mul]; omega
      have q1 : ((pw d j : Nat) : Int) * (d : Int) ≤ 839299365868340224 := by rw [← Int.natCast_mul]; omega
      clear h2 h62
      go_wp2
      go_round
      case rel => exact ⟨j + 1, by omega, by go_num, by rw [HM.out]⟩
      case measure => simp [intOf]; omega
    · obtain rfl : j = k := by omega
      go_wp2
      go_ret
      exact ⟨rfl, rfl⟩
theorem in_valK (a b c : Int) (w : World) (r : Bool) (h : (decide (b ≤ a) && decide (a ≤ c)) = r) :
    Calls Tryd.prog 59 #[.int .i64 a, .int .i64 b, .int .i64 c] w fun e w' => e = .returned (.bool r) ∧ w = w' := by
  subst h; exact in_any a b c w
set_option maxHeartbeats 400000 in
theorem upTo_valK (g x : Int) (w : World) (r : Bool) (h : (decide (1 ≤ x) && decide (x ≤ g)) = r) :
    Calls Tryd.prog 49 #[.int .i64 g, .int .i64 x] w fun e w' => e = .returned (.bool r) ∧ w = w' := by
  subst h
  by_cases h : 1 ≤ x
  · have h' : decide (1 ≤ x) = true := by simpa using h
    have h2 : (decide (1 ≤ x) && decide (x ≤ g)) = decide (x ≤ g) := by rw [h']; rfl
    rw [h2]; clear h2
    go_enter Tryd.func49, Tryd.ntmps49
    go_wp2
    go_ret
    exact ⟨rfl, rfl⟩
  · have h' : decide (1 ≤ x) = false := by simpa using h
    have h2 : (decide (1 ≤ x) && decide (x ≤ g)) = false := by rw [h']; rfl
    rw [h2]; clear h2
    go_enter Tryd.func49, Tryd.ntmps49
    go_wp2
    go_ret
    exact ⟨rfl, rfl⟩

/-- The model counts no farther than to 63. -/
def wdF (o d : Nat) : Nat → Nat
  | 0 => o
  | j + 1 => min (wdF o d j * d) 63
theorem wdF_le (o d : Nat) (ho : o ≤ 63) : ∀ j, wdF o d j ≤ 63
  | 0 => ho
  | _ + 1 => Nat.min_le_right _ _
theorem wdF_val (o d : Nat) (ho : o ≤ 63) (hd : 1 ≤ d) : ∀ j, wdF o d j = min (o * pw d j) 63
  | 0 => by simp [wdF, pw_zero]; omega
  | j + 1 => by
    rw [wdF, wdF_val o d ho hd j, pw_succ, ← Nat.mul_assoc]
    rcases Nat.le_total (o * pw d j) 63 with h | h
    · rw [Nat.min_eq_left h]
    · have h2 : o * pw d j * 1 ≤ o * pw d j * d := Nat.mul_le_mul_left _ hd
      have h3 : 63 * 1 ≤ 63 * d := Nat.mul_le_mul_left _ hd
      rw [Nat.min_eq_right h, Nat.min_eq_right (by omega), Nat.min_eq_right (by omega)]

set_option maxHeartbeats 1600000 in
theorem words_any (d k o : Nat) (kz : Bool) (w : World) (hd : 1 ≤ d) (hd2 : d ≤ 62) (hk : 1 ≤ k) (hk2 : k ≤ 10) (ho : o = if kz = true then d + 1 else d) :
    Calls Tryd.prog 60 #[.int .i64 d, .int .i64 k, .bool kz] w fun e w' => e = .returned (.int .i64 (wdF o d (k - 1) : Nat)) ∧ w = w' := by
  have ho63 : o ≤ 63 := by rw [ho]; split <;> omega
  obtain ⟨r, HR⟩ : ∃ r, Hid (r = wdF o d (k - 1)) := ⟨_, rfl⟩
  rw [← HR.out]
  cases kz
  · have ho' : o = d := by simpa using ho
    subst ho'
    clear ho
    go_enter Tryd.func60, Tryd.ntmps60
    go_wp2
    go_loop [1, 7] (fun kv ov => ∃ j : Nat, j < k ∧ kv = .int .i64 ((k : Int) - j) ∧ ov = .int .i64 (wdF o o j : Nat)) (fun kv _ => (intOf kv).toNat)
    case atStart => exact ⟨0, by omega, by simp, rfl⟩
    case round =>
      obtain ⟨j, hj, rfl, rfl⟩ := hrel
      have hle := wdF_le o o ho63 j
      by_cases hlt : (k : Int) - j ≤ 1
      · have h1 : ¬ (1 : Int) < (k : Int) - j := by omega
        have hkj : k - 1 = j := by omega
        have HKJ := Lib.hid hkj
        clear hkj
        go_wp2
        go_ret
        exact ⟨by rw [HR.out, HKJ.out]; rfl, rfl⟩
      · have h1 : (1 : Int) < (k : Int) - j := by omega
        have HM : Hid (min (((wdF o o j : Nat) : Int) * (o : Int)) 63 = ((wdF o o (j + 1) : Nat) : Int)) := by
          show _ = _
          rw [wdF, ← Int.natCast_mul]
          omega
        obtain ⟨x, hx⟩ : ∃ x, x = wdF o o j := ⟨_, rfl⟩
        rw [← hx] at HM hle
        rw [← hx]
        have q0 : 0 ≤ ((x : Nat) : Int) * (o : Int) := by rw [← Int.natCast_mul]; omega
        have q1 : ((x : Nat) : Int) * (o : Int) ≤ 63 * 63 := by
          rw [← Int.natCast_mul]
          have := Nat.mul_le_mul hle ho63
          omega
        clear hx
        go_wp2
        go_round
        case rel => exact ⟨j + 1, by omega, by go_num, by rw [← HM.out]; go_num⟩
        case measure => simp [intOf]; omega
  · have ho' : o = d + 1 := by simpa using ho
    clear ho
    have HO := Lib.hid ho'
    have hoi : (d : Int) + 1 = (o : Int) := by omega
    have HOI := Lib.hid hoi
    clear ho' hoi
    go_enter Tryd.func60, Tryd.ntmps60
    go_wp2
    rw [HOI.out]
    go_loop [1, 7] (fun kv ov => ∃ j : Nat, j < k ∧ kv = .int .i64 ((k : Int) - j) ∧ ov = .int .i64 (wdF o d j : Nat)) (fun kv _ => (intOf kv).toNat)
    case atStart => exact ⟨0, by omega, by simp, rfl⟩
    case round =>
      obtain ⟨j, hj, rfl, rfl⟩ := hrel
      have hle := wdF_le o d ho63 j
      by_cases hlt : (k : Int) - j ≤ 1
      · have h1 : ¬ (1 : Int) < (k : Int) - j := by omega
        have hkj : k - 1 = j := by omega
        have HKJ := Lib.hid hkj
        clear hkj
        go_wp2
        go_ret
        exact ⟨by rw [HR.out, HKJ.out]; rfl, rfl⟩
      · have h1 : (1 : Int) < (k : Int) - j := by omega
        have HM : Hid (min (((wdF o d j : Nat) : Int) * (d : Int)) 63 = ((wdF o d (j + 1) : Nat) : Int)) := by
          show _ = _
          rw [wdF, ← Int.natCast_mul]
          omega
        obtain ⟨x, hx⟩ : ∃ x, x = wdF o d j := ⟨_, rfl⟩
        rw [← hx] at HM hle
        rw [← hx]
        have q0 : 0 ≤ ((x : Nat) : Int) * (d : Int) := by rw [← Int.natCast_mul]; omega
        have q1 : ((x : Nat) : Int) * (d : Int) ≤ 63 * 63 := by
          rw [← Int.natCast_mul]
          have := Nat.mul_le_mul hle (show d ≤ 63 by omega)
          omega
        clear hx
        go_wp2
        go_round
        case rel => exact ⟨j + 1, by omega, by go_num, by rw [← HM.out]; go_num⟩
        case measure => simp [intOf]; omega

/-- The code for words of Kautz. -/
def kzOk (d k : Int) : Bool := (decide (1 ≤ d) && decide (d ≤ 61)) && (decide (1 ≤ k) && decide (k ≤ 10))
def KzC (d k : Int) : Int := if kzOk d k = true then (if (d.toNat + 1) * pw d.toNat (k.toNat - 1) ≤ 62 then 0 else 3) else 2

set_option maxHeartbeats 1600000 in
theorem checkKz_any (d k : Int) (w : World) :
    Calls Tryd.prog 31 #[.int .i64 d, .int .i64 k] w fun e w' => e = .returned (.int .i64 (KzC d k)) ∧ w = w' := by
  cases hd : (decide (1 ≤ d) && decide (d ≤ 61))
  · have i1 := fun W => upTo_valK 61 d W false hd
    have hc : KzC d k = 2 := by simp [KzC, kzOk, hd]
    rw [hc]
    clear hd hc
    go_enter Tryd.func31, Tryd.ntmps31
    go_wp2_with (go_at_call 49; refine (i1 _).mono ?_; rintro e w' ⟨rfl, rfl⟩)
    go_ret
    exact ⟨rfl, rfl⟩
  · have i1 := fun W => upTo_valK 61 d W true hd
    cases hk : (decide (1 ≤ k) && decide (k ≤ 10))
    · have i2 := fun W => upTo_valK 10 k W false hk
      have hc : KzC d k = 2 := by simp [KzC, kzOk, hd, hk]
      rw [hc]
      clear hd hk hc
      go_enter Tryd.func31, Tryd.ntmps31
      go_wp2_with (first | (go_at_call 49; with_reducible refine (i1 _).mono ?_; rintro e w' ⟨rfl, rfl⟩) | (go_at_call 49; with_reducible refine (i2 _).mono ?_; rintro e w' ⟨rfl, rfl⟩))
      go_ret
      exact ⟨rfl, rfl⟩
    · have i2 := fun W => upTo_valK 10 k W true hk
      have hok : kzOk d k = true := by simp [kzOk, hd, hk]
      simp only [Bool.and_eq_true, decide_eq_true_eq] at hd hk
      obtain ⟨d', rfl⟩ := Int.eq_ofNat_of_zero_le (show 0 ≤ d by omega)
      obtain ⟨k', rfl⟩ := Int.eq_ofNat_of_zero_le (show 0 ≤ k by omega)
      obtain ⟨k1, rfl⟩ : ∃ k1, k' = k1 + 1 := ⟨k' - 1, by omega⟩
      have hkw : ((k1 + 1 : Nat) : Int) - 1 = (k1 : Int) := by omega
      obtain ⟨p, hp⟩ : ∃ p, p = pw d' k1 := ⟨_, rfl⟩
      have hn := fun W => numPow_any d' k1 W (by omega) (by omega)
      rw [← hp, ← hkw] at hn
      have h62 : (61 : Nat) ^ 9 = 11694146092834141 := by decide
      have hpl := pw_le d' 9 k1 61 (by omega) (by omega) (by omega)
      rw [h62, ← hp] at hpl
      have HC : Hid (KzC (d' : Int) ((k1 + 1 : Nat) : Int) = if (d' + 1) * p ≤ 62 then 0 else 3) := by
        show _ = _
        unfold KzC
        rw [if_pos hok, Int.toNat_natCast, Int.toNat_natCast, Nat.add_sub_cancel, hp]
      obtain ⟨q, hq⟩ : ∃ q, q = (d' + 1) * p := ⟨_, rfl⟩
      have hqi : ((d' : Int) + 1) * (p : Int) = (q : Int) := by rw [hq]; simp
      have q0 : 0 ≤ ((d' : Int) + 1) * (p : Int) := by rw [hqi]; omega
      have q1 : ((d' : Int) + 1) * (p : Int) ≤ 62 * 11694146092834141 := by
        rw [hqi, hq]
        have := Nat.mul_le_mul (show d' + 1 ≤ 62 by omega) hpl
        omega
      rw [← hq] at HC
      rw [HC.out]
      obtain ⟨K, hK⟩ : ∃ K : Int, K = ((k1 + 1 : Nat) : Int) := ⟨_, rfl⟩
      rw [← hK] at i2 hn
      rw [← hK]
      have hK1 : 1 ≤ K := by omega
      have hK2 : K ≤ 10 := by omega
      have hd1 : (d' : Int) ≤ 61 := by omega
      have HQ := Lib.hid hqi
      by_cases hs : q ≤ 62
      · rw [if_pos hs]
        have hs1 : ¬ (62 : Int) < ((d' : Int) + 1) * (p : Int) := by rw [hqi]; omega
        clear hd hk hok hkw hp h62 hpl HC hq hqi hK hs
        go_enter Tryd.func31, Tryd.ntmps31
        go_wp2_with (first | (go_at_call 49; with_reducible refine (i1 _).mono ?_; rintro e w' ⟨rfl, rfl⟩) | (go_at_call 49; with_reducible refine (i2 _).mono ?_; rintro e w' ⟨rfl, rfl⟩) | (go_at_call 50; refine (hn _).mono ?_; rintro e w' ⟨rfl, rfl⟩))
        go_ret
        exact ⟨rfl, rfl⟩
      · rw [if_neg hs]
        have hs1 : (62 : Int) < ((d' : Int) + 1) * (p : Int) := by rw [hqi]; omega
        clear hd hk hok hkw hp h62 hpl HC hq hqi hK hs
        go_enter Tryd.func31, Tryd.ntmps31
        go_wp2_with (first | (go_at_call 49; with_reducible refine (i1 _).mono ?_; rintro e w' ⟨rfl, rfl⟩) | (go_at_call 49; with_reducible refine (i2 _).mono ?_; rintro e w' ⟨rfl, rfl⟩) | (go_at_call 50; refine (hn _).mono ?_; rintro e w' ⟨rfl, rfl⟩))
        go_ret
        exact ⟨rfl, rfl⟩

set_option maxHeartbeats 1600000 in
theorem l08Kz_any (d k : Int) (w : World) :
    Calls Tryd.prog 43 #[.int .i64 d, .int .i64 k] w fun e w' => e = .returned (.int .i64 (KzC d k)) ∧ w = w' := by
  cases hd : (decide (1 ≤ d) && decide (d ≤ 61))
  · have i1 := fun W => in_valK d 1 61 W false hd
    have hc : KzC d k = 2 := by simp [KzC, kzOk, hd]
    rw [hc]
    clear hd hc
    go_enter Tryd.func43, Tryd.ntmps43
    go_wp2_with (go_at_call 59; refine (i1 _).mono ?_; rintro e w' ⟨rfl, rfl⟩)
    go_ret
    exact ⟨rfl, rfl⟩
  · have i1 := fun W => in_valK d 1 61 W true hd
    cases hk : (decide (1 ≤ k) && decide (k ≤ 10))
    · have i2 := fun W => in_valK k 1 10 W false hk
      have hc : KzC d k = 2 := by simp [KzC, kzOk, hd, hk]
      rw [hc]
      clear hd hk hc
      go_enter Tryd.func43, Tryd.ntmps43
      go_wp2_with (first | (go_at_call 59; with_reducible refine (i1 _).mono ?_; rintro e w' ⟨rfl, rfl⟩) | (go_at_call 59; with_reducible refine (i2 _).mono ?_; rintro e w' ⟨rfl, rfl⟩))
      go_ret
      exact ⟨rfl, rfl⟩
    · have i2 := fun W => in_valK k 1 10 W true hk
      have hok : kzOk d k = true := by simp [kzOk, hd, hk]
      simp only [Bool.and_eq_true, decide_eq_true_eq] at hd hk
      obtain ⟨d', rfl⟩ := Int.eq_ofNat_of_zero_le (show 0 ≤ d by omega)
      obtain ⟨k', rfl⟩ := Int.eq_ofNat_of_zero_le (show 0 ≤ k by omega)
      have hn := fun W => words_any d' k' (d' + 1) true W (by omega) (by omega) (by omega) (by omega) rfl
      have hv := wdF_val (d' + 1) d' (by omega) (by omega) (k' - 1)
      obtain ⟨x, hx⟩ : ∃ x, x = wdF (d' + 1) d' (k' - 1) := ⟨_, rfl⟩
      rw [← hx] at hn hv
      have hc : KzC (d' : Int) (k' : Int) = if x ≤ 62 then 0 else 3 := by
        unfold KzC
        rw [if_pos hok, Int.toNat_natCast, Int.toNat_natCast]
        by_cases e : (d' + 1) * pw d' (k' - 1) ≤ 62
        · rw [if_pos e, if_pos (by omega)]
        · rw [if_neg e, if_neg (by omega)]
      rw [hc]
      have hx63 : x ≤ 63 := by omega
      by_cases hs : x ≤ 62
      · rw [if_pos hs]
        have hs1 : ¬ (62 : Int) < (x : Int) := by omega
        clear hd hk hok hv hx hc hs
        go_enter Tryd.func43, Tryd.ntmps43
        go_wp2_with (first | (go_at_call 59; with_reducible refine (i1 _).mono ?_; rintro e w' ⟨rfl, rfl⟩) | (go_at_call 59; with_reducible refine (i2 _).mono ?_; rintro e w' ⟨rfl, rfl⟩) | (go_at_call 60; refine (hn _).mono ?_; rintro e w' ⟨rfl, rfl⟩))
        go_ret
        exact ⟨rfl, rfl⟩
      · rw [if_neg hs]
        have hs1 : (62 : Int) < (x : Int) := by omega
        clear hd hk hok hv hx hc hs
        go_enter Tryd.func43, Tryd.ntmps43
        go_wp2_with (first | (go_at_call 59; with_reducible refine (i1 _).mono ?_; rintro e w' ⟨rfl, rfl⟩) | (go_at_call 59; with_reducible refine (i2 _).mono ?_; rintro e w' ⟨rfl, rfl⟩) | (go_at_call 60; refine (hn _).mono ?_; rintro e w' ⟨rfl, rfl⟩))
        go_ret
        exact ⟨rfl, rfl⟩
end Go.Proofs.YtkflcjhoghiffaaDoor
