/-
  GreedyGraph, program and model.
-/
import Derived.Test.YtehpafbhejcbmaaDoorFs7
namespace Go.Proofs.YtehpafbhejcbmaaDoor
set_option maxRecDepth 100000
set_option maxRecDepth 100000
open Go.RowKit

def kDeg (k : Int) : Bool := decide (1 ≤ k) && decide (k ≤ 6)
def kcB (k c : Int) : Bool := kDeg k && (decide (3 ≤ c) && decide (c ≤ 12))
theorem isDeg_any (k : Int) (w : World) : Calls Tryd.prog 53 #[.int .i64 k] w fun e w' => e = .returned (.bool (kDeg k)) ∧ w = w' := by
  by_cases h : 1 ≤ k
  · have h2 : kDeg k = decide (k ≤ 6) := by unfold kDeg; rw [decide_eq_true h]; rfl
    rw [h2]; clear h2
    have h' : decide (1 ≤ k) = true := by simpa using h
    go_enter Tryd.func53, Tryd.ntmps53
    go_wp2
    go_ret
    exact ⟨rfl, rfl⟩
  · have h' : decide (1 ≤ k) = false := by simpa using h
    have h2 : kDeg k = false := by unfold kDeg; rw [h']; rfl
    rw [h2]; clear h2
    go_enter Tryd.func53, Tryd.ntmps53
    go_wp2
    go_ret
    exact ⟨rfl, rfl⟩


set_option maxHeartbeats 800000 in
theorem areDG_any (k c : Int) (w : World) : Calls Tryd.prog 42 #[.int .i64 k, .int .i64 c] w fun e w' => e = .returned (.bool (kcB k c)) ∧ w = w' := by
  have hid := fun W => isDeg_any k W
  cases hk : kDeg k with
  | false =>
    rw [hk] at hid
    rw [show kcB k c = false by simp [kcB, hk]]
    clear hk
    go_enter Tryd.func42, Tryd.ntmps42
    go_wp2_with (go_at_call 53; refine (hid _).mono ?_; rintro e w' ⟨rfl, rfl⟩)
    go_ret
    exact ⟨rfl, rfl⟩
  | true =>
    rw [hk] at hid
    rw [show kcB k c = (decide (3 ≤ c) && decide (c ≤ 12)) by simp [kcB, hk]]
    clear hk
    by_cases h3 : 3 ≤ c
    · have h' : decide (3 ≤ c) = true := by simpa using h3
      rw [show (decide (3 ≤ c) && decide (c ≤ 12)) = decide (c ≤ 12) by rw [h']; rfl]
      go_enter Tryd.func42, Tryd.ntmps42
      go_wp2_with (go_at_call 53; refine (hid _).mono ?_; rintro e w' ⟨rfl, rfl⟩)
      go_ret
      exact ⟨rfl, rfl⟩
    · have h' : decide (3 ≤ c) = false := by simpa using h3
      rw [show (decide (3 ≤ c) && decide (c ≤ 12)) = false by rw [h']; rfl]
      go_enter Tryd.func42, Tryd.ntmps42
      go_wp2_with (go_at_call 53; refine (hid _).mono ?_; rintro e w' ⟨rfl, rfl⟩)
      go_ret
      exact ⟨rfl, rfl⟩
set_option maxHeartbeats 800000 in
theorem numbers_any (k c : Int) (w : World) : Calls Tryd.prog 40 #[.int .i64 k, .int .i64 c] w fun e w' => e = .returned (.bool (kcB k c)) ∧ w = w' := by
  have HK : Hid (∀ W, Calls Tryd.prog 51 #[.int .i64 k, .int .i64 1, .int .i64 6] W fun e w' => e = .returned (.bool (kDeg k)) ∧ W = w') := fun W => in_any k 1 6 W
  have HC : Hid (∀ W, Calls Tryd.prog 51 #[.int .i64 c, .int .i64 3, .int .i64 12] W fun e w' => e = .returned (.bool (decide (3 ≤ c) && decide (c ≤ 12))) ∧ W = w') := fun W => in_any c 3 12 W
  cases hk : kDeg k with
  | false =>
    rw [hk] at HK
    rw [show kcB k c = false by simp [kcB, hk]]
    clear hk
    go_enter Tryd.func40, Tryd.ntmps40
    go_wp2_with (go_at_call 51; with_reducible refine (HK.out _).mono ?_; rintro e w' ⟨rfl, rfl⟩)
    go_ret
    exact ⟨rfl, rfl⟩
  | true =>
    rw [hk] at HK
    rw [show kcB k c = (decide (3 ≤ c) && decide (c ≤ 12)) by simp [kcB, hk]]
    clear hk
    go_enter Tryd.func40, Tryd.ntmps40
    go_wp2_with (first | (go_at_call 51; with_reducible refine (HK.out _).mono ?_; rintro e w' ⟨rfl, rfl⟩) | (go_at_call 51; with_reducible refine (HC.out _).mono ?_; rintro e w' ⟨rfl, rfl⟩))
    go_ret
    exact ⟨rfl, rfl⟩

theorem FitD_zero {n : Nat} {k : Int} (h1 : 1 ≤ n) (h2 : n ≤ 62) (hk : 0 ≤ k) : FitD n k (List.replicate n 0) := by
  have he : ∀ i, el (List.replicate n (0 : Int)) i = 0 := fun i => by
    unfold el
    by_cases h : i < n
    · simp [h]
    · simp [h]
  have hb : ∀ i j, bt (el (List.replicate n (0 : Int)) i) j = false := fun i j => by rw [he]; simp [bt]
  refine ⟨by simp, ?_, fun u _ => ?_⟩
  · rw [isG_iff]
    refine ⟨by omega, by omega, by simp, fun i hi => ?_, fun i j _ _ => by rw [hb, hb]⟩
    exact ⟨by rw [he]; exact Int.le_refl _, by rw [he]; exact Nat.two_pow_pos _, hb _ _⟩
  · unfold dg
    rw [he, show (0 : Int).toNat = 0 from rfl]
    have : pc 0 = 0 := pcF_zero 64
    omega

theorem rep_cells {W : World} {g n : Nat} (h : Blk W g (List.replicate n 0)) (hn : n ≤ 62) : Cells W g 0 (List.replicate n 0) := by
  have hO : Own W g (.slice (some ⟨g, 0, none⟩) (List.replicate n (0 : Int)).length (List.replicate n (0 : Int)).length) (List.replicate n 0) := Own.of_blk h (Nat.le_refl _) (by rw [List.length_replicate]; unfold maxLen; omega)
  exact own_cells8 hO (by rfl)
def GyB (n k c : Int) : Bool := (decide (1 ≤ n) && decide (n ≤ 62)) && kcB k c
/-- The greedy graph's rows. -/
def GyR (n : Nat) (k c : Int) : List Int := FR (List.replicate n 0) (pjV (FR (List.replicate n 0)) k c n n)
def GyC (n k c : Int) : Int := if GyB n k c then 0 else 2
def GyN (n k c : Int) : Int := if GyB n k c then n else 0
def GyL (n k c : Int) : List Int := if GyB n k c then GyR n.toNat k c else []
theorem GyL_length (n k c : Int) : (GyL n k c).length ≤ 62 := by
  unfold GyL
  split
  · rename_i h
    unfold GyB at h
    simp only [Bool.and_eq_true, decide_eq_true_eq] at h
    unfold GyR
    rw [FR_length, List.length_replicate]
    omega
  · simp

theorem gy_cases {n k c : Int} : (GyB n k c = true ∧ ∃ m : Nat, n = m ∧ 1 ≤ m ∧ m ≤ 62 ∧ kcB k c = true ∧ GyN n k c = m ∧ GyL n k c = GyR m k c ∧ GyC n k c = 0) ∨ (GyB n k c = false ∧ GyN n k c = 0 ∧ GyL n k c = [] ∧ GyC n k c = 2) := by
  cases h : GyB n k c with
  | false => exact .inr ⟨rfl, by simp [GyN, h], by simp [GyL, h], by simp [GyC, h]⟩
  | true =>
    have h2 := h
    unfold GyB at h2
    simp only [Bool.and_eq_true, decide_eq_true_eq] at h2
    obtain ⟨m, rfl⟩ := Int.eq_ofNat_of_zero_le (show 0 ≤ n by omega)
    exact .inl ⟨rfl, m, rfl, by omega, by omega, h2.2, by simp [GyN, h], by simp [GyL, h], by simp [GyC, h]⟩
end Go.Proofs.YtehpafbhejcbmaaDoor
