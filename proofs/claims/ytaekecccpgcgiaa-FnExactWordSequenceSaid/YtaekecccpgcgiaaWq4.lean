/-
  WordSequence: both programs. (A plain seat.)
-/
import Derived.Test.YtaekecccpgcgiaaWq3
import Derived.Test.YtaekecccpgcgiaaNu8
import Derived.Test.YtaekecccpgcgiaaBn8
namespace Go.Proofs.Ytaekecccpgcgiaa
set_option maxRecDepth 100000
open Go.RowKit

theorem pw_le (d k j n : Nat) (hd : d ≤ n) (hj : j ≤ k) (hn : 1 ≤ n) : pw d j ≤ n ^ k :=
  Nat.le_trans (Nat.pow_le_pow_left hd j) (Nat.pow_le_pow_right hn hj)

set_option maxHeartbeats 800000 in
theorem numPow_any (d k : Nat) (w : World) (hd : d ≤ 62) (hk : k ≤ 10) :
    Calls Try.prog 35 #[.int .i64 d, .int .i64 k] w fun e w' => e = .returned (.int .i64 (pw d k : Nat)) ∧ w = w' := by
  go_enter Try.func35, Try.ntmps35
  go_wp2
  go_loop [5, 7] (fun p i => ∃ j : Nat, j ≤ k ∧ i = .int .i64 j ∧ p = .int .i64 (pw d j : Nat)) (fun _ i => k - (intOf i).toNat)
  case atStart => exact ⟨0, Nat.zero_le _, rfl, rfl⟩
  case round =>
    obtain ⟨j, hj, rfl, rfl⟩ := hrel
    by_cases hlt : (j : Int) < k
    · have h62 : (62 : Nat) ^ 10 = 839299365868340224 := by decide
      have h2 := pw_le d 10 (j + 1) 62 hd (by omega) (by omega)
      rw [h62, pw_succ] at h2
      have HM : Hid (((pw d j : Nat) : Int) * (d : Int) = ((pw d (j + 1) : Nat) : Int)) := by show _ = _; rw [pw_succ]; simp
      have q0 : 0 ≤ ((pw d j : Nat) : Int) * (d : Int) := by rw [← Int.natCast_mul]; omega
      have q1 : ((pw d j : Nat) : Int) * (d : Int) ≤ 839299365868340224 := by rw [← Int.natCast_mul]; omega
      clear h2 h62
      go_wp2
      go_round
      case rel => exact ⟨j + 1, by omega, by go_num, by rw [HM.out]⟩
      case measure => simp [intOf]; omega
    · obtain rfl : j = k := by omega
      go_wp2
      go_ret
      exact ⟨rfl, rfl⟩

def capS (x : Nat) : Nat := min x 1025
theorem capS_mul (x d : Nat) (hd : 1 ≤ d) : min (capS x * d) 1025 = capS (x * d) := by
  unfold capS
  rcases Nat.le_total x 1025 with h | h
  · rw [Nat.min_eq_left h]
  · rw [Nat.min_eq_right h]
    have h1 : 1025 ≤ 1025 * d := Nat.le_mul_of_pos_right _ hd
    have h2 : 1025 ≤ x * d := Nat.le_trans h (Nat.le_mul_of_pos_right _ hd)
    omega
theorem capS_le (x : Nat) : capS x ≤ 1025 := Nat.min_le_right _ _
theorem capS_i (x d : Nat) (hd : 1 ≤ d) : (if (1025 : Int) < (capS x : Int) * (d : Int) then (1025 : Int) else (capS x : Int) * (d : Int)) = ((capS (x * d) : Nat) : Int) := by
  rw [← capS_mul _ _ hd, ← Int.natCast_mul]; split <;> omega

def wqOk (d k : Int) : Bool := decide (1 ≤ d) && decide (d ≤ 10) && (decide (1 ≤ k) && decide (k ≤ 10))
def wqF (d k : Nat) : List Int := nI (wsS d (d ^ k) (d ^ k)).sq.reverse
def wqL (d k : Int) : List Int := if wqOk d k then (if d.toNat ^ k.toNat ≤ 1024 then wqF d.toNat k.toNat else []) else []
def wqC (d k : Int) : Int := if wqOk d k then (if d.toNat ^ k.toNat ≤ 1024 then 0 else 3) else 2
theorem wq_nat {d k : Int} (h : wqOk d k = true) : ∃ a b : Nat, d = a ∧ k = b ∧ 1 ≤ a ∧ a ≤ 10 ∧ 1 ≤ b ∧ b ≤ 10 := by
  unfold wqOk at h
  simp only [Bool.and_eq_true, decide_eq_true_eq] at h
  exact ⟨d.toNat, k.toNat, by omega, by omega, by omega, by omega, by omega, by omega⟩
theorem wqL_length (d k : Int) : (wqL d k).length ≤ 1024 := by
  unfold wqL
  split
  · rename_i h
    obtain ⟨a, b, rfl, rfl, h1, h2, h3, h4⟩ := wq_nat h
    split
    · rename_i h5
      simp only [Int.toNat_natCast] at h5 ⊢
      unfold wqF
      rw [nI_length, List.length_reverse]
      exact (wsAll_at h1 h2 h3 h4 h5).2.2.2
    · simp
  · simp

/-- A list of numbers and a code, the list in memory of its own from block B on. -/
def QRes (B : Nat) (L : List Int) (c : Int) (e : Ending) (w' : World) : Prop := ∃ u, e = .returned (.tuple #[u, .int .i64 c]) ∧ Own w' B u L

set_option maxHeartbeats 400000 in
theorem in_val (a b c : Int) (w : World) (r : Bool) (h : (decide (b ≤ a) && decide (a ≤ c)) = r) :
    Calls Try.prog 28 #[.int .i64 a, .int .i64 b, .int .i64 c] w fun e w' => e = .returned (.bool r) ∧ w = w' := by
  subst h; exact in_any a b c w

set_option maxHeartbeats 1600000 in
theorem implWq_no (d k : Int) (w : World) (h : wqOk d k = false) :
    Calls Try.prog 12 #[.int .i64 d, .int .i64 k] w fun e w' => QRes w.heap.size [] 2 e w' ∧ Below w.heap.size w w' := by
  unfold wqOk at h
  cases hd : (decide (1 ≤ d) && decide (d ≤ 10))
  · have i1 := fun W => upTo_val 10 d W false hd
    clear h hd
    go_enter Try.func12, Try.ntmps12
    go_wp2_with (go_at_call 31; refine (i1 _).mono ?_; rintro e w' ⟨rfl, rfl⟩)
    go_ret2
    exact ⟨⟨_, rfl, Own.nil _ _⟩, Below.refl _ _⟩
  · have i1 := fun W => upTo_val 10 d W true hd
    rw [hd, Bool.true_and] at h
    have i2 := fun W => upTo_val 10 k W false h
    clear h hd
    go_enter Try.func12, Try.ntmps12
    go_wp2_with (first | (go_at_call 31; with_reducible refine (i1 _).mono ?_; rintro e w' ⟨rfl, rfl⟩) | (go_at_call 31; with_reducible refine (i2 _).mono ?_; rintro e w' ⟨rfl, rfl⟩))
    go_ret2
    exact ⟨⟨_, rfl, Own.nil _ _⟩, Below.refl _ _⟩

set_option maxHeartbeats 1600000 in
theorem implWq_yes (d k : Nat) (w : World) (h1 : 1 ≤ d) (h2 : d ≤ 10) (h3 : 1 ≤ k) (h4 : k ≤ 10) :
    Calls Try.prog 12 #[.int .i64 d, .int .i64 k] w fun e w' => QRes w.heap.size (if d ^ k ≤ 1024 then wqF d k else []) (if d ^ k ≤ 1024 then 0 else 3) e w' ∧ Below w.heap.size w w' := by
  have i1 := fun W => upTo_val 10 (d : Int) W true (by simp; omega)
  have i2 := fun W => upTo_val 10 (k : Int) W true (by simp; omega)
  have hp := fun W => numPow_any d k W (by omega) h4
  by_cases hs : d ^ k ≤ 1024
  · rw [if_pos hs, if_pos hs]
    obtain ⟨c, hc⟩ : ∃ c, c = d ^ k := ⟨_, rfl⟩
    have hpc : pw d k = c := hc.symm
    rw [hpc] at hp
    have hq := fun W => implSq_some d c W (wsS d c c) h1 h2 (by rw [hc]; exact Nat.pow_pos (by omega)) (by omega) rfl (by rw [hc]; exact (wsAll_at h1 h2 h3 h4 hs).1)
    have hwq : wqF d k = nI (wsS d c c).sq.reverse := by unfold wqF; rw [hc]
    rw [hwq]
    generalize nI (wsS d c c).sq.reverse = L at hq ⊢
    have hc2 : ¬ (1024 : Int) < c := by omega
    clear hwq hs hpc hc
    go_enter Try.func12, Try.ntmps12
    go_wp2_with (first | (go_at_call 31; with_reducible refine (i1 _).mono ?_; rintro e w' ⟨rfl, rfl⟩) | (go_at_call 31; with_reducible refine (i2 _).mono ?_; rintro e w' ⟨rfl, rfl⟩) | (go_at_call 35; refine (hp _).mono ?_; rintro e w' ⟨rfl, rfl⟩) | (go_at_call 36; refine (hq _).mono ?_; rintro e w' ⟨⟨u, rfl, hO⟩, hb⟩; obtain ⟨ua, ul, uc, rfl⟩ := own_slice9 hO; have HO := Lib.hid hO; have HB := Lib.hid hb; clear hO hb))
    go_ret2
    exact ⟨⟨_, rfl, HO.out⟩, HB.out⟩
  · rw [if_neg hs, if_neg hs]
    obtain ⟨c, hc⟩ : ∃ c, c = d ^ k := ⟨_, rfl⟩
    have hpc : pw d k = c := hc.symm
    rw [hpc] at hp
    have hc2 : (1024 : Int) < c := by omega
    clear hs hpc hc
    go_enter Try.func12, Try.ntmps12
    go_wp2_with (first | (go_at_call 31; with_reducible refine (i1 _).mono ?_; rintro e w' ⟨rfl, rfl⟩) | (go_at_call 31; with_reducible refine (i2 _).mono ?_; rintro e w' ⟨rfl, rfl⟩) | (go_at_call 35; refine (hp _).mono ?_; rintro e w' ⟨rfl, rfl⟩))
    go_ret2
    exact ⟨⟨_, rfl, Own.nil _ _⟩, Below.refl _ _⟩

set_option maxHeartbeats 1600000 in
theorem specWq_no (d k : Int) (w : World) (h : wqOk d k = false) :
    Calls Try.prog 11 #[.int .i64 d, .int .i64 k] w fun e w' => QRes w.heap.size [] 2 e w' ∧ Below w.heap.size w w' := by
  unfold wqOk at h
  cases hd : (decide (1 ≤ d) && decide (d ≤ 10))
  · have i1 := fun W => in_val d 1 10 W false hd
    clear h hd
    go_enter Try.func11, Try.ntmps11
    go_wp2_with (go_at_call 28; refine (i1 _).mono ?_; rintro e w' ⟨rfl, rfl⟩)
    go_ret2
    exact ⟨⟨_, rfl, Own.nil _ _⟩, Below.refl _ _⟩
  · have i1 := fun W => in_val d 1 10 W true hd
    rw [hd, Bool.true_and] at h
    have i2 := fun W => in_val k 1 10 W false h
    clear h hd
    go_enter Try.func11, Try.ntmps11
    go_wp2_with (first | (go_at_call 28; with_reducible refine (i1 _).mono ?_; rintro e w' ⟨rfl, rfl⟩) | (go_at_call 28; with_reducible refine (i2 _).mono ?_; rintro e w' ⟨rfl, rfl⟩))
    go_ret2
    exact ⟨⟨_, rfl, Own.nil _ _⟩, Below.refl _ _⟩

set_option maxHeartbeats 1600000 in
theorem specWq_yes (d k : Nat) (w : World) (h1 : 1 ≤ d) (h2 : d ≤ 10) (h3 : 1 ≤ k) (h4 : k ≤ 10) :
    Calls Try.prog 11 #[.int .i64 d, .int .i64 k] w fun e w' => QRes w.heap.size (if d ^ k ≤ 1024 then wqF d k else []) (if d ^ k ≤ 1024 then 0 else 3) e w' ∧ Below w.heap.size w w' := by
  have i1 := fun W => in_val (d : Int) 1 10 W true (by simp; omega)
  have i2 := fun W => in_val (k : Int) 1 10 W true (by simp; omega)
  obtain ⟨C, hC⟩ : ∃ C : Int, C = if d ^ k ≤ 1024 then 0 else 3 := ⟨_, rfl⟩
  obtain ⟨L, hL⟩ : ∃ L : List Int, L = if d ^ k ≤ 1024 then wqF d k else [] := ⟨_, rfl⟩
  rw [← hC, ← hL]
  have HC := Lib.hid hC; have HL := Lib.hid hL
  clear hC hL
  have hq : Hid (d ^ k ≤ 1024 → ∀ W, Calls Try.prog 34 #[.int .i64 d, .int .i64 k] W fun e w' => (∃ u, e = .returned u ∧ Own w' W.heap.size u L) ∧ Below W.heap.size W w') := fun hs W => by
    obtain ⟨_, f2, f3, f4⟩ := wsAll_at h1 h2 h3 h4 hs
    have := specSq_some d k W 400 _ h1 h2 h3 h4 rfl f3 (by rw [f2, List.length_reverse]; exact f4)
    rw [f2] at this
    rw [HL.out, if_pos hs]
    exact this
  go_enter Try.func11, Try.ntmps11
  go_wp2_with (first | (go_at_call 28; with_reducible refine (i1 _).mono ?_; rintro e w' ⟨rfl, rfl⟩) | (go_at_call 28; with_reducible refine (i2 _).mono ?_; rintro e w' ⟨rfl, rfl⟩))
  clear i1 i2
  go_loop [6, 7] (fun c i => ∃ j : Nat, j ≤ k ∧ i = .int .i64 j ∧ c = .int .i64 (capS (pw d j) : Nat)) (fun _ i => k - (intOf i).toNat)
  case atStart => exact ⟨0, Nat.zero_le _, rfl, rfl⟩
  case round =>
    obtain ⟨j, hj, rfl, rfl⟩ := hrel
    by_cases hlt : (j : Int) < k
    · have HM := Lib.hid (capS_i (pw d j) d h1)
      have hle := capS_le (pw d j)
      have hml : capS (pw d j) * d ≤ 1025 * 10 := Nat.mul_le_mul hle h2
      have q0 : 0 ≤ ((capS (pw d j) : Nat) : Int) * (d : Int) := by rw [← Int.natCast_mul]; omega
      have q1 : ((capS (pw d j) : Nat) : Int) * (d : Int) ≤ 10250 := by rw [← Int.natCast_mul]; omega
      clear hml hle
      go_wp2_with fail
      go_round
      case rel => exact ⟨j + 1, by omega, by go_num, by rw [HM.out, pw_succ]⟩
      case measure => simp [intOf]; omega
    · obtain rfl : j = k := by omega
      by_cases hs : d ^ j ≤ 1024
      · have hcl : ¬ (1024 : Int) < (capS (pw d j) : Nat) := by unfold capS pw; omega
        have hQ := hq.out hs
        have HC0 : Hid (C = 0) := by show _ = _; rw [HC.out, if_pos hs]
        clear hs
        go_wp2_with (go_at_call 34; refine (hQ _).mono ?_; rintro e w' ⟨⟨u, rfl, hO⟩, hb⟩; obtain ⟨ua, ul, uc, rfl⟩ := own_slice9 hO; have HO := Lib.hid hO; have HB := Lib.hid hb; clear hO hb)
        go_ret2
        exact ⟨⟨_, by rw [HC0.out]; rfl, HO.out⟩, HB.out⟩
      · have hcl : (1024 : Int) < (capS (pw d j) : Nat) := by unfold capS pw; omega
        have HC0 : Hid (C = 3) := by show _ = _; rw [HC.out, if_neg hs]
        have HL0 : Hid (L = []) := by show _ = _; rw [HL.out, if_neg hs]
        clear hs
        go_wp2_with fail
        go_ret2
        exact ⟨⟨_, by rw [HC0.out]; rfl, by rw [HL0.out]; exact Own.nil _ _⟩, Below.refl _ _⟩

theorem implWq_any (d k : Int) (w : World) : Calls Try.prog 12 #[.int .i64 d, .int .i64 k] w fun e w' => QRes w.heap.size (wqL d k) (wqC d k) e w' ∧ Below w.heap.size w w' := by
  unfold wqL wqC
  cases h : wqOk d k
  · exact implWq_no d k w h
  · obtain ⟨a, b, rfl, rfl, h1, h2, h3, h4⟩ := wq_nat h
    exact implWq_yes a b w h1 h2 h3 h4
theorem specWq_any (d k : Int) (w : World) : Calls Try.prog 11 #[.int .i64 d, .int .i64 k] w fun e w' => QRes w.heap.size (wqL d k) (wqC d k) e w' ∧ Below w.heap.size w w' := by
  unfold wqL wqC
  cases h : wqOk d k
  · exact specWq_no d k w h
  · obtain ⟨a, b, rfl, rfl, h1, h2, h3, h4⟩ := wq_nat h
    exact specWq_yes a b w h1 h2 h3 h4
end Go.Proofs.Ytaekecccpgcgiaa
