/-
  Groups in memory: laws.toGroup, spec.l05Is, spec.IsGroup, impl.groupBehind, impl.IsGroup. (A plain seat.)
-/
import Derived.Test.YtklgimikdnokcaaDoorPg
import Derived.Test.YtklgimikdnokcaaDoorGm
import Derived.Handy
namespace Go.Proofs.YtklgimikdnokcaaDoor
set_option maxRecDepth 100000
open Go.RowKit

/-- A group's value. -/
def gv (a b : Int) : Value := .agg #[.int .i64 a, .int .i64 b]
/-- Is it a group? -/
def isGr (a b : Int) : Bool := decide (0 ≤ a) && decide (0 ≤ b) && gOk a.toNat b.toNat

theorem isGr_nat {a b : Int} (h : isGr a b = true) : ∃ k p : Nat, a = k ∧ b = p ∧ gOk k p = true := by
  unfold isGr at h
  simp only [Bool.and_eq_true, decide_eq_true_eq] at h
  exact ⟨a.toNat, b.toNat, by omega, by omega, h.2⟩
theorem isGr_cast (k p : Nat) : isGr k p = gOk k p := by simp [isGr]
theorem isGr_0 (b : Int) : isGr 0 b = (decide (1 ≤ b) && decide (b ≤ 62)) := by
  by_cases h : 0 ≤ b
  · obtain ⟨p, rfl⟩ := Int.eq_ofNat_of_zero_le h
    have := isGr_cast 0 p
    rw [Int.natCast_zero] at this
    rw [this]
    simp [gOk]
    congr 1
    · congr 1; apply propext; omega
    · congr 1; apply propext; omega
  · rw [show decide (1 ≤ b) = false by simp; omega]
    simp [isGr, h]
theorem isGr_1 (b : Int) : isGr 1 b = (decide (1 ≤ b) && decide (b ≤ 31)) := by
  by_cases h : 0 ≤ b
  · obtain ⟨p, rfl⟩ := Int.eq_ofNat_of_zero_le h
    have := isGr_cast 1 p
    rw [Int.natCast_one] at this
    rw [this]
    simp [gOk]
    congr 1
    · congr 1; apply propext; omega
    · congr 1; apply propext; omega
  · rw [show decide (1 ≤ b) = false by simp; omega]
    simp [isGr, h]
theorem isGr_2 (b : Int) : isGr 2 b = decide (b = 2 ∨ b = 3 ∨ b = 5 ∨ b = 7) := by
  by_cases h : 0 ≤ b
  · obtain ⟨p, rfl⟩ := Int.eq_ofNat_of_zero_le h
    have := isGr_cast 2 p
    rw [show ((2 : Nat) : Int) = 2 from rfl] at this
    rw [this, Bool.eq_iff_iff]
    simp only [gOk, Bool.or_eq_true, beq_iff_eq, decide_eq_true_eq]
    omega
  · rw [show decide (b = 2 ∨ b = 3 ∨ b = 5 ∨ b = 7) = false by simp; omega]
    simp [isGr, h]
theorem isGr_else (a b : Int) (h0 : a ≠ 0) (h1 : a ≠ 1) (h2 : a ≠ 2) : isGr a b = false := by
  rw [← Bool.not_eq_true]
  intro h
  obtain ⟨k, p, rfl, rfl, hg⟩ := isGr_nat h
  have := (gOk_lt hg).1
  omega

set_option maxHeartbeats 800000 in
theorem l05Prime_yes (q : Int) (w : World) (h : q = 2 ∨ q = 3 ∨ q = 5 ∨ q = 7) :
    Calls Tryd.prog 66 #[.int .i64 q] w fun e w' => e = .returned (.bool true) ∧ w = w' := by
  rcases h with rfl | rfl | rfl | rfl
  all_goals
    go_enter Tryd.func66, Tryd.ntmps66
    go_wp2
    go_ret
    exact ⟨rfl, rfl⟩
set_option maxHeartbeats 800000 in
theorem l05Prime_no (q : Int) (w : World) (h : ¬ (q = 2 ∨ q = 3 ∨ q = 5 ∨ q = 7)) :
    Calls Tryd.prog 66 #[.int .i64 q] w fun e w' => e = .returned (.bool false) ∧ w = w' := by
  have h1 : (q == 2) = false := by rw [beq_eq_false_iff_ne]; intro e; exact h (by simp [e])
  have h2 : (q == 3) = false := by rw [beq_eq_false_iff_ne]; intro e; exact h (by simp [e])
  have h3 : (q == 5) = false := by rw [beq_eq_false_iff_ne]; intro e; exact h (by simp [e])
  have h4 : (q == 7) = false := by rw [beq_eq_false_iff_ne]; intro e; exact h (by simp [e])
  clear h
  go_enter Tryd.func66, Tryd.ntmps66
  go_wp2
  go_ret
  exact ⟨rfl, rfl⟩
theorem l05Prime_any (q : Int) (w : World) :
    Calls Tryd.prog 66 #[.int .i64 q] w fun e w' => e = .returned (.bool (decide (q = 2 ∨ q = 3 ∨ q = 5 ∨ q = 7))) ∧ w = w' := by
  by_cases h : q = 2 ∨ q = 3 ∨ q = 5 ∨ q = 7
  · rw [decide_eq_true h]; exact l05Prime_yes q w h
  · rw [decide_eq_false h]; exact l05Prime_no q w h
set_option maxHeartbeats 800000 in
theorem isPrime_yes (q : Int) (w : World) (h : q = 2 ∨ q = 3 ∨ q = 5 ∨ q = 7) :
    Calls Tryd.prog 65 #[.int .i64 q] w fun e w' => e = .returned (.bool true) ∧ w = w' := by
  rcases h with rfl | rfl | rfl | rfl
  all_goals
    go_enter Tryd.func65, Tryd.ntmps65
    go_wp2
    go_ret
    exact ⟨rfl, rfl⟩
set_option maxHeartbeats 800000 in
theorem isPrime_no (q : Int) (w : World) (h : ¬ (q = 2 ∨ q = 3 ∨ q = 5 ∨ q = 7)) :
    Calls Tryd.prog 65 #[.int .i64 q] w fun e w' => e = .returned (.bool false) ∧ w = w' := by
  have h1 : (q == 2) = false := by rw [beq_eq_false_iff_ne]; intro e; exact h (by simp [e])
  have h2 : (q == 3) = false := by rw [beq_eq_false_iff_ne]; intro e; exact h (by simp [e])
  have h3 : (q == 5) = false := by rw [beq_eq_false_iff_ne]; intro e; exact h (by simp [e])
  have h4 : (q == 7) = false := by rw [beq_eq_false_iff_ne]; intro e; exact h (by simp [e])
  clear h
  go_enter Tryd.func65, Tryd.ntmps65
  go_wp2
  go_ret
  exact ⟨rfl, rfl⟩
theorem isPrime_any (q : Int) (w : World) :
    Calls Tryd.prog 65 #[.int .i64 q] w fun e w' => e = .returned (.bool (decide (q = 2 ∨ q = 3 ∨ q = 5 ∨ q = 7))) ∧ w = w' := by
  by_cases h : q = 2 ∨ q = 3 ∨ q = 5 ∨ q = 7
  · rw [decide_eq_true h]; exact isPrime_yes q w h
  · rw [decide_eq_false h]; exact isPrime_no q w h

theorem infoG : (Tryd.prog.info? 27).map (·.size) = some 2 := by kernel_rfl

set_option maxHeartbeats 800000 in
theorem toGroup_any (a b : Int) (w : World) :
    Calls Tryd.prog 10 #[gv a b] w fun e w' => e = .returned (gv a b) ∧ Below w.heap.size w w' := by
  have D0 : Below w.heap.size w (((w.alloc (.cells #[.int .i64 a, .int .i64 b] 23)).alloc (.cells #[.int .i64 a, .int .i64 b] 27)).alloc (.cells #[.int .i64 a, .int .i64 b] 27)) := (((Below.refl _ _).alloc (Nat.le_refl _) _).alloc (by simp) _).alloc (by simp; omega) _
  have HR : (((w.alloc (.cells #[.int .i64 a, .int .i64 b] 23)).alloc (.cells #[.int .i64 a, .int .i64 b] 27)).alloc (.cells #[.int .i64 a, .int .i64 b] 27)).heap[w.heap.size + 1]? = some (.cells #[.int .i64 a, .int .i64 b] 27 (0, 0)) := heap_old_at (heap_new_at _ _ _ (by simp)) _
  unfold gv
  go_enter Tryd.func10, Tryd.ntmps10
  go_wp2
  exact bodyPost_ret (v := .agg #[.int .i64 a, .int .i64 b]) (results_cell_row (p := 2) (ty := 27) rfl _ _ (w.heap.size + 1) 27 _ (0, 0) _ rfl HR Tryd.underlying27 rfl (by exact infoG)) rfl ⟨rfl, D0⟩

set_option maxHeartbeats 800000 in
theorem l05Is_any (a b : Int) (w : World) :
    Calls Tryd.prog 55 #[gv a b] w fun e w' => e = .returned (.bool (isGr a b)) ∧ Below w.heap.size w w' := by
  have D0 : Below w.heap.size w (w.alloc (.cells #[.int .i64 a, .int .i64 b] 27)) := (Below.refl _ _).alloc (Nat.le_refl _) _
  unfold gv
  by_cases h0 : a = 0
  · subst h0
    rw [isGr_0]
    go_enter Tryd.func55, Tryd.ntmps55
    go_wp2_with (go_at_call 40; refine (in_any b 1 62 _).mono ?_; rintro e w1 ⟨rfl, rfl⟩)
    go_ret
    exact ⟨rfl, D0⟩
  · by_cases h1 : a = 1
    · subst h1
      rw [isGr_1]
      go_enter Tryd.func55, Tryd.ntmps55
      go_wp2_with (go_at_call 40; refine (in_any b 1 31 _).mono ?_; rintro e w1 ⟨rfl, rfl⟩)
      go_ret
      exact ⟨rfl, D0⟩
    · by_cases h2 : a = 2
      · subst h2
        rw [isGr_2]
        go_enter Tryd.func55, Tryd.ntmps55
        go_wp2_with (go_at_call 66; refine (l05Prime_any b _).mono ?_; rintro e w1 ⟨rfl, rfl⟩)
        go_ret
        exact ⟨ret_bool (by simp), D0⟩
      · rw [isGr_else a b h0 h1 h2]
        have e0 : (a == 0) = false := by simpa using h0
        have e1 : (a == 1) = false := by simpa using h1
        have e2 : (a == 2) = false := by simpa using h2
        go_enter Tryd.func55, Tryd.ntmps55
        go_wp2
        go_ret
        exact ⟨rfl, D0⟩


/-- What stands behind a group. -/
def gIf : Nat → Nat → Value
  | 0, p => .iface 84 (.agg #[.int .i64 p])
  | 1, p => .iface 85 (.agg #[.int .i64 p])
  | _, p => .iface 88 (.agg #[.int .i64 p])

set_option maxHeartbeats 1600000 in
theorem groupBehind_0 (p : Nat) (w : World) (h : gOk 0 p = true) :
    Calls Tryd.prog 53 #[gv 0 p] w fun e w' => e = .returned (.tuple #[gIf 0 p, .bool true]) ∧ Below w.heap.size w w' := by
  have D0 : Below w.heap.size w (w.alloc (.cells #[.int .i64 0, .int .i64 p] 27)) := (Below.refl _ _).alloc (Nat.le_refl _) _
  simp [gOk] at h
  have h1 : (1 : Int) ≤ p := by omega
  have h2 : (p : Int) ≤ 62 := by omega
  unfold gv gIf
  go_enter Tryd.func53, Tryd.ntmps53
  go_wp2
  go_ret2
  exact ⟨rfl, D0⟩

set_option maxHeartbeats 1600000 in
theorem groupBehind_1 (p : Nat) (w : World) (h : gOk 1 p = true) :
    Calls Tryd.prog 53 #[gv 1 p] w fun e w' => e = .returned (.tuple #[gIf 1 p, .bool true]) ∧ Below w.heap.size w w' := by
  have D0 : Below w.heap.size w (w.alloc (.cells #[.int .i64 1, .int .i64 p] 27)) := (Below.refl _ _).alloc (Nat.le_refl _) _
  simp [gOk] at h
  have h1 : (1 : Int) ≤ p := by omega
  have h2 : (p : Int) ≤ 31 := by omega
  unfold gv gIf
  go_enter Tryd.func53, Tryd.ntmps53
  go_wp2
  go_ret2
  exact ⟨rfl, D0⟩

set_option maxHeartbeats 1600000 in
theorem groupBehind_2 (p : Nat) (w : World) (h : gOk 2 p = true) :
    Calls Tryd.prog 53 #[gv 2 p] w fun e w' => e = .returned (.tuple #[gIf 2 p, .bool true]) ∧ Below w.heap.size w w' := by
  have D0 : Below w.heap.size w (w.alloc (.cells #[.int .i64 2, .int .i64 p] 27)) := (Below.refl _ _).alloc (Nat.le_refl _) _
  have hp := fun W => isPrime_yes p W (by simp [gOk] at h; omega)
  clear h
  unfold gv gIf
  go_enter Tryd.func53, Tryd.ntmps53
  go_wp2_with (go_at_call 65; refine (hp _).mono ?_; rintro e w1 ⟨rfl, rfl⟩)
  go_ret2
  exact ⟨rfl, D0⟩

set_option maxHeartbeats 1600000 in
theorem groupBehind_no (a b : Int) (w : World) (h : isGr a b = false) :
    Calls Tryd.prog 53 #[gv a b] w fun e w' => e = .returned (.tuple #[.nilIface, .bool false]) ∧ Below w.heap.size w w' := by
  have D0 : Below w.heap.size w (w.alloc (.cells #[.int .i64 a, .int .i64 b] 27)) := (Below.refl _ _).alloc (Nat.le_refl _) _
  unfold gv
  by_cases h0 : a = 0
  · subst h0
    rw [isGr_0] at h
    by_cases h1 : 1 ≤ b
    · have h2 : ¬ b ≤ 62 := by intro h2; simp [h1, h2] at h
      clear h
      go_enter Tryd.func53, Tryd.ntmps53
      go_wp2
      go_ret2
      exact ⟨rfl, D0⟩
    · clear h
      go_enter Tryd.func53, Tryd.ntmps53
      go_wp2
      go_ret2
      exact ⟨rfl, D0⟩
  · by_cases h1 : a = 1
    · subst h1
      rw [isGr_1] at h
      by_cases h1 : 1 ≤ b
      · have h2 : ¬ b ≤ 31 := by intro h2; simp [h1, h2] at h
        clear h
        go_enter Tryd.func53, Tryd.ntmps53
        go_wp2
        go_ret2
        exact ⟨rfl, D0⟩
      · clear h
        go_enter Tryd.func53, Tryd.ntmps53
        go_wp2
        go_ret2
        exact ⟨rfl, D0⟩
    · have e0 : (a == 0) = false := by simpa using h0
      have e1 : (a == 1) = false := by simpa using h1
      by_cases h2 : a = 2
      · subst h2
        rw [isGr_2] at h
        have hp := fun W => isPrime_no b W (of_decide_eq_false h)
        clear h
        go_enter Tryd.func53, Tryd.ntmps53
        go_wp2_with (go_at_call 65; refine (hp _).mono ?_; rintro e w1 ⟨rfl, rfl⟩)
        go_ret2
        exact ⟨rfl, D0⟩
      · have e2 : (a == 2) = false := by simpa using h2
        clear h
        go_enter Tryd.func53, Tryd.ntmps53
        go_wp2
        go_ret2
        exact ⟨rfl, D0⟩

set_option maxHeartbeats 800000 in
theorem groupBehind_yes (k p : Nat) (w : World) (h : gOk k p = true) :
    Calls Tryd.prog 53 #[gv k p] w fun e w' => e = .returned (.tuple #[gIf k p, .bool true]) ∧ Below w.heap.size w w' := by
  match k, h with
  | 0, h => exact groupBehind_0 p w h
  | 1, h => exact groupBehind_1 p w h
  | 2, h => exact groupBehind_2 p w h
  | k + 3, h => simp [gOk] at h

set_option maxHeartbeats 800000 in
theorem implIsGroup_any (a b : Int) (w : World) :
    Calls Tryd.prog 42 #[gv a b] w fun e w' => e = .returned (.bool (isGr a b)) ∧ Below w.heap.size w w' := by
  have D0 : Below w.heap.size w (w.alloc (.cells #[.int .i64 a, .int .i64 b] 27)) := (Below.refl _ _).alloc (Nat.le_refl _) _
  cases h : isGr a b
  · have hc := groupBehind_no a b (w.alloc (.cells #[.int .i64 a, .int .i64 b] 27)) h
    unfold gv at *
    go_enter Tryd.func42, Tryd.ntmps42
    go_wp2_with (go_at_call 53; refine hc.mono ?_; rintro e w1 ⟨rfl, hb⟩)
    go_ret
    exact ⟨rfl, D0.trans (hb.mono (by simp))⟩
  · obtain ⟨k, p, rfl, rfl, hg⟩ := isGr_nat h
    have hc := groupBehind_yes k p (w.alloc (.cells #[.int .i64 k, .int .i64 p] 27)) hg
    unfold gv at *
    go_enter Tryd.func42, Tryd.ntmps42
    go_wp2_with (go_at_call 53; refine hc.mono ?_; rintro e w1 ⟨rfl, hb⟩)
    go_ret
    exact ⟨rfl, D0.trans (hb.mono (by simp))⟩
end Go.Proofs.YtklgimikdnokcaaDoor
