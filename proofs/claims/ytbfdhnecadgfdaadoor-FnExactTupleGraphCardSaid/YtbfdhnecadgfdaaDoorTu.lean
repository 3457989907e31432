/-
  impl.isPrime, planePoint.times, planePoint.isOn; spec.l04Prime.
-/
import Derived.Test.YtbfdhnecadgfdaaDoorTr
namespace Go.Proofs.YtbfdhnecadgfdaaDoor
set_option maxRecDepth 100000
open Go.RowKit

def primeB (q : Int) : Bool := decide (q = 2 ∨ q = 3 ∨ q = 5 ∨ q = 7)
theorem primeB_iff (q : Int) : primeB q = true ↔ q = 2 ∨ q = 3 ∨ q = 5 ∨ q = 7 := by unfold primeB; rw [decide_eq_true_eq]

set_option maxHeartbeats 800000 in
theorem isPrime_yes (q : Int) (w : World) (h : q = 2 ∨ q = 3 ∨ q = 5 ∨ q = 7) :
    Calls Tryd.prog 52 #[.int .i64 q] w fun e w' => e = .returned (.bool true) ∧ w = w' := by
  rcases h with rfl | rfl | rfl | rfl
  all_goals
    go_enter Tryd.func52, Tryd.ntmps52
    go_wp2
    go_ret
    exact ⟨rfl, rfl⟩
set_option maxHeartbeats 800000 in
theorem isPrime_no (q : Int) (w : World) (h : ¬ (q = 2 ∨ q = 3 ∨ q = 5 ∨ q = 7)) :
    Calls Tryd.prog 52 #[.int .i64 q] w fun e w' => e = .returned (.bool false) ∧ w = w' := by
  have h1 : (q == 2) = false := by rw [beq_eq_false_iff_ne]; intro e; exact h (by simp [e])
  have h2 : (q == 3) = false := by rw [beq_eq_false_iff_ne]; intro e; exact h (by simp [e])
  have h3 : (q == 5) = false := by rw [beq_eq_false_iff_ne]; intro e; exact h (by simp [e])
  have h4 : (q == 7) = false := by rw [beq_eq_false_iff_ne]; intro e; exact h (by simp [e])
  clear h
  go_enter Tryd.func52, Tryd.ntmps52
  go_wp2
  go_ret
  exact ⟨rfl, rfl⟩
set_option maxHeartbeats 800000 in
theorem l04Prime_yes (q : Int) (w : World) (h : q = 2 ∨ q = 3 ∨ q = 5 ∨ q = 7) :
    Calls Tryd.prog 42 #[.int .i64 q] w fun e w' => e = .returned (.bool true) ∧ w = w' := by
  rcases h with rfl | rfl | rfl | rfl
  all_goals
    go_enter Tryd.func42, Tryd.ntmps42
    go_wp2
    go_ret
    exact ⟨rfl, rfl⟩
set_option maxHeartbeats 800000 in
theorem l04Prime_no (q : Int) (w : World) (h : ¬ (q = 2 ∨ q = 3 ∨ q = 5 ∨ q = 7)) :
    Calls Tryd.prog 42 #[.int .i64 q] w fun e w' => e = .returned (.bool false) ∧ w = w' := by
  have h1 : (q == 2) = false := by rw [beq_eq_false_iff_ne]; intro e; exact h (by simp [e])
  have h2 : (q == 3) = false := by rw [beq_eq_false_iff_ne]; intro e; exact h (by simp [e])
  have h3 : (q == 5) = false := by rw [beq_eq_false_iff_ne]; intro e; exact h (by simp [e])
  have h4 : (q == 7) = false := by rw [beq_eq_false_iff_ne]; intro e; exact h (by simp [e])
  clear h
  go_enter Tryd.func42, Tryd.ntmps42
  go_wp2
  go_ret
  exact ⟨rfl, rfl⟩

theorem prod_bd {a b : Int} (ha : 0 ≤ a) (ha2 : a ≤ 6) (hb : 0 ≤ b) (hb2 : b ≤ 6) : 0 ≤ a * b ∧ a * b ≤ 36 := by
  refine ⟨Int.mul_nonneg ha hb, ?_⟩
  have : a * b ≤ 6 * 6 := Int.mul_le_mul ha2 hb2 hb (by omega)
  omega

theorem info3T : (Tryd.prog.info? 53).map (·.size) = some 3 := by kernel_rfl
theorem three_at {w : World} {k : Nat} {x y z : Value} {t : TypeId} (h : w.heap[k]? = some (.cells #[x, y, z] t (0, 0))) : (w.cell? ⟨k, 0, none⟩ = some x ∧ w.cell? ⟨k, 1, none⟩ = some y ∧ w.cell? ⟨k, 2, none⟩ = some z) ∧ w.frozen? ⟨k, 0, none⟩ = false ∧ w.frozen? ⟨k, 1, none⟩ = false ∧ w.frozen? ⟨k, 2, none⟩ = false :=
  ⟨⟨by rw [cell_of_row w k 0 _ _ _ h]; rfl, by rw [cell_of_row w k 1 _ _ _ h]; rfl, by rw [cell_of_row w k 2 _ _ _ h]; rfl⟩, frozen_of_row w k 0 _ _ h, frozen_of_row w k 1 _ _ h, frozen_of_row w k 2 _ _ h⟩

set_option maxHeartbeats 1600000 in
theorem isOn_any (q a b c d e f : Int) (w : World) (r : Bool) (hq : 2 ≤ q ∧ q ≤ 7) (ha : 0 ≤ a ∧ a ≤ 6) (hb : 0 ≤ b ∧ b ≤ 6) (hc : 0 ≤ c ∧ c ≤ 6) (hd : 0 ≤ d ∧ d ≤ 6) (he : 0 ≤ e ∧ e ≤ 6) (hf : 0 ≤ f ∧ f ≤ 6) (hr : ((a * d + b * e + c * f) % q == 0) = r) :
    Calls Tryd.prog 46 #[.agg #[.int .i64 a, .int .i64 b, .int .i64 c], .int .i64 q, .agg #[.int .i64 d, .int .i64 e, .int .i64 f]] w fun en w' => en = .returned (.bool r) ∧ Below w.heap.size w w' := by
  obtain ⟨p1, p2⟩ := prod_bd ha.1 ha.2 hd.1 hd.2
  obtain ⟨p3, p4⟩ := prod_bd hb.1 hb.2 he.1 he.2
  obtain ⟨p5, p6⟩ := prod_bd hc.1 hc.2 hf.1 hf.2
  obtain ⟨q1, q2⟩ := hq
  obtain ⟨W, hW⟩ : ∃ W, W = (w.alloc (.cells #[.int .i64 a, .int .i64 b, .int .i64 c] 53)).alloc (.cells #[.int .i64 d, .int .i64 e, .int .i64 f] 53) := ⟨_, rfl⟩
  have D0 : Below w.heap.size w W := by rw [hW]; exact ((Below.refl _ _).alloc (Nat.le_refl _) _).alloc (by simp) _
  have H1 : Hid (W.heap[w.heap.size]? = some (.cells #[.int .i64 a, .int .i64 b, .int .i64 c] 53 (0, 0))) := by rw [hW]; exact heap_old_at (World.alloc_heap_new w _) _
  have H2 : Hid (W.heap[w.heap.size + 1]? = some (.cells #[.int .i64 d, .int .i64 e, .int .i64 f] 53 (0, 0))) := by rw [hW]; exact heap_new_at _ _ _ (by simp)
  have HR := Lib.hid hr
  clear hr ha hb hc hd he hf
  go_enter Tryd.func46, Tryd.ntmps46
  go_wp2_with fail
  rw [← hW]
  clear hW
  go_loopw [7, 9] (fun s i wr => Hid (wr.heap[w.heap.size]? = some (.cells #[.int .i64 a, .int .i64 b, .int .i64 c] 53 (0, 0))) ∧ Hid (wr.heap[w.heap.size + 1]? = some (.cells #[.int .i64 d, .int .i64 e, .int .i64 f] 53 (0, 0))) ∧ Below w.heap.size w wr ∧
    ((i = .int .i64 0 ∧ s = .int .i64 0) ∨ (i = .int .i64 1 ∧ s = .int .i64 (a * d)) ∨ (i = .int .i64 2 ∧ s = .int .i64 (a * d + b * e)) ∨ (i = .int .i64 3 ∧ s = .int .i64 (a * d + b * e + c * f)))) (fun _ i _ => 3 - (intOf i).toNat)
  case atStart => exact ⟨H1, H2, D0, .inl ⟨rfl, rfl⟩⟩
  case round =>
    obtain ⟨K1, K2, hE, hc⟩ := hrel
    obtain ⟨⟨x0, x1, x2⟩, -⟩ := three_at K1.out
    obtain ⟨⟨y0, y1, y2⟩, -⟩ := three_at K2.out
    rcases hc with ⟨rfl, rfl⟩ | ⟨rfl, rfl⟩ | ⟨rfl, rfl⟩ | ⟨rfl, rfl⟩
    · go_wp2
      go_quiet (fail)
      go_wp2
      go_roundw
      case rel => exact ⟨K1, K2, drewN_below hE _, .inr (.inl ⟨by go_num, by go_num⟩)⟩
      case measure => simp [intOf]
    · go_wp2
      go_quiet (fail)
      go_wp2
      go_roundw
      case rel => exact ⟨K1, K2, drewN_below hE _, .inr (.inr (.inl ⟨by go_num, by go_num⟩))⟩
      case measure => simp [intOf]
    · go_wp2
      go_quiet (fail)
      go_wp2
      go_roundw
      case rel => exact ⟨K1, K2, drewN_below hE _, .inr (.inr (.inr ⟨by go_num, by go_num⟩))⟩
      case measure => simp [intOf]
    · go_wp2
      go_ret
      exact ⟨ret_bool HR.out, hE⟩
end Go.Proofs.YtbfdhnecadgfdaaDoor
