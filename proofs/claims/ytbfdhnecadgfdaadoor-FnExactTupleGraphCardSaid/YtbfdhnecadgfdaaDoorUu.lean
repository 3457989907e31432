/-
  spec.TupleGraph whatever comes in.
-/
import Derived.Test.YtbfdhnecadgfdaaDoorUt
namespace Go.Proofs.YtbfdhnecadgfdaaDoor
set_option maxRecDepth 100000
open Go.RowKit

set_option maxHeartbeats 1600000 in
theorem specTu_no (x y : Int) (w : World) (h : tuOk x y = false) :
    Calls Tryd.prog 22 #[.int .i64 x, .int .i64 y] w fun e w' => GRes w.heap.size 0 [] 2 e w' ∧ Below w.heap.size w w' := by
  have hc : ¬ (y = 2 ∨ y = 3 ∨ y = 5 ∨ y = 7) ∨ ((y = 2 ∨ y = 3 ∨ y = 5 ∨ y = 7) ∧ ¬ (2 ≤ x ∧ x ≤ 4)) := by
    by_cases h1 : y = 2 ∨ y = 3 ∨ y = 5 ∨ y = 7
    · refine .inr ⟨h1, fun h2 => ?_⟩
      have : tuOk x y = true := by unfold tuOk isP; simp only [Bool.and_eq_true, decide_eq_true_eq]; exact ⟨h2, h1⟩
      rw [this] at h; cases h
    · exact .inl h1
  clear h
  have D0 : Below w.heap.size w (w.alloc (.cells #[.int .i64 0, .slice none 0 0] 34)) := (Below.refl _ _).alloc (Nat.le_refl _) _
  have RB := Lib.hid (World.alloc_heap_new w (.cells #[.int .i64 0, .slice none 0 0] 34))
  obtain ⟨W, hW⟩ : ∃ W, W = w.alloc (.cells #[.int .i64 0, .slice none 0 0] 34) := ⟨_, rfl⟩
  rw [← hW] at D0 RB
  rcases hc with h1 | ⟨h1, h2⟩
  · have HPR := Lib.hid (fun W1 => l04Prime_no y W1 h1)
    clear h1
    go_enter Tryd.func22, Tryd.ntmps22
    go_wp2_with (go_at_call 42; refine (HPR.out _).mono ?_; rintro e w' ⟨rfl, rfl⟩)
    rw [← hW]
    exact bodyPost_ret (v := .tuple #[.agg #[.int .i64 0, .slice none 0 0], .int .i64 2]) (results_cell2 (p := 4) (u := 5) (ty := 34) rfl _ _ w.heap.size 34 _ (0, 0) _ rfl RB.out Tryd.underlying34 rfl (by exact info27)) rfl ⟨⟨_, rfl, Own.nil _ _⟩, D0⟩
  · have HPR := Lib.hid (fun W1 => l04Prime_yes y W1 h1)
    have hin : ∀ W1, Calls Tryd.prog 48 #[.int .i64 x, .int .i64 2, .int .i64 4] W1 fun e w' => e = .returned (.bool false) ∧ W1 = w' := fun W1 => by
      have h := in_any x 2 4 W1
      have e : (decide ((2 : Int) ≤ x) && decide (x ≤ 4)) = false := by rw [← Bool.decide_and, decide_eq_false h2]
      rw [e] at h; exact h
    have HIN := Lib.hid hin
    clear h1 h2 hin
    go_enter Tryd.func22, Tryd.ntmps22
    go_wp2_with (first
      | (go_at_call 42; refine (HPR.out _).mono ?_; rintro e w' ⟨rfl, rfl⟩)
      | (go_at_call 48; refine (HIN.out _).mono ?_; rintro e w' ⟨rfl, rfl⟩))
    rw [← hW]
    exact bodyPost_ret (v := .tuple #[.agg #[.int .i64 0, .slice none 0 0], .int .i64 2]) (results_cell2 (p := 4) (u := 5) (ty := 34) rfl _ _ w.heap.size 34 _ (0, 0) _ rfl RB.out Tryd.underlying34 rfl (by exact info27)) rfl ⟨⟨_, rfl, Own.nil _ _⟩, D0⟩

theorem specTu_any (x y : Int) (w : World) :
    Calls Tryd.prog 22 #[.int .i64 x, .int .i64 y] w fun e w' => GRes w.heap.size (TuN x y) (TuL x y) (TuC x y) e w' ∧ Below w.heap.size w w' := by
  cases h : tuOk x y with
  | true =>
    rw [show TuN x y = tuN x.toNat y.toNat by simp [TuN, h], show TuL x y = tuL x.toNat y.toNat by simp [TuL, h], show TuC x y = tuC x.toNat y.toNat by simp [TuC, h]]
    unfold tuOk isP at h
    simp only [Bool.and_eq_true, decide_eq_true_eq] at h
    obtain ⟨h1, h2⟩ := h
    have ex : ((x.toNat : Nat) : Int) = x := by omega
    have ey : ((y.toNat : Nat) : Int) = y := by omega
    have := specTu_yes x.toNat y.toNat w (by omega) (by omega)
    rw [ex, ey] at this
    exact this
  | false =>
    rw [show TuN x y = 0 by simp [TuN, h], show TuL x y = [] by simp [TuL, h], show TuC x y = 2 by simp [TuC, h]]
    exact specTu_no x y w h
end Go.Proofs.YtbfdhnecadgfdaaDoor
