/-
  Products back: plain facts; the edges of a Cayley graph.
-/
import Derived.Test.YtklgimikdnokcaaDoorCm
namespace Go.Proofs.YtklgimikdnokcaaDoor
set_option maxRecDepth 100000
open Go.RowKit

theorem back_all : allB (fun k => allB (fun p => !gOk (k + 1) p || allB (fun x => allB (fun y => gQuo (k + 1) p (gMul (k + 1) p x y) y == x && gMul (k + 1) p (gQuo (k + 1) p x y) y == x) (gOrd (k + 1) p)) (gOrd (k + 1) p)) 32) 2 = true := by kernel_rfl
theorem group_back {k p v w s : Nat} (h : gOk k p = true) (hv : v < gOrd k p) (hw : w < gOrd k p) (hs : s < gOrd k p) : v = gMul k p w s ↔ w = gQuo k p v s := by
  match k, h, hv, hw, hs with
  | 0, h, hv, hw, hs => exact mod_back hv hw hs
  | k + 1, h, hv, hw, hs =>
    have hk : k < 2 := by have := (gOk_lt h).1; omega
    have hp : p < 32 := by
      match k, h with
      | 0, h => simp [gOk] at h; omega
      | 1, h => simp [gOk] at h; omega
      | k + 2, h => simp [gOk] at h
    have h1 := allB_at (allB_at back_all k hk) p hp
    rw [h] at h1
    have h2 : ∀ x y, x < gOrd (k + 1) p → y < gOrd (k + 1) p → gQuo (k + 1) p (gMul (k + 1) p x y) y = x ∧ gMul (k + 1) p (gQuo (k + 1) p x y) y = x := fun x y hx hy => by
      have t := allB_at (by simpa using h1) x hx
      have := allB_at t y hy
      simpa using this
    constructor
    · intro e; rw [e, (h2 w s hw hs).1]
    · intro e; rw [e, (h2 v s hv hs).2]

/-- The edges of a Cayley graph: those of x with the first t elements; those of the first x elements. -/
def cayR (k p : Nat) (js : List Int) (x : Nat) : Nat → List (Nat × Nat)
  | 0 => []
  | t + 1 => cayR k p js x t ++ [(x, gMul k p x (el js t).toNat)]
def cayS (k p : Nat) (js : List Int) : Nat → List (Nat × Nat)
  | 0 => []
  | x + 1 => cayS k p js x ++ cayR k p js x js.length
theorem cayR_any (k p : Nat) (js : List Int) (x : Nat) (f : Nat × Nat → Bool) : ∀ t, (cayR k p js x t).any f = (List.range t).any fun s => f (x, gMul k p x (el js s).toNat)
  | 0 => rfl
  | t + 1 => by rw [cayR, List.any_append, cayR_any k p js x f t, List.range_succ, List.any_append]; simp
theorem cayS_any (k p : Nat) (js : List Int) (f : Nat × Nat → Bool) : ∀ m, (cayS k p js m).any f = (List.range m).any fun x => (List.range js.length).any fun s => f (x, gMul k p x (el js s).toNat)
  | 0 => rfl
  | m + 1 => by rw [cayS, List.any_append, cayS_any k p js f m, cayR_any, List.range_succ, List.any_append]; simp
/-- Both programs' Cayley graphs are the same. -/
theorem cay_rows {k p : Nat} {js : List Int} (h : gOk k p = true) (hj : elOk (gOrd k p) js js.length = true) : rowsF (gOrd k p) (adjS (cayS k p js (gOrd k p))) = rowsF (gOrd k p) fun x => proF k p x js := by
  apply rowsF_congr
  intro v w hv hw
  unfold adjS proF mulF quoF
  rw [cayS_any, Bool.eq_iff_iff]
  simp only [List.any_eq_true, List.mem_range, Bool.or_eq_true, Bool.and_eq_true, beq_iff_eq]
  constructor
  · rintro ⟨i, hi, s, hs, ⟨rfl, rfl⟩ | ⟨h1, rfl⟩⟩
    · exact .inl ⟨s, hs, rfl⟩
    · have := elOk_at hj hs
      exact .inr ⟨s, hs, (group_back h hv hw (by omega)).1 h1⟩
  · rintro (⟨s, hs, e⟩ | ⟨s, hs, e⟩)
    · exact ⟨v, hv, s, hs, .inl ⟨rfl, e⟩⟩
    · have := elOk_at hj hs
      exact ⟨w, hw, s, hs, .inr ⟨(group_back h hv hw (by omega)).2 e, rfl⟩⟩
end Go.Proofs.YtklgimikdnokcaaDoor
