/-
  impl.graphOfKinds, over any closure of two captured variables.
-/
import Derived.Test.YthbfdblpgdhngaaDoorUfT
import Derived.OneCell
import Derived.Deep.DeepCutAuto
import Derived.Deep.RegionWith
namespace Go.Proofs.YthbfdblpgdhngaaDoor
set_option maxRecDepth 100000
open Go.RowKit Go.Maps Go.WideMaps Go.WideElems

theorem hmkf : ∀ (fn : Fn) (first cap : Array Value) (w : World), (Instr.makeFunc fn first cap).run Tryd.prog w = .ok (.func fn first cap) w := fun _ _ _ _ => rfl
theorem inS_iff (f : Nat → Nat → Bool) (x : Nat) : ∀ k p, p ∈ inS f x k ↔ p.1 < k ∧ p.2 = x ∧ f p.1 x = true
  | 0, p => by simp [inS]
  | k + 1, p => by
    have ih := inS_iff f x k p
    cases e : f k x with
    | true =>
      rw [inS_yes e, List.mem_append, List.mem_singleton, ih]
      constructor
      · rintro (⟨h1, h2, h3⟩ | rfl)
        · exact ⟨by omega, h2, h3⟩
        · exact ⟨Nat.lt_succ_self _, rfl, e⟩
      · rintro ⟨h1, h2, h3⟩
        by_cases h : p.1 = k
        · exact .inr (Prod.ext h h2)
        · exact .inl ⟨by omega, h2, h3⟩
    | false =>
      rw [inS_no e, ih]
      constructor
      · rintro ⟨h1, h2, h3⟩
        exact ⟨by omega, h2, h3⟩
      · rintro ⟨h1, h2, h3⟩
        refine ⟨?_, h2, h3⟩
        by_cases h : p.1 = k
        · rw [h, e] at h3; cases h3
        · omega
theorem whereS_iff (f : Nat → Nat → Bool) : ∀ n p, p ∈ whereS f n ↔ p.1 < p.2 ∧ p.2 < n ∧ f p.1 p.2 = true
  | 0, p => by simp [whereS]
  | n + 1, p => by
    rw [whereS, List.mem_append, whereS_iff f n p, inS_iff f n n p]
    constructor
    · rintro (⟨h1, h2, h3⟩ | ⟨h1, h2, h3⟩)
      · exact ⟨h1, by omega, h3⟩
      · rw [h2]; exact ⟨h1, by omega, h3⟩
    · rintro ⟨h1, h2, h3⟩
      by_cases h : p.2 = n
      · rw [h] at h1 h3; exact .inr ⟨h1, h, h3⟩
      · exact .inl ⟨h1, by omega, h3⟩

/-- Vertices of two kinds. -/
def kF (n : Nat) (f : Nat → Nat → Bool) : Nat → Nat → Bool := fun v x => decide (v < n) && (decide (n ≤ x) && f v (x - n))

end Go.Proofs.YthbfdblpgdhngaaDoor
