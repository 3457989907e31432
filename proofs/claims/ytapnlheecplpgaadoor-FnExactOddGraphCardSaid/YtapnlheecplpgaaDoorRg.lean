/-
  impl.ringGraph, impl.RingGraph.
-/
import Derived.Test.YtapnlheecplpgaaDoorGp
namespace Go.Proofs.YtapnlheecplpgaaDoor
set_option maxRecDepth 100000
open Go.RowKit Go.Maps Go.WideMaps Go.WideElems

theorem join_at (b : Nat) (S : List (Nat × Nat)) (x y : Nat) (xi yi : Int) (w : World) (h : PS w b S) (hS : S.length < 1048576) (hx : x < 1048576) (hy : y < 1048576) (ex : xi = (x : Int)) (ey : yi = (y : Int)) :
    Calls Tryd.prog 25 #[.map (some b), .int .i64 xi, .int .i64 yi] w fun e w' => (∃ v, e = .returned v) ∧ PS w' b (S ++ [(x, y)]) ∧ w.grownBy w' (some b) := by
  subst ex; subst ey
  exact join_any b S x y w h hS hx hy
theorem gop_at (n b : Nat) (N : Int) (S : List (Nat × Nat)) (w : World) (h : PS w b S) (hn : n ≤ 62) (hS : ∀ p, p ∈ S → p.1 < n ∧ p.2 < n) (eN : N = (n : Int)) :
    Calls Tryd.prog 14 #[.int .i64 N, .map (some b)] w fun e w' => GRet w.heap.size n (rowsF n (adjS S)) e w' ∧ Below w.heap.size w w' := by
  subst eN
  exact gop_any n b S w h hn hS

/-- The edges of a ring graph, those of the first i vertices. -/
def ringS (n k : Nat) : Nat → List (Nat × Nat)
  | 0 => []
  | i + 1 => ((ringS n k i ++ [(i, (i + 1) % n)]) ++ [(i, n + i)]) ++ [(n + i, n + (i + k) % n)]
theorem ringS_length (n k : Nat) : ∀ i, (ringS n k i).length = 3 * i
  | 0 => rfl
  | i + 1 => by simp [ringS, ringS_length n k i]; omega
theorem ringS_mem (n k : Nat) (hn : 0 < n) : ∀ i, i ≤ n → ∀ p, p ∈ ringS n k i → p.1 < 2 * n ∧ p.2 < 2 * n
  | 0, _, p, h => by simp [ringS] at h
  | i + 1, hi, p, h => by
    have m1 := Nat.mod_lt (i + 1) hn
    have m2 := Nat.mod_lt (i + k) hn
    simp only [ringS, List.mem_append, List.mem_singleton] at h
    rcases h with ((h | rfl) | rfl) | rfl
    · exact ringS_mem n k hn i (by omega) p h
    · simp only; omega
    · simp only; omega
    · simp only; omega

end Go.Proofs.YtapnlheecplpgaaDoor
