/-
  impl.IsFaithful. (A plain seat of bases and graphs of pairs.)
-/
import Derived.Test.YthonkphjahomeaaFb
namespace Go.Proofs.Ythonkphjahomeaa
set_option maxRecDepth 100000
open Go.RowKit

theorem stL_succ (m : Nat) (fs : List Int) (N : Nat) : stL m fs (N + 1) = stL m fs N ++ cellsT m fs N := by
  unfold stL
  rw [List.range_succ, List.flatMap_append]
  simp
theorem stL_len (m : Nat) (fs : List Int) : ∀ N, (stL m fs N).length = N * 4
  | 0 => rfl
  | N + 1 => by rw [stL_succ, List.length_append, stL_len m fs N]; simp [cellsT]; omega
theorem stL_at (m : Nat) (fs : List Int) {s d : Nat} (hd : d < 4) : ∀ {N}, s < N → (stL m fs N)[s * 4 + d]? = (cellsT m fs s)[d]?
  | 0, h => by omega
  | N + 1, h => by
    rw [stL_succ]
    by_cases e : s = N
    · subst e
      rw [List.getElem?_append_right (by rw [stL_len]; omega), stL_len, show s * 4 + d - s * 4 = d by omega]
    · rw [List.getElem?_append_left (by rw [stL_len]; omega)]
      exact stL_at m fs hd (show s < N by omega)
theorem four_cells {w : World} {k : Nat} {x y z u : Value} {t : TypeId} (h : w.heap[k]? = some (.cells #[x, y, z, u] t (0, 0))) : w.cell? ⟨k, 0, none⟩ = some x ∧ w.cell? ⟨k, 1, none⟩ = some y ∧ w.cell? ⟨k, 2, none⟩ = some z ∧ w.cell? ⟨k, 3, none⟩ = some u :=
  ⟨by rw [cell_of_row w k 0 _ _ _ h]; rfl, by rw [cell_of_row w k 1 _ _ _ h]; rfl, by rw [cell_of_row w k 2 _ _ _ h]; rfl, by rw [cell_of_row w k 3 _ _ _ h]; rfl⟩
/-- The cells of a step. -/
theorem step_cells {w w' : World} {B g m K s : Nat} {fs : List Int} (h : w.ownsRow B 43 4 (.slice (some ⟨g, 0, none⟩) K K) K (stL m fs K)) (hb : Below w.heap.size w w') (hs : s < K) :
    w'.cell? ⟨g, s * 4, none⟩ = some (.int .i64 s) ∧ w'.cell? ⟨g, s * 4 + 1, none⟩ = some (.int .i64 (stA m fs s 0)) ∧ w'.cell? ⟨g, s * 4 + 2, none⟩ = some (.int .i64 (stA m fs s 1)) ∧ w'.cell? ⟨g, s * 4 + 3, none⟩ = some (.int .i64 (stA m fs s 2)) := by
  have h' := ownsT_below h hb
  refine ⟨(World.ownsRow.cellAt h' (s * 4) (by omega)).trans ?_, (World.ownsRow.cellAt h' (s * 4 + 1) (by omega)).trans ?_, (World.ownsRow.cellAt h' (s * 4 + 2) (by omega)).trans ?_, (World.ownsRow.cellAt h' (s * 4 + 3) (by omega)).trans ?_⟩
  · have := stL_at m fs (show 0 < 4 by omega) hs; rw [Nat.add_zero] at this; rw [this]; rfl
  · rw [stL_at m fs (show 1 < 4 by omega) hs]; rfl
  · rw [stL_at m fs (show 2 < 4 by omega) hs]; rfl
  · rw [stL_at m fs (show 3 < 4 by omega) hs]; rfl

/-- Whether the lift is faithful, and the code. -/
def FaB (n m : Int) (k : Nat) (fs : List Int) : Bool := isB n m k fs && fthO m.toNat fs k
def FaC (n m : Int) (k : Nat) (fs : List Int) : Int := if isB n m k fs then 0 else 1

end Go.Proofs.Ythonkphjahomeaa
