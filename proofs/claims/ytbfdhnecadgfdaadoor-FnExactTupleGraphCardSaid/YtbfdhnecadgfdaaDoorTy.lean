/-
  The points of a small plane: both programs' lists are one.
-/
import Derived.Test.YtbfdhnecadgfdaaDoorTx
namespace Go.Proofs.YtbfdhnecadgfdaaDoor
set_option maxRecDepth 100000
open Go.RowKit

/-- The points of q, as the model lists them. -/
def ptsL (q : Nat) : List (List Int) := [[0, 0, 1]] ++ ((List.range q).map fun z : Nat => [0, 1, (z : Int)]) ++ (List.range q).flatMap fun y : Nat => (List.range q).map fun z : Nat => [1, (y : Int), (z : Int)]
theorem runP_pts (q : Nat) (h : q = 2 ∨ q = 3 ∨ q = 5 ∨ q = 7) : (runP q (tups q 3)).1 = ptsL q := by
  rcases h with rfl | rfl | rfl | rfl <;> decide +kernel
theorem pts_len (q : Nat) (h : q = 2 ∨ q = 3 ∨ q = 5 ∨ q = 7) : (ptsL q).length = q * q + q + 1 := by
  rcases h with rfl | rfl | rfl | rfl <;> decide +kernel
theorem tri3 (a b c : Int) (ha : 0 ≤ a ∧ a ≤ 6) (hb : 0 ≤ b ∧ b ≤ 6) (hc : 0 ≤ c ∧ c ≤ 6) : Tri [a, b, c] := ⟨rfl, fun i => by
  match i with
  | 0 => exact ha
  | 1 => exact hb
  | 2 => exact hc
  | n + 3 =>
    have : el [a, b, c] (n + 3) = 0 := rfl
    rw [this]; omega⟩
theorem pts_tri (q : Nat) (hq : q ≤ 7) (t : List Int) (h : t ∈ ptsL q) : Tri t := by
  simp only [ptsL, List.mem_append, List.mem_singleton, List.mem_map, List.mem_flatMap, List.mem_range] at h
  rcases h with (rfl | ⟨z, hz, rfl⟩) | ⟨y, hy, z, hz, rfl⟩
  · exact tri3 _ _ _ (by omega) (by omega) (by omega)
  · exact tri3 _ _ _ (by omega) (by omega) (by omega)
  · exact tri3 _ _ _ (by omega) (by omega) (by omega)
theorem pts_at (q i : Nat) (hq : q ≤ 7) (h : i < (ptsL q).length) : Tri (elS (ptsL q) i) := pts_tri q hq _ (by simp [elS, h])

/-- Whether a point is on a line. -/
def onB (q : Nat) (s t : List Int) : Bool := (el s 0 * el t 0 + el s 1 * el t 1 + el s 2 * el t 2) % (q : Int) == 0
/-- The numbers below k that f tells. -/
def selL (f : Nat → Bool) (k : Nat) : List Int := ((List.range k).filter f).map fun v : Nat => (v : Int)
theorem selL_yes (f : Nat → Bool) (k : Nat) (h : f k = true) : selL f (k + 1) = selL f k ++ [(k : Int)] := by unfold selL; rw [List.range_succ, List.filter_append, List.map_append]; simp [h]
theorem selL_no (f : Nat → Bool) (k : Nat) (h : f k = false) : selL f (k + 1) = selL f k := by unfold selL; rw [List.range_succ, List.filter_append, List.map_append]; simp [h]
theorem selL_length (f : Nat → Bool) (k : Nat) : (selL f k).length ≤ k := by
  unfold selL; rw [List.length_map]; exact Nat.le_trans (List.length_filter_le _ _) (by simp)

theorem cellsP_at (ps : List (List Int)) : ∀ i, i < ps.length → (cellsP ps)[i * 3]? = some (.int .i64 (el (elS ps i) 0)) ∧ (cellsP ps)[i * 3 + 1]? = some (.int .i64 (el (elS ps i) 1)) ∧ (cellsP ps)[i * 3 + 2]? = some (.int .i64 (el (elS ps i) 2)) := by
  induction ps with
  | nil => intro i h; simp at h
  | cons t r ih =>
    intro i h
    have e : cellsP (t :: r) = [.int .i64 (el t 0), .int .i64 (el t 1), .int .i64 (el t 2)] ++ cellsP r := by simp [cellsP]
    rw [e]
    match i with
    | 0 => exact ⟨rfl, rfl, rfl⟩
    | j + 1 =>
      obtain ⟨a, b, c⟩ := ih j (by simp at h; omega)
      have ee : elS (t :: r) (j + 1) = elS r j := rfl
      rw [ee]
      refine ⟨?_, ?_, ?_⟩
      · rw [List.getElem?_append_right (by simp; omega)]
        rw [show (j + 1) * 3 - [Value.int .i64 (el t 0), .int .i64 (el t 1), .int .i64 (el t 2)].length = j * 3 by simp; omega]; exact a
      · rw [List.getElem?_append_right (by simp; omega)]
        rw [show (j + 1) * 3 + 1 - [Value.int .i64 (el t 0), .int .i64 (el t 1), .int .i64 (el t 2)].length = j * 3 + 1 by simp; omega]; exact b
      · rw [List.getElem?_append_right (by simp; omega)]
        rw [show (j + 1) * 3 + 2 - [Value.int .i64 (el t 0), .int .i64 (el t 1), .int .i64 (el t 2)].length = j * 3 + 2 by simp; omega]; exact c
theorem PO.form {w : World} {B : Nat} {v : Value} {ps : List (List Int)} (h : PO w B v ps) (h0 : 0 < ps.length) : ∃ g cap, v = .slice (some ⟨g, 0, none⟩) ps.length cap ∧ B ≤ g ∧ g < w.heap.size ∧
    ∀ i, i < ps.length → w.cell? ⟨g, i * 3, none⟩ = some (.int .i64 (el (elS ps i) 0)) ∧ w.cell? ⟨g, i * 3 + 1, none⟩ = some (.int .i64 (el (elS ps i) 1)) ∧ w.cell? ⟨g, i * 3 + 2, none⟩ = some (.int .i64 (el (elS ps i) 2)) := by
  have hh : w.ownsRow B 53 3 v ps.length (cellsP ps) := h
  rcases h.2 with ⟨_, hz⟩ | ⟨g, cap, cur, rfl, hb, hg, _⟩
  · omega
  · refine ⟨g, cap, rfl, hb, (Array.getElem?_eq_some_iff.1 hg).1, fun i hi => ?_⟩
    obtain ⟨a, b, c⟩ := cellsP_at ps i hi
    exact ⟨(World.ownsRow.cellAt hh (i * 3) (by omega)).trans a, (World.ownsRow.cellAt hh (i * 3 + 1) (by omega)).trans b, (World.ownsRow.cellAt hh (i * 3 + 2) (by omega)).trans c⟩

/-- A list and a code, the list in memory of its own from block B on. -/
def LRes (B : Nat) (L : List Int) (c : Int) (e : Ending) (w' : World) : Prop := ∃ u, e = .returned (.tuple #[u, .int .i64 c]) ∧ Own w' B u L
end Go.Proofs.YtbfdhnecadgfdaaDoor
