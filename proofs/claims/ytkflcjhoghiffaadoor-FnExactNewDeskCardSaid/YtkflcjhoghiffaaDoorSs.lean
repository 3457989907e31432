/-
  Lists of lists in memory: slices of slices that read as lists of lists; the laws' helpers on them. (A plain seat.)
-/
import Derived.Test.YtkflcjhoghiffaaDoorTo
import Derived.Deep.RegionWith
namespace Go.Proofs.YtkflcjhoghiffaaDoor
set_option maxRecDepth 100000
open Go.RowKit

/-- List i of a list of lists, the empty one behind its end. -/
def elS (Ls : List (List Int)) (i : Nat) : List Int := Ls.getD i []
/-- How many numbers the first k lists have. -/
def tot (Ls : List (List Int)) : Nat → Nat
  | 0 => 0
  | k + 1 => tot Ls k + (elS Ls k).length
theorem tot_mono (Ls : List (List Int)) (k : Nat) : ∀ m, k ≤ m → tot Ls k ≤ tot Ls m
  | 0, h => by obtain rfl : k = 0 := by omega
               exact Nat.le_refl _
  | m + 1, h => by
    by_cases e : k = m + 1
    · subst e; exact Nat.le_refl _
    · exact Nat.le_trans (tot_mono Ls k m (by omega)) (Nat.le_add_right _ _)
/-- The slice value v reads as the lists of Ls. -/
def SS (w : World) (v : Value) (Ls : List (List Int)) : Prop :=
  (∃ a c, v = .slice a 0 c ∧ Ls = []) ∨ ∃ (b off cap : Nat) (u : Nat → Value), v = .slice (some ⟨b, off, none⟩) Ls.length cap ∧ b < w.heap.size ∧ ∀ i, i < Ls.length → w.cell? ⟨b, off + i, none⟩ = some (u i) ∧ Sl w (u i) (elS Ls i)
theorem SS.below {w w' : World} {v : Value} {Ls : List (List Int)} (h : SS w v Ls) (hb : Below w.heap.size w w') : SS w' v Ls := by
  rcases h with h | ⟨b, off, cap, u, e, hl, hc⟩
  · exact .inl h
  · exact .inr ⟨b, off, cap, u, e, Nat.lt_of_lt_of_le hl hb.size, fun i hi => ⟨(hb.cell (p := ⟨b, off + i, none⟩) hl).trans (hc i hi).1, (hc i hi).2.below hb⟩⟩
theorem SS.form {w : World} {v : Value} {Ls : List (List Int)} (h : SS w v Ls) : v = .slice (slPtr v) Ls.length (slCap v) := by
  rcases h with ⟨a, c, rfl, rfl⟩ | ⟨b, off, cap, u, rfl, _, _⟩ <;> rfl
/-- Its lists' cells and what they read as, where there is one. -/
def Rows (w : World) (b off : Nat) (Ls : List (List Int)) : Prop := ∀ i, i < Ls.length → ∃ p c, w.cell? ⟨b, off + i, none⟩ = some (.slice p (elS Ls i).length c) ∧ Sl w (.slice p (elS Ls i).length c) (elS Ls i)
theorem SS.rows {w : World} {v : Value} {Ls : List (List Int)} (h : SS w v Ls) (h0 : 0 < Ls.length) : ∃ b off cap, v = .slice (some ⟨b, off, none⟩) Ls.length cap ∧ b < w.heap.size ∧ Rows w b off Ls := by
  rcases h with ⟨a, c, rfl, rfl⟩ | ⟨b, off, cap, u, rfl, hb, hc⟩
  · simp at h0
  · refine ⟨b, off, cap, rfl, hb, fun i hi => ?_⟩
    obtain ⟨h1, h2⟩ := hc i hi
    have hf := slForm h2
    exact ⟨slPtr (u i), slCap (u i), by rw [← hf]; exact h1, by rw [← hf]; exact h2⟩
theorem Rows.below {w w' : World} {b off : Nat} {Ls : List (List Int)} (h : Rows w b off Ls) (hl : b < w.heap.size) (hb : Below w.heap.size w w') : Rows w' b off Ls := fun i hi => by
  obtain ⟨p, c, h1, h2⟩ := h i hi
  exact ⟨p, c, (hb.cell (p := ⟨b, off + i, none⟩) hl).trans h1, h2.below hb⟩

end Go.Proofs.YtkflcjhoghiffaaDoor
