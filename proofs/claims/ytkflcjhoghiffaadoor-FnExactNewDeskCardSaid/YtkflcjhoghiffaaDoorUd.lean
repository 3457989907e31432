/-
  Answers that are lists of lists: owned, marked, held. (A plain seat.)
-/
import Derived.Test.YtkflcjhoghiffaaDoorSu
import Derived.Test.YtkflcjhoghiffaaDoorTp
namespace Go.Proofs.YtkflcjhoghiffaaDoor
set_option maxRecDepth 100000
open Go.RowKit

/-- The slice v owns, from block B on, the lists of Ls: each list in a row of its own. -/
def LO (w : World) (B : Nat) (v : Value) (Ls : List (List Int)) : Prop :=
  (v = .slice none 0 0 ∧ Ls = []) ∨ ∃ (g cap : Nat) (us : Nat → Value), v = .slice (some ⟨g, 0, none⟩) Ls.length cap ∧ B ≤ g ∧ g < w.heap.size ∧
    (∀ i, i < Ls.length → w.cell? ⟨g, i, none⟩ = some (us i) ∧ Own w B (us i) (elS Ls i) ∧ (us i).ownBlock ≠ some g) ∧
    ∀ i j b, i ≠ j → i < Ls.length → j < Ls.length → (us i).ownBlock = some b → (us j).ownBlock ≠ some b
theorem LO.ss {w : World} {B : Nat} {v : Value} {Ls : List (List Int)} (h : LO w B v Ls) : SS w v Ls := by
  rcases h with ⟨rfl, rfl⟩ | ⟨g, cap, us, rfl, _, hg, hc, _⟩
  · exact .inl ⟨_, _, rfl, rfl⟩
  · exact .inr ⟨g, 0, cap, us, rfl, hg, fun i hi => ⟨by rw [Nat.zero_add]; exact (hc i hi).1, (hc i hi).2.1.sl⟩⟩
theorem LO.below {w w' : World} {B : Nat} {v : Value} {Ls : List (List Int)} (h : LO w B v Ls) (hb : Below w.heap.size w w') : LO w' B v Ls := by
  rcases h with h | ⟨g, cap, us, rfl, hB, hg, hc, hd⟩
  · exact .inl h
  · exact .inr ⟨g, cap, us, rfl, hB, Nat.lt_of_lt_of_le hg hb.size, fun i hi => ⟨(hb.cell (p := ⟨g, i, none⟩) hg).trans (hc i hi).1, (hc i hi).2.1.below hb, (hc i hi).2.2⟩, hd⟩
theorem TS.ss {w : World} {B : Nat} {v : Value} {Ts : List (List Int)} (h : TS w B v Ts) : SS w v Ts := by
  rcases h.form with ⟨rfl, rfl⟩ | ⟨g, cap, rfl, _, hg⟩
  · exact .inl ⟨_, _, rfl, rfl⟩
  · obtain ⟨cs, h1, h2, h3⟩ := h
    refine .inr ⟨g, 0, cap, fun i => cs.getD i (.bool false), rfl, hg, fun i hi => ?_⟩
    obtain ⟨u, a, b, _⟩ := h3 i hi
    have e : cs.getD i (.bool false) = u := by rw [List.getD_eq_getElem?_getD, a]; rfl
    show w.cell? ⟨g, 0 + i, none⟩ = some (cs.getD i (.bool false)) ∧ Sl w (cs.getD i (.bool false)) (elS Ts i)
    rw [e, Nat.zero_add]
    exact ⟨(World.ownsRow.cellAt h1 i (by omega)).trans a, b.sl⟩

/-- The marks that a list of lists gets. -/
def markLL (k : Int) (Ls : List (List Int)) : List (List Int) := (List.range Ls.length).map fun i => markL (k + (tot Ls i : Int)) (elS Ls i).length
theorem markLL_length (k : Int) (Ls : List (List Int)) : (markLL k Ls).length = Ls.length := by simp [markLL]
theorem markLL_at (k : Int) (Ls : List (List Int)) (i : Nat) (h : i < Ls.length) : elS (markLL k Ls) i = markL (k + (tot Ls i : Int)) (elS Ls i).length := by simp [elS, markLL, h]
/-- What a call that writes marks into v's lists leaves. -/
def MarkedLL (w w' : World) (B : Nat) (v : Value) (k : Int) (Ls : List (List Int)) : Prop := SS w' v (markLL k Ls) ∧ Below B w w' ∧ w'.heap.size = w.heap.size

end Go.Proofs.YtkflcjhoghiffaaDoor
