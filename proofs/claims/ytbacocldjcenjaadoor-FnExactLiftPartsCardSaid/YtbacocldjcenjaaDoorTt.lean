/-
  Lists of lists that a call gathers by append (a tied seat of graphs), and spec.l06Rows.
-/
import Derived.Test.YtbacocldjcenjaaDoorMgC
import Derived.Test.YtbacocldjcenjaaDoorFr
import Derived.Deep.AppendLies
import Derived.Maps.AppendAt
namespace Go.Proofs.YtbacocldjcenjaaDoor
set_option maxRecDepth 100000
set_option maxRecDepth 100000
open Go.RowKit

/-- List i of a list of lists, the empty one behind its end. -/
def elS (Ls : List (List Int)) (i : Nat) : List Int := Ls.getD i []
/-- The slice v owns, from block B on, the cells cs; those are slices that own, from block B on, the lists of Ts, and none lies in v's own row; the empty list is nil. -/
def TSc (w : World) (B : Nat) (v : Value) (Ts : List (List Int)) (cs : List Value) : Prop := w.ownsRow B 36 1 v Ts.length cs ∧ cs.length = Ts.length ∧
  ∀ i, i < Ts.length → ∃ u, cs[i]? = some u ∧ Own w B u (elS Ts i) ∧ (u.ownBlock = none ∨ u.ownBlock ≠ v.ownBlock) ∧ (elS Ts i = [] → u = .slice none 0 0)
def TS (w : World) (B : Nat) (v : Value) (Ts : List (List Int)) : Prop := ∃ cs : List Value, TSc w B v Ts cs
theorem TS.nil (w : World) (B : Nat) : TS w B (.slice none 0 0) [] := ⟨[], World.ownsRow_nil w B _ 1, rfl, fun i h => by simp at h⟩
theorem TSc.below {w w' : World} {B : Nat} {v : Value} {Ts : List (List Int)} {cs : List Value} (h : TSc w B v Ts cs) (hb : Below w.heap.size w w') : TSc w' B v Ts cs := by
  obtain ⟨h1, h2, h3⟩ := h
  refine ⟨World.ownsRow.kept h1 (grown_of_below hb none) (by cases v.ownBlock <;> simp), h2, fun i hi => ?_⟩
  obtain ⟨u, a, b, c⟩ := h3 i hi
  exact ⟨u, a, b.below hb, c⟩
theorem TS.below {w w' : World} {B : Nat} {v : Value} {Ts : List (List Int)} (h : TS w B v Ts) (hb : Below w.heap.size w w') : TS w' B v Ts := by
  obtain ⟨cs, h⟩ := h; exact ⟨cs, h.below hb⟩
theorem TS.base {w : World} {B B' : Nat} {v : Value} {Ts : List (List Int)} (h : TS w B v Ts) (hb : B' ≤ B) : TS w B' v Ts := by
  obtain ⟨cs, h1, h2, h3⟩ := h
  refine ⟨cs, ⟨h1.1, h1.2.imp id fun ⟨g, cap, cur, e, hB, r⟩ => ⟨g, cap, cur, e, Nat.le_trans hb hB, r⟩⟩, h2, fun i hi => ?_⟩
  obtain ⟨u, a, b, c⟩ := h3 i hi
  exact ⟨u, a, b.base hb, c⟩
theorem TSc.form {w : World} {B : Nat} {v : Value} {Ts : List (List Int)} {cs : List Value} (h : TSc w B v Ts cs) : (v = .slice none 0 0 ∧ Ts = []) ∨ ∃ g cap, v = .slice (some ⟨g, 0, none⟩) Ts.length cap ∧ B ≤ g ∧ g < w.heap.size := by
  rcases h.1.2 with ⟨rfl, h0⟩ | ⟨g, cap, cur, rfl, hb, hg, _⟩
  · exact .inl ⟨rfl, List.eq_nil_of_length_eq_zero h0⟩
  · exact .inr ⟨g, cap, rfl, hb, (Array.getElem?_eq_some_iff.1 hg).1⟩
theorem TS.form {w : World} {B : Nat} {v : Value} {Ts : List (List Int)} (h : TS w B v Ts) : (v = .slice none 0 0 ∧ Ts = []) ∨ ∃ g cap, v = .slice (some ⟨g, 0, none⟩) Ts.length cap ∧ B ≤ g ∧ g < w.heap.size := by
  obtain ⟨cs, h⟩ := h; exact h.form
/-- One of its lists: where its cell lies, and what it is. -/
theorem TS.at {w : World} {B g cap : Nat} {Ts : List (List Int)} (h : TS w B (.slice (some ⟨g, 0, none⟩) Ts.length cap) Ts) {i : Nat} (hi : i < Ts.length) :
    ∃ u, w.cell? ⟨g, i, none⟩ = some u ∧ Own w B u (elS Ts i) ∧ (elS Ts i = [] → u = .slice none 0 0) := by
  obtain ⟨cs, h1, h2, h3⟩ := h
  obtain ⟨u, a, b, c, d⟩ := h3 i hi
  exact ⟨u, (World.ownsRow.cellAt h1 i (by omega)).trans a, b, d⟩
theorem elS_left (Ts Us : List (List Int)) (i : Nat) (h : i < Ts.length) : elS (Ts ++ Us) i = elS Ts i := by unfold elS; rw [List.getD_eq_getElem?_getD, List.getD_eq_getElem?_getD, List.getElem?_append_left h]
theorem elS_end (Ts : List (List Int)) (t : List Int) : elS (Ts ++ [t]) Ts.length = t := by simp [elS]
/-- One list more, appended. -/
theorem TSc.snoc {w w' : World} {B : Nat} {v v' u : Value} {Ts : List (List Int)} {t : List Int} {cs : List Value} (h : TSc w B v Ts cs) (hu : Own w B u t) (hne : u.ownBlock = none ∨ u.ownBlock ≠ v.ownBlock) (ht : t = [] → u = .slice none 0 0)
    (hown : w'.ownsRow B 36 1 v' (Ts.length + 1) (cs ++ [u])) (hg : w.grownBy w' v.ownBlock) (hloc : v'.ownBlock = v.ownBlock ∨ v'.ownBlock = some w.heap.size) : TS w' B v' (Ts ++ [t]) := by
  obtain ⟨h1, h2, h3⟩ := h
  have far : ∀ {x : Value} {L : List Int}, Own w B x L → (x.ownBlock = none ∨ x.ownBlock ≠ v.ownBlock) → (x.ownBlock = none ∨ x.ownBlock ≠ v'.ownBlock) := fun {x L} hx hn => by
    rcases hn with hn | hn
    · exact .inl hn
    · rcases hloc with e | e
      · exact .inr (by rw [e]; exact hn)
      · cases hb : x.ownBlock with
        | none => exact .inl rfl
        | some k => exact .inr (fun e2 => by rw [e] at e2; cases e2; have := hx.lt _ hb; omega)
  have keep : ∀ {x : Value} {L : List Int}, Own w B x L → (x.ownBlock = none ∨ x.ownBlock ≠ v.ownBlock) → Own w' B x L := fun {x L} hx hn => hx.kept hg hn
  refine ⟨cs ++ [u], by rw [List.length_append]; exact hown, by simp [h2], fun i hi => ?_⟩
  rw [List.length_append, List.length_singleton] at hi
  by_cases e : i < Ts.length
  · obtain ⟨x, a, b, c, d⟩ := h3 i e
    rw [elS_left _ _ _ e]
    exact ⟨x, by rw [List.getElem?_append_left (by omega)]; exact a, keep b c, far b c, d⟩
  · obtain rfl : i = Ts.length := by omega
    rw [elS_end]
    exact ⟨u, by rw [← h2]; simp, keep hu hne, far hu hne, ht⟩

end Go.Proofs.YtbacocldjcenjaaDoor
