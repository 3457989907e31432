/-
  impl.liftedArcs: the iterator. (A plain seat of bases and graphs of pairs.)
-/
import Derived.Test.YthonkphjahomeaaLf
namespace Go.Proofs.Ythonkphjahomeaa
set_option maxRecDepth 100000
open Go.RowKit Go.Shelf

attribute [local go_sem] Oper.semAt_some
attribute [local go_sem] wide_fn

/-- What a round of a loop over the arcs of a lift keeps: the two boxes that the iterator reads. -/
def KpB (a b : Nat) (W W' : World) : Prop := W'.heap[a]? = W.heap[a]? ∧ W'.heap[b]? = W.heap[b]?
theorem KpB.tr {a b : Nat} {A B C : World} (h : KpB a b A B) (k : KpB a b B C) : KpB a b A C := ⟨k.1.trans h.1, k.2.trans h.2⟩
theorem KpB.put {a b : Nat} {w : World} (ha : a < w.heap.size) (hb : b < w.heap.size) (W : World) (l : Nat) (o o' : Obj) (hl : w.heap.size ≤ l) (h : W.heap[l]? = some o) (_ : o.isCells = false) (_ : o.isWalk = false) : KpB a b W (W.putObj l o') := by
  have hlt := (Array.getElem?_eq_some_iff.1 h).1
  have hg := grownBy_putObj' W l o'
  exact ⟨hg.block a (by omega) (fun e => by cases e; omega), hg.block b (by omega) (fun e => by cases e; omega)⟩
theorem KpB.of_below {a b : Nat} {W W' : World} (h : Below W.heap.size W W') (ha : a < W.heap.size) (hb : b < W.heap.size) : KpB a b W W' := ⟨h.block a ha, h.block b hb⟩
theorem KpB.of_grown {a b : Nat} {W W' : World} {r : Nat} (h : W.grownBy W' (some r)) (ha : a < W.heap.size) (hb : b < W.heap.size) (ha2 : a ≠ r) (hb2 : b ≠ r) : KpB a b W W' :=
  ⟨h.block a ha (fun e => by cases e; exact ha2 rfl), h.block b hb (fun e => by cases e; exact hb2 rfl)⟩

theorem take_fin {m k : Nat} (h : k < m) : (List.finRange m).take (k + 1) = (List.finRange m).take k ++ [⟨k, h⟩] := by
  rw [List.take_succ_eq_append_getElem (by simpa using h)]
  congr 1
  simp

end Go.Proofs.Ythonkphjahomeaa
