/-
  impl.writeDistances.
-/
import Derived.Test.YtbpcdgfcdahnlaaDoorLi
import Derived.Test.YtbpcdgfcdahnlaaDoorDi
import Derived.RangeFuncBox
namespace Go.Proofs.YtbpcdgfcdahnlaaDoor
set_option maxRecDepth 100000
open Go.RowKit Go.Shelf

attribute [local go_sem] Oper.semAt_some

/-- The list T is T0 but that D stands in it from off on. -/
def Seg (T0 : List Int) (off : Nat) (T D : List Int) : Prop := T.length = T0.length ∧ off + D.length ≤ T0.length ∧ (∀ i, i < D.length → el T (off + i) = el D i) ∧ ∀ i, (i < off ∨ off + D.length ≤ i) → el T i = el T0 i
theorem Seg.set {T0 T D : List Int} {off : Nat} (h : Seg T0 off T D) (y : Nat) (hy : y < D.length) (z : Int) : Seg T0 off (T.set (off + y) z) (D.set y z) := by
  obtain ⟨h1, h2, h3, h4⟩ := h
  refine ⟨by rw [List.length_set]; exact h1, by rw [List.length_set]; exact h2, fun i hi => ?_, fun i hi => ?_⟩
  · rw [List.length_set] at hi
    by_cases e : i = y
    · rw [e, elSet_eq (by omega), elSet_eq hy]
    · rw [elSet_ne (by omega), elSet_ne e]; exact h3 i hi
  · rw [List.length_set] at hi
    rw [elSet_ne (by omega)]; exact h4 i hi
def segL (T0 : List Int) (off : Nat) (L : List Int) : List Int := (List.range T0.length).map fun i => if off ≤ i ∧ i < off + L.length then el L (i - off) else el T0 i
theorem segL_length (T0 : List Int) (off : Nat) (L : List Int) : (segL T0 off L).length = T0.length := by simp [segL]
theorem segL_at {T0 : List Int} {off : Nat} {L : List Int} {i : Nat} (hi : i < T0.length) : el (segL T0 off L) i = if off ≤ i ∧ i < off + L.length then el L (i - off) else el T0 i := by
  rw [el_lt (by rw [segL_length]; exact hi)]; simp [segL]
theorem Seg.done {T0 T D : List Int} {off : Nat} (h : Seg T0 off T D) : T = segL T0 off D := by
  obtain ⟨h1, h2, h3, h4⟩ := h
  refine ext_el (by rw [segL_length]; exact h1) fun i hi => ?_
  rw [segL_at (by omega)]
  by_cases hc : off ≤ i ∧ i < off + D.length
  · rw [if_pos hc, ← h3 (i - off) (by omega)]
    congr 1; omega
  · rw [if_neg hc]; exact h4 i (by omega)
theorem Seg.start (T0 : List Int) (off n : Nat) (h : off + n ≤ T0.length) : ∃ D : List Int, D.length = n ∧ Seg T0 off T0 D := by
  refine ⟨(List.range n).map fun i => el T0 (off + i), by simp, rfl, by simpa using h, fun i hi => ?_, fun i _ => rfl⟩
  rw [el_lt hi]; simp

theorem grown_old {w W : World} {gT k : Nat} {o : Obj} (h : w.grownBy W (some gT)) (hne : k ≠ gT) (hx : w.heap[k]? = some o) : W.heap[k]? = some o :=
  (h.block k (Array.getElem?_eq_some_iff.1 hx).1 (fun e => hne (by cases e; rfl))).trans hx
theorem grown_cell {w W : World} {gT b i : Nat} (h : w.grownBy W (some gT)) (hne : b ≠ gT) (hb : b < w.heap.size) : W.cell? ⟨b, i, none⟩ = w.cell? ⟨b, i, none⟩ := by
  have e := h.block b hb (fun e => hne (by cases e; rfl))
  unfold World.cell?
  simp only [e]
theorem grown_below2 {w W W2 : World} {gT : Nat} (h : w.grownBy W (some gT)) (hb : Below W.heap.size W W2) : w.grownBy W2 (some gT) := grown_trans h (grown_of_below hb (some gT))

theorem grown_below3 {w W W2 : World} {B : Nat} {row : Option Nat} (h : w.grownBy W row) (hb : Below B W W2) (hB : w.heap.size ≤ B) : w.grownBy W2 row :=
  ⟨hb.os.trans h.os, hb.tape.trans h.tape, hb.output.trans h.output, Nat.le_trans h.size hb.size, fun k hk hne => (hb.block k (by omega)).trans (h.block k hk hne)⟩

end Go.Proofs.YtbpcdgfcdahnlaaDoor
