/-
  Slices of numbers that the call owns; the laws' helpers that write marks into them and look them up.
-/
import Derived.Test.YtbacocldjcenjaaDoorInts
namespace Go.Proofs.YtbacocldjcenjaaDoor
set_option maxRecDepth 100000
open Go.RowKit

/-- The slice u owns, from block B on, just the numbers of L. -/
def Own (w : World) (B : Nat) (u : Value) (L : List Int) : Prop := w.ownsRow B 2 1 u L.length (L.map (Value.int .i64))
theorem Own.form {w : World} {B : Nat} {u : Value} {L : List Int} (h : Own w B u L) : (u = .slice none 0 0 ∧ L = []) ∨ ∃ g cap, u = .slice (some ⟨g, 0, none⟩) L.length cap ∧ B ≤ g ∧ g < w.heap.size := by
  rcases h.2 with ⟨rfl, h0⟩ | ⟨g, cap, cur, rfl, hb, hg, _⟩
  · exact .inl ⟨rfl, List.eq_nil_of_length_eq_zero h0⟩
  · exact .inr ⟨g, cap, rfl, hb, (Array.getElem?_eq_some_iff.1 hg).1⟩
theorem map_at (L : List Int) (i : Nat) (h : i < L.length) : (L.map (Value.int .i64))[i]? = some (.int .i64 (el L i)) := by
  rw [List.getElem?_map, List.getElem?_eq_getElem h, el_lt h]; rfl
theorem Own.sl {w : World} {B : Nat} {u : Value} {L : List Int} (h : Own w B u L) : Sl w u L := by
  rcases h.form with ⟨rfl, rfl⟩ | ⟨g, cap, rfl, hb, hg⟩
  · exact .inl ⟨_, _, rfl, rfl⟩
  · refine .inr ⟨g, 0, cap, rfl, hg, fun i hi => ?_⟩
    rw [Nat.zero_add, World.ownsRow.cellAt h i (by omega)]
    exact map_at L i hi
theorem Own.kept {w w' : World} {B : Nat} {u : Value} {L : List Int} {row : Option Nat} (h : Own w B u L) (hg : w.grownBy w' row) (hne : u.ownBlock = none ∨ u.ownBlock ≠ row) : Own w' B u L := World.ownsRow.kept h hg hne
theorem grown_of_below {w w' : World} (h : Below w.heap.size w w') (row : Option Nat) : w.grownBy w' row := ⟨h.os, h.tape, h.output, h.size, fun k hk _ => h.block k hk⟩
theorem Own.below {w w' : World} {B : Nat} {u : Value} {L : List Int} (h : Own w B u L) (hb : Below w.heap.size w w') : Own w' B u L :=
  h.kept (grown_of_below hb none) (by cases u.ownBlock <;> simp)
theorem Own.base {w : World} {B B' : Nat} {u : Value} {L : List Int} (h : Own w B u L) (hb : B' ≤ B) : Own w B' u L :=
  ⟨h.1, h.2.imp id fun ⟨g, cap, cur, e, hB, r⟩ => ⟨g, cap, cur, e, Nat.le_trans hb hB, r⟩⟩
theorem Own.nil (w : World) (B : Nat) : Own w B (.slice none 0 0) [] := World.ownsRow_nil w B _ 1
theorem Own.of_blk {w : World} {B g : Nat} {L : List Int} (h : Blk w g L) (hB : B ≤ g) (hl : L.length ≤ maxLen) : Own w B (.slice (some ⟨g, 0, none⟩) L.length L.length) L :=
  ⟨by simp, .inr ⟨g, L.length, intsA L, rfl, hB, h, Nat.le_refl _, hl, by rw [intsA_size]; simp, by rw [List.take_of_length_le (by simp [intsA])]; simp [intsA]⟩⟩
theorem Own.ge {w : World} {B : Nat} {u : Value} {L : List Int} (h : Own w B u L) : ∀ k, u.ownBlock = some k → B ≤ k := fun k e => (World.ownsRow.lt h k e).1
theorem Own.lt {w : World} {B : Nat} {u : Value} {L : List Int} (h : Own w B u L) : ∀ k, u.ownBlock = some k → k < w.heap.size := fun k e => (World.ownsRow.lt h k e).2

/-- The marks from k on, n of them. -/
def markL (k : Int) (n : Nat) : List Int := (List.range n).map fun i : Nat => k + (i : Int)
theorem markL_length (k : Int) (n : Nat) : (markL k n).length = n := by simp [markL]
/-- The first j numbers overwritten by marks. -/
def mixL (k : Int) (L : List Int) (j : Nat) : List Int := markL k j ++ L.drop j
theorem mixL_length (k : Int) (L : List Int) (j : Nat) (h : j ≤ L.length) : (mixL k L j).length = L.length := by simp [mixL, markL_length]; omega
theorem mixL_zero (k : Int) (L : List Int) : mixL k L 0 = L := by simp [mixL, markL]
theorem mixL_all (k : Int) (L : List Int) : mixL k L L.length = markL k L.length := by simp [mixL]
theorem mixL_succ (k : Int) (L : List Int) (j : Nat) (h : j < L.length) : (mixL k L j).set j (k + (j : Int)) = mixL k L (j + 1) := by
  unfold mixL
  rw [List.set_append_right _ _ (by rw [markL_length]; omega), markL_length, Nat.sub_self]
  have e1 : markL k (j + 1) = markL k j ++ [k + (j : Int)] := by simp [markL, List.range_succ]
  rw [e1, List.append_assoc, List.drop_eq_getElem_cons h]
  rfl
theorem el_markL (k : Int) (n i : Nat) (h : i < n) : el (markL k n) i = k + (i : Int) := by simp [el, markL, h]

theorem grown_trans {w w1 w2 : World} {row : Option Nat} (h : w.grownBy w1 row) (k : w1.grownBy w2 row) : w.grownBy w2 row :=
  ⟨k.os.trans h.os, k.tape.trans h.tape, k.output.trans h.output, Nat.le_trans h.size k.size, fun i hi hne => (k.block i (Nat.lt_of_lt_of_le hi h.size) hne).trans (h.block i hi hne)⟩
theorem grown_set {w wr : World} {g : Nat} (h : w.grownBy wr (some g)) (g' j : Nat) (v : Value) (e : g' = g := by rfl) : w.grownBy (wr.setCell ⟨g', j, none⟩ v) (some g) := by
  subst e
  exact grown_trans h ⟨rfl, rfl, rfl, by simp, fun k _ hk => heap_setCell_other wr ⟨g', j, none⟩ k v (fun e => hk (by simp [e]))⟩

/-- What a call that writes marks into u leaves. -/
def Marked (w w' : World) (B : Nat) (u : Value) (L : List Int) : Prop := Own w' B u L ∧ w.grownBy w' u.ownBlock ∧ w'.heap.size = w.heap.size
/-- Marks written into u; besides, blocks may be new. -/
def Touched (w w' : World) (B : Nat) (u : Value) (L : List Int) : Prop := Own w' B u L ∧ w.grownBy w' u.ownBlock

end Go.Proofs.YtbacocldjcenjaaDoor
