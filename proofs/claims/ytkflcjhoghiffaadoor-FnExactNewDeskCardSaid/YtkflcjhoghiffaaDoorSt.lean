/-
  Lists of lists copied, compared, marked. (A plain seat.)
-/
import Derived.Test.YtkflcjhoghiffaaDoorSs
namespace Go.Proofs.YtkflcjhoghiffaaDoor
set_option maxRecDepth 100000
open Go.RowKit

def eN (us : List Nat) (i : Nat) : Nat := us.getD i 0
theorem eN_left (us vs : List Nat) (i : Nat) (h : i < us.length) : eN (us ++ vs) i = eN us i := by unfold eN; rw [List.getD_eq_getElem?_getD, List.getD_eq_getElem?_getD, List.getElem?_append_left h]
theorem eN_end (us : List Nat) (g : Nat) : eN (us ++ [g]) us.length = g := by simp [eN]
/-- The cell of list i: where it lies, if it has been laid. -/
def ptrV (us : List Nat) (Ls : List (List Int)) (i : Nat) : Value := if i < us.length then .slice (some ⟨eN us i, 0, none⟩) (elS Ls i).length (elS Ls i).length else .slice none 0 0
def ptrsA (us : List Nat) (Ls : List (List Int)) : Array Value := ((List.range Ls.length).map (ptrV us Ls)).toArray
theorem ptrsA_at (us : List Nat) (Ls : List (List Int)) (i : Nat) (h : i < Ls.length) : (ptrsA us Ls)[i]? = some (ptrV us Ls i) := by simp [ptrsA, h]
theorem ptrsA_nil (Ls : List (List Int)) : ptrsA [] Ls = (List.replicate Ls.length (Value.slice none 0 0)).toArray := by
  unfold ptrsA
  congr 1
  rw [List.eq_replicate_iff]
  refine ⟨by simp, fun x hx => ?_⟩
  obtain ⟨i, _, rfl⟩ := List.mem_map.1 hx
  simp [ptrV]
theorem ptrsA_snoc (us : List Nat) (Ls : List (List Int)) (g : Nat) (h : us.length < Ls.length) :
    (ptrsA us Ls).setIfInBounds us.length (.slice (some ⟨g, 0, none⟩) (elS Ls us.length).length (elS Ls us.length).length) = ptrsA (us ++ [g]) Ls := by
  unfold ptrsA
  rw [List.setIfInBounds_toArray]
  congr 1
  apply List.ext_getElem?
  intro j
  by_cases hj : j = us.length
  · subst hj
    rw [List.getElem?_set_self (by simpa using h)]
    simp [h, ptrV, eN_end]
  · rw [List.getElem?_set_ne (fun e => hj e.symm)]
    by_cases hjl : j < Ls.length
    · simp only [List.getElem?_map, List.getElem?_range hjl, Option.map_some]
      congr 1
      unfold ptrV
      rw [List.length_append, List.length_singleton]
      by_cases h2 : j < us.length
      · rw [if_pos h2, if_pos (by omega), eN_left _ _ _ h2]
      · rw [if_neg h2, if_neg (by omega)]
    · rw [List.getElem?_eq_none (by simp; omega), List.getElem?_eq_none (by simp; omega)]

/-- Block g holds the lists that have been laid at us, the other ones nil. -/
def CB (w : World) (g : Nat) (us : List Nat) (Ls : List (List Int)) : Prop :=
  w.heap[g]? = some (.cells (ptrsA us Ls) 22 (0, 0)) ∧ (∀ i, i < us.length → g < eN us i ∧ Blk w (eN us i) (elS Ls i)) ∧ ∀ i j, i < j → j < us.length → eN us i < eN us j
theorem CB.lt {w : World} {g : Nat} {us : List Nat} {Ls : List (List Int)} (h : CB w g us Ls) : g < w.heap.size := (Array.getElem?_eq_some_iff.1 h.1).1
theorem CB.cell {w : World} {g : Nat} {us : List Nat} {Ls : List (List Int)} (h : CB w g us Ls) {i : Nat} (hi : i < Ls.length) : w.cell? ⟨g, i, none⟩ = some (ptrV us Ls i) := by
  rw [cell_of_row w g i _ _ _ h.1]; exact ptrsA_at us Ls i hi
theorem CB.frozen {w : World} {g : Nat} {us : List Nat} {Ls : List (List Int)} (h : CB w g us Ls) (i : Nat) : w.frozen? ⟨g, i, none⟩ = false := frozen_of_row w g i _ _ h.1
theorem CB.below {w w' : World} {g : Nat} {us : List Nat} {Ls : List (List Int)} (h : CB w g us Ls) (hb : Below w.heap.size w w') : CB w' g us Ls :=
  ⟨(hb.block g h.lt).trans h.1, fun i hi => ⟨(h.2.1 i hi).1, (h.2.1 i hi).2.belowAll hb⟩, h.2.2⟩
theorem CB.ss {w : World} {g : Nat} {us : List Nat} {Ls : List (List Int)} (h : CB w g us Ls) (hl : us.length = Ls.length) (cap : Nat) : SS w (.slice (some ⟨g, 0, none⟩) Ls.length cap) Ls :=
  .inr ⟨g, 0, cap, ptrV us Ls, rfl, h.lt, fun i hi => ⟨by rw [Nat.zero_add]; exact h.cell hi, by
    unfold ptrV
    rw [if_pos (by omega)]
    exact (h.2.1 i (by omega)).2.sl _⟩⟩
theorem CB.new (w : World) (Ls : List (List Int)) : CB (w.alloc (.cells (ptrsA [] Ls) 22)) w.heap.size [] Ls := ⟨World.alloc_heap_new w _, fun i h => by simp at h, fun i j _ h => by simp at h⟩
theorem CB.snoc {w : World} {g : Nat} {us : List Nat} {Ls : List (List Int)} {n : Nat} (h : CB w g us Ls) (hn : Blk w n (elS Ls us.length)) (hlt : us.length < Ls.length) (hg : g < n) (hall : ∀ i, i < us.length → eN us i < n) :
    CB (w.setCell ⟨g, us.length, none⟩ (.slice (some ⟨n, 0, none⟩) (elS Ls us.length).length (elS Ls us.length).length)) g (us ++ [n]) Ls := by
  refine ⟨?_, fun i hi => ?_, fun i j hij hj => ?_⟩
  · rw [heap_setCell_same w g us.length _ _ _ h.1, ptrsA_snoc us Ls n hlt]
  · rw [List.length_append, List.length_singleton] at hi
    by_cases e : i < us.length
    · rw [eN_left _ _ _ e]
      obtain ⟨h1, h2⟩ := h.2.1 i e
      exact ⟨h1, h2.other (by simp; omega) _⟩
    · obtain rfl : i = us.length := by omega
      rw [eN_end]
      exact ⟨hg, hn.other (by simp; omega) _⟩
  · rw [List.length_append, List.length_singleton] at hj
    by_cases e : j < us.length
    · rw [eN_left _ _ _ e, eN_left _ _ _ (by omega)]; exact h.2.2 i j hij e
    · obtain rfl : j = us.length := by omega
      rw [eN_end, eN_left _ _ _ hij]; exact hall i hij

theorem mkS_info : (Tryd.prog.info? 22).map (fun i => (i.zero, i.size, i.bytes)) = some (some (.slice none 0 0), 1, 24) := by kernel_rfl
set_option maxRecDepth 100000 in
theorem run_mkSlices (Ls : List (List Int)) (h : Ls.length ≤ 1048576) (w : World) : (Instr.makeSlice 67 (.int .i64 Ls.length) (.int .i64 Ls.length)).run Tryd.prog w = .ok (.slice (some ⟨w.heap.size, 0, none⟩) Ls.length Ls.length) (w.alloc (.cells (ptrsA [] Ls) 22)) := by
  obtain ⟨i0, hi, hz0, hz1, hz2⟩ := info_parts mkS_info
  rw [run_make w 67 22 i0 (.slice none 0 0) Tryd.underlying67 hi hz0 .i64 .i64 Ls.length Ls.length (by omega) (by omega) (by rw [hz2]; omega) (by omega)]
  simp only [Int.toNat_natCast, hz1, Nat.mul_one]
  rw [ptrsA_nil]
  congr 2
  unfold madeCells
  congr 1
  apply Array.ext_getElem?
  intro j
  by_cases hj : j < Ls.length
  · simp [hj, Value.cells, Nat.mod_one]
  · rw [Array.getElem?_eq_none (by simp; omega), Array.getElem?_eq_none (by simp; omega)]

/-- A copy of the lists in new memory. -/
def Copied (w : World) (Ls : List (List Int)) (e : Ending) (w' : World) : Prop := ∃ us : List Nat, e = .returned (.slice (some ⟨w.heap.size, 0, none⟩) Ls.length Ls.length) ∧ CB w' w.heap.size us Ls ∧ us.length = Ls.length

end Go.Proofs.YtkflcjhoghiffaaDoor
