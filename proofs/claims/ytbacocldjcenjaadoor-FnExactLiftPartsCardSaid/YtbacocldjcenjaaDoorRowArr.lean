/-
  impl.rowArrayOf: the rows with zeros behind them.
-/
import Derived.Test.YtbacocldjcenjaaDoorTurn
import Derived.Laws.CopyOwn
import Derived.KernelRfl
namespace Go.Proofs.YtbacocldjcenjaaDoor
set_option maxRecDepth 100000
open Go.RowKit Go.Shelf

theorem el_lt {zs : List Int} {i : Nat} (h : i < zs.length) : el zs i = zs[i] := by simp [el, h]
theorem el_ge {zs : List Int} {i : Nat} (h : zs.length ≤ i) : el zs i = 0 := by simp [el, h]
theorem rowsA_list (f : Nat → Int) : (rowsA f).toList = (List.range 62).map fun i => Value.int .i64 (f i) := by simp [rowsA, rowsL]
theorem splice_rows (zs : List Int) (h : zs.length ≤ 62) : (splice (rowsA fun _ => 0).toList 0 (zs.map (Value.int .i64))).toArray = rowsA (el zs) := by
  apply Array.ext_getElem?
  intro i
  rw [List.getElem?_toArray, rowsA_list]
  simp only [splice, List.take_zero, List.nil_append, Nat.zero_add, List.length_map]
  by_cases hz : i < zs.length
  · rw [List.getElem?_append_left (by simpa using hz), rowsA_at _ i (by omega), el_lt hz]
    simp [hz]
  · rw [List.getElem?_append_right (by simp; omega), List.getElem?_drop, List.length_map]
    have e : zs.length + (i - zs.length) = i := by omega
    rw [e]
    by_cases hi : i < 62
    · rw [rowsA_at _ i hi, el_ge (by omega)]; simp [hi]
    · rw [Array.getElem?_eq_none (by rw [rowsA_size]; omega), List.getElem?_eq_none (by simp; omega)]

/-- The pointer and the capacity of a slice. -/
def slPtr : Value → Option Addr | .slice a _ _ => a | _ => none
def slCap : Value → Nat | .slice _ _ c => c | _ => 0
theorem slForm {w : World} {v : Value} {zs : List Int} (h : Sl w v zs) : v = .slice (slPtr v) zs.length (slCap v) := by
  rcases h with ⟨a, c, rfl, rfl⟩ | ⟨b, off, cap, rfl, _, _⟩ <;> rfl
theorem size2 : (Tryd.prog.info? 2).map (·.size) = some 1 := by kernel_rfl
theorem run_mk62 (w : World) : (Instr.makeSlice 36 (.int .i64 62) (.int .i64 62)).run Tryd.prog w = .ok (.slice (some ⟨w.heap.size, 0, none⟩) 62 62) (w.alloc (.cells (rowsA fun _ => 0) 2)) := by kernel_rfl

end Go.Proofs.YtbacocldjcenjaaDoor
