/-
  Blocks that hold a list of numbers; the laws' helpers that copy, size and compare lists and graphs.
-/
import Derived.Test.YtbacocldjcenjaaDoorRowArr
import Derived.OwnWalk
import Derived.BigQuiet
import Derived.Deep.QuietTactic
namespace Go.Proofs.YtbacocldjcenjaaDoor
set_option maxRecDepth 100000
open Go.RowKit

/-- The cells of a list of numbers. -/
def intsA (zs : List Int) : Array Value := (zs.map (Value.int .i64)).toArray
theorem intsA_size (zs : List Int) : (intsA zs).size = zs.length := by simp [intsA]
theorem intsA_at (zs : List Int) (i : Nat) (h : i < zs.length) : (intsA zs)[i]? = some (.int .i64 (el zs i)) := by simp [intsA, h, el_lt h]
/-- Block g holds just the numbers of zs. -/
def Blk (w : World) (g : Nat) (zs : List Int) : Prop := w.heap[g]? = some (.cells (intsA zs) 2 (0, 0))
theorem Blk.lt {w : World} {g : Nat} {zs : List Int} (h : Blk w g zs) : g < w.heap.size := (Array.getElem?_eq_some_iff.1 h).1
theorem Blk.cell {w : World} {g : Nat} {zs : List Int} (h : Blk w g zs) {i : Nat} (hi : i < zs.length) : w.cell? ⟨g, i, none⟩ = some (.int .i64 (el zs i)) := by
  rw [cell_of_row w g i _ _ _ h]; exact intsA_at zs i hi
theorem Blk.frozen {w : World} {g : Nat} {zs : List Int} (h : Blk w g zs) (i : Nat) : w.frozen? ⟨g, i, none⟩ = false := frozen_of_row w g i _ _ h
theorem Blk.new (w : World) (zs : List Int) : Blk (w.alloc (.cells (intsA zs) 2)) w.heap.size zs := World.alloc_heap_new w _
theorem Blk.alloc {w : World} {g : Nat} {zs : List Int} (h : Blk w g zs) (o : Obj) : Blk (w.alloc o) g zs := (Below.heap_alloc w o g h.lt).trans h
theorem Blk.below {B : Nat} {w w' : World} {g : Nat} {zs : List Int} (h : Blk w g zs) (hb : Below B w w') (hg : g < B) : Blk w' g zs := (hb.block g hg).trans h
theorem Blk.belowAll {w w' : World} {g : Nat} {zs : List Int} (h : Blk w g zs) (hb : Below w.heap.size w w') : Blk w' g zs := h.below hb h.lt
theorem Blk.other {w : World} {g : Nat} {zs : List Int} (h : Blk w g zs) {a : Addr} (ha : g ≠ a.block) (v : Value) : Blk (w.setCell a v) g zs := (Below.heap_setCell w a v g ha).trans h
theorem Blk.set {w : World} {g : Nat} {zs : List Int} (h : Blk w g zs) (j : Nat) (n : Int) : Blk (w.setCell ⟨g, j, none⟩ (.int .i64 n)) g (zs.set j n) := by
  unfold Blk at *
  rw [heap_setCell_same w g j _ _ _ h]
  congr 2
  unfold intsA
  rw [List.map_set, List.setIfInBounds_toArray]
theorem Blk.sl {w : World} {g : Nat} {zs : List Int} (h : Blk w g zs) (cap : Nat) : Sl w (.slice (some ⟨g, 0, none⟩) zs.length cap) zs :=
  .inr ⟨g, 0, cap, rfl, h.lt, fun i hi => by rw [Nat.zero_add]; exact h.cell hi⟩

theorem mk_info : (Tryd.prog.info? 2).map (fun i => (i.zero, i.size, i.bytes)) = some (some (.int .i64 0), 1, 8) := by kernel_rfl
set_option maxRecDepth 100000 in
theorem run_mkInts (len : Nat) (h : len ≤ 1048576) (w : World) : (Instr.makeSlice 36 (.int .i64 len) (.int .i64 len)).run Tryd.prog w = .ok (.slice (some ⟨w.heap.size, 0, none⟩) len len) (w.alloc (.cells (intsA (List.replicate len 0)) 2)) := by
  obtain ⟨i0, hi, hz0, hz1, hz2⟩ := info_parts mk_info
  rw [run_make w 36 2 i0 (.int .i64 0) Tryd.underlying36 hi hz0 .i64 .i64 len len (by omega) (by omega) (by rw [hz2]; omega) (by omega)]
  simp only [Int.toNat_natCast, hz1, Nat.mul_one]
  congr 2
  unfold intsA madeCells
  congr 1
  apply Array.ext_getElem?
  intro j
  by_cases hj : j < len
  · simp [hj, Value.cells, Nat.mod_one]
  · rw [Array.getElem?_eq_none (by simp; omega), Array.getElem?_eq_none (by simp; omega)]

/-- The first k numbers copied. -/
def part (zs : List Int) (k : Nat) : List Int := zs.take k ++ List.replicate (zs.length - k) 0
theorem part_length (zs : List Int) (k : Nat) (h : k ≤ zs.length) : (part zs k).length = zs.length := by simp [part]; omega
theorem part_succ (zs : List Int) (k : Nat) (h : k < zs.length) : (part zs k).set k (el zs k) = part zs (k + 1) := by
  apply List.ext_getElem?
  intro j
  have hm : min k zs.length = k := by omega
  have hm' : min (k + 1) zs.length = k + 1 := by omega
  by_cases hj : j = k
  · subst hj
    rw [List.getElem?_set_self (by rw [part_length _ _ (by omega)]; exact h), part, List.getElem?_append_left (by rw [List.length_take, hm']; omega), el_lt h]
    simp [h]
  · rw [List.getElem?_set_ne (fun e => hj e.symm)]
    by_cases hlt : j < k
    · rw [part, part, List.getElem?_append_left (by rw [List.length_take, hm]; exact hlt), List.getElem?_append_left (by rw [List.length_take, hm']; omega)]
      simp [hlt, Nat.lt_succ_of_lt hlt]
    · rw [part, part, List.getElem?_append_right (by rw [List.length_take, hm]; omega), List.getElem?_append_right (by rw [List.length_take, hm']; omega)]
      simp only [List.length_take, hm, hm', List.getElem?_replicate]
      by_cases hz : j < zs.length
      · rw [if_pos (by omega), if_pos (by omega)]
      · rw [if_neg (by omega), if_neg (by omega)]
theorem part_all (zs : List Int) : part zs zs.length = zs := by simp [part]
theorem part_zero (zs : List Int) : part zs 0 = List.replicate zs.length 0 := by simp [part]

theorem take_eq_succ (xs ys : List Int) (k : Nat) (hx : k < xs.length) (hy : k < ys.length) (h : xs.take k = ys.take k) (he : el xs k = el ys k) : xs.take (k + 1) = ys.take (k + 1) := by
  rw [List.take_succ_eq_append_getElem hx, List.take_succ_eq_append_getElem hy, h, ← el_lt hx, ← el_lt hy, he]

theorem heap_new_at (w : World) (o : Obj) (k : Nat) (h : k = w.heap.size) : (w.alloc o).heap[k]? = some o := by subst h; exact World.alloc_heap_new w o
theorem heap_old_at {w : World} {k : Nat} {x : Obj} (h : w.heap[k]? = some x) (o : Obj) : (w.alloc o).heap[k]? = some x := (Below.heap_alloc w o k (Array.getElem?_eq_some_iff.1 h).1).trans h
theorem two_set {w : World} {k : Nat} {x y a b : Value} {t : TypeId} (h : w.heap[k]? = some (.cells #[x, y] t (0, 0))) : ((w.setCell ⟨k, 0, none⟩ a).setCell ⟨k, 1, none⟩ b).heap[k]? = some (.cells #[a, b] t (0, 0)) := by
  have h1 := heap_setCell_same w k 0 _ _ a h
  exact heap_setCell_same _ k 1 _ _ b h1
theorem info27 : (Tryd.prog.info? 38).map (·.size) = some 2 := by kernel_rfl
theorem two_cells {w : World} {k : Nat} {x y : Value} {t : TypeId} (h : w.heap[k]? = some (.cells #[x, y] t (0, 0))) : w.cell? ⟨k, 0, none⟩ = some x ∧ w.cell? ⟨k, 1, none⟩ = some y ∧ w.frozen? ⟨k, 0, none⟩ = false ∧ w.frozen? ⟨k, 1, none⟩ = false :=
  ⟨by rw [cell_of_row w k 0 _ _ _ h]; rfl, by rw [cell_of_row w k 1 _ _ _ h]; rfl, frozen_of_row w k 0 _ _ h, frozen_of_row w k 1 _ _ h⟩

end Go.Proofs.YtbacocldjcenjaaDoor
