/-
  Blocks of bools. (Base Pg.)
-/
import Derived.Test.YthonkphjahomeaaPg
namespace Go.Proofs.Ythonkphjahomeaa
open Go.RowKit

/-- Element i of a list of bools, false behind its end. -/
def eb (bs : List Bool) (i : Nat) : Bool := bs.getD i false
/-- The cells of a list of bools. -/
def boolsA (bs : List Bool) : Array Value := (bs.map Value.bool).toArray
theorem boolsA_size (bs : List Bool) : (boolsA bs).size = bs.length := by simp [boolsA]
theorem boolsA_at (bs : List Bool) (i : Nat) (h : i < bs.length) : (boolsA bs)[i]? = some (.bool (eb bs i)) := by simp [boolsA, h, eb]
/-- Block g holds just the bools of bs. -/
def BBlk (w : World) (g : Nat) (bs : List Bool) : Prop := w.heap[g]? = some (.cells (boolsA bs) 4 (0, 0))
theorem BBlk.lt {w : World} {g : Nat} {bs : List Bool} (h : BBlk w g bs) : g < w.heap.size := (Array.getElem?_eq_some_iff.1 h).1
theorem BBlk.cell {w : World} {g : Nat} {bs : List Bool} (h : BBlk w g bs) {i : Nat} (hi : i < bs.length) : w.cell? ⟨g, i, none⟩ = some (.bool (eb bs i)) := by
  rw [cell_of_row w g i _ _ _ h]; exact boolsA_at bs i hi
theorem BBlk.frozen {w : World} {g : Nat} {bs : List Bool} (h : BBlk w g bs) (i : Nat) : w.frozen? ⟨g, i, none⟩ = false := frozen_of_row w g i _ _ h
theorem BBlk.new (w : World) (bs : List Bool) : BBlk (w.alloc (.cells (boolsA bs) 4)) w.heap.size bs := World.alloc_heap_new w _
theorem BBlk.alloc {w : World} {g : Nat} {bs : List Bool} (h : BBlk w g bs) (o : Obj) : BBlk (w.alloc o) g bs := (Below.heap_alloc w o g h.lt).trans h
theorem BBlk.below {B : Nat} {w w' : World} {g : Nat} {bs : List Bool} (h : BBlk w g bs) (hb : Below B w w') (hg : g < B) : BBlk w' g bs := (hb.block g hg).trans h
theorem BBlk.belowAll {w w' : World} {g : Nat} {bs : List Bool} (h : BBlk w g bs) (hb : Below w.heap.size w w') : BBlk w' g bs := h.below hb h.lt
theorem BBlk.set {w : World} {g : Nat} {bs : List Bool} (h : BBlk w g bs) (j : Nat) (b : Bool) : BBlk (w.setCell ⟨g, j, none⟩ (.bool b)) g (bs.set j b) := by
  unfold BBlk at *
  rw [heap_setCell_same w g j _ _ _ h]
  congr 2
  unfold boolsA
  rw [List.map_set, List.setIfInBounds_toArray]

theorem mkb_info : (Try.prog.info? 4).map (fun i => (i.zero, i.size, i.bytes)) = some (some (.bool false), 1, 1) := by kernel_rfl
set_option maxRecDepth 100000 in
theorem run_mkBools (len : Nat) (h : len ≤ 1048576) (w : World) : (Instr.makeSlice 49 (.int .i64 len) (.int .i64 len)).run Try.prog w = .ok (.slice (some ⟨w.heap.size, 0, none⟩) len len) (w.alloc (.cells (boolsA (List.replicate len false)) 4)) := by
  obtain ⟨i0, hi, hz0, hz1, hz2⟩ := info_parts mkb_info
  rw [run_make w 49 4 i0 (.bool false) Try.underlying49 hi hz0 .i64 .i64 len len (by omega) (by omega) (by rw [hz2]; omega) (by omega)]
  simp only [Int.toNat_natCast, hz1, Nat.mul_one]
  congr 2
  unfold boolsA madeCells
  congr 1
  apply Array.ext_getElem?
  intro j
  by_cases hj : j < len
  · simp [hj, Value.cells, Nat.mod_one]
  · rw [Array.getElem?_eq_none (by simp; omega), Array.getElem?_eq_none (by simp; omega)]

/-- The bools that f tells, n of them. -/
def boolsF (n : Nat) (f : Nat → Bool) : List Bool := (List.range n).map f
theorem boolsF_length (n : Nat) (f : Nat → Bool) : (boolsF n f).length = n := by simp [boolsF]
theorem eb_boolsF (n : Nat) (f : Nat → Bool) (i : Nat) (h : i < n) : eb (boolsF n f) i = f i := by simp [eb, boolsF, h]
theorem boolsF_none (n : Nat) : boolsF n (fun _ => false) = List.replicate n false := by
  unfold boolsF; rw [List.eq_replicate_iff]
  refine ⟨by simp, fun x hx => ?_⟩
  obtain ⟨v, _, rfl⟩ := List.mem_map.1 hx
  rfl
theorem boolsF_set (n : Nat) (f : Nat → Bool) (i : Nat) : (boolsF n f).set i true = boolsF n (fun y => f y || y == i) := by
  apply List.ext_getElem
  · simp [boolsF]
  · intro j h1 h2
    simp only [boolsF, List.length_map, List.length_range] at h2
    rw [List.getElem_set]
    simp only [boolsF, List.getElem_map, List.getElem_range]
    by_cases e : i = j
    · subst e; simp
    · have : (j == i) = false := by simp; omega
      simp [e, this]
end Go.Proofs.Ythonkphjahomeaa
