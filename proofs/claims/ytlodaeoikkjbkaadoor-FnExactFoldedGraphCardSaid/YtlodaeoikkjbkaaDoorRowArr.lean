/-
  impl.rowArrayOf: the rows with zeros behind them.
-/
import Derived.Test.YtlodaeoikkjbkaaDoorTurn
import Derived.Laws.CopyOwn
import Derived.KernelRfl
namespace Go.Proofs.YtlodaeoikkjbkaaDoor
set_option maxRecDepth 100000
open Go.RowKit Go.Shelf

theorem el_lt {zs : List Int} {i : Nat} (h : i < zs.length) : el zs i = zs[i] := by simp [el, h]
theorem el_ge {zs : List Int} {i : Nat} (h : zs.length ≤ i) : el zs i = 0 := by simp [el, h]
theorem rowsA_list (f : Nat → Int) : (rowsA f).toList = (List.range 62).map fun i => Value.int .i64 (f i) := by simp [rowsA, rowsL]
theorem splice_rows (zs : List Int) (h : zs.length ≤ 62) : (splice (rowsA fun _ => 0).toList 0 (zs.map (Value.int .i64))).toArray = rowsA (el zs) := by
  apply Array.ext_getElem?
  intro i
  rw [List.getElem?_toArray, rowsA_list]
  simp only [splice, List.take_zero, List.nil_append, Nat.zero_add, List.length_map]
  by_cases hz : i < zs.length
  · rw [List.getElem?_append_left (by simpa using hz), rowsA_at _ i (by omega), el_lt hz]
    simp [hz]
  · rw [List.getElem?_append_right (by simp; omega), List.getElem?_drop, List.length_map]
    have e : zs.length + (i - zs.length) = i := by omega
    rw [e]
    by_cases hi : i < 62
    · rw [rowsA_at _ i hi, el_ge (by omega)]; simp [hi]
    · rw [Array.getElem?_eq_none (by rw [rowsA_size]; omega), List.getElem?_eq_none (by simp; omega)]

/-- The pointer and the capacity of a slice. -/
def slPtr : Value → Option Addr | .slice a _ _ => a | _ => none
def slCap : Value → Nat | .slice _ _ c => c | _ => 0
theorem slForm {w : World} {v : Value} {zs : List Int} (h : Sl w v zs) : v = .slice (slPtr v) zs.length (slCap v) := by
  rcases h with ⟨a, c, rfl, rfl⟩ | ⟨b, off, cap, rfl, _, _⟩ <;> rfl
theorem size2 : (Tryd.prog.info? 2).map (·.size) = some 1 := by kernel_rfl
theorem run_toArr (a : Addr) (w : World) : (Instr.arrayAt 75 (.slice (some a) 62 62)).run Tryd.prog w = .ok (.pointer (some a)) w := by
  simp [Instr.arrayAt, run_underlying Tryd.underlying75]
theorem run_mk62 (w : World) : (Instr.makeSlice 22 (.int .i64 62) (.int .i64 62)).run Tryd.prog w = .ok (.slice (some ⟨w.heap.size, 0, none⟩) 62 62) (w.alloc (.cells (rowsA fun _ => 0) 2)) := by kernel_rfl

set_option maxRecDepth 100000 in
set_option maxHeartbeats 800000 in
theorem rowArr_any (v : Value) (zs : List Int) (w : World) (hs : Sl w v zs) (hl : zs.length ≤ 62) :
    Calls Tryd.prog 65 #[v] w fun e w' => e = .returned (.agg (rowsA (el zs))) ∧ Below w.heap.size w w' := by
  have HS := Lib.hid hs; clear hs
  have hmk := run_mk62
  have hsa := run_toArr
  go_enter Tryd.func65, Tryd.ntmps65
  have hform := slForm HS.out
  have HF := Lib.hid hform; clear hform
  go_wp2_with (refine wpList_copy_splice rfl (.tmp 5) (.tmp 6) 22 22 rfl 2 Tryd.underlying22 size2 (some ⟨w.heap.size + 1, 0, none⟩) (slPtr v) 62 62 zs.length (slCap v) rfl (by exact HF.out) (w.heap.size + 1) 0 (rowsA fun _ => 0).toList 2 ?hg (zs.map (Value.int .i64)) ?hn ?hpos ?hfit ?h1 (w.heap.size + 1) (w.alloc (.cells (rowsA fun _ => 0) 75)) ?hb (by omega) ?_)
  case hg =>
    have := World.alloc_heap_new (w.alloc (.cells (rowsA fun _ => 0) 75)) (.cells (rowsA fun _ => 0) 2)
    rw [World.size_alloc] at this
    rw [Array.toArray_toList]
    exact this
  case hn => rw [List.length_map]; exact (Nat.min_eq_left hl).symm
  case hpos =>
    intro h0
    rcases HS.out with ⟨_, _, _, rfl⟩ | ⟨b, off, cap, rfl, hb, hc⟩
    · simp at h0
    · refine ⟨⟨b, off, none⟩, rfl, fun j y hy => ?_⟩
      obtain ⟨hjl, rfl⟩ := List.getElem?_eq_some_iff.1 hy
      have hadd : (⟨b, off, none⟩ : Addr).add j = ⟨b, off + j, none⟩ := by unfold Addr.add; split <;> simp_all
      rw [hadd, World.cell?_alloc_lt _ _ _ (by simp; omega), World.cell?_alloc_lt _ _ _ hb, hc j hjl, el_lt hjl]
  case hfit => rw [rowsA_list]; simp; omega
  case h1 => intro x hx; simp at hx; obtain ⟨y, _, rfl⟩ := hx; rfl
  case hb => exact (Below.refl _ _).alloc (by simp) _
  intro w1 hg1 hb1
  have HG : w1.heap[w.heap.size + 1]? = some (.cells (rowsA (el zs)) 2 (0, 0)) := by rw [← splice_rows zs hl]; exact hg1.out
  have hR : ArrB w1 w.heap.size (fun _ => 0) := (hb1.block _ (by omega)).trans (World.alloc_heap_new w _)
  have HGH := Lib.hid HG
  have HR := Lib.hid hR
  clear hg1 HG hR
  go_wp2_with (first | (refine wpList_load_row rfl 75 (.tmp 9) rfl (w.heap.size + 1) rfl 2 (rowsA (el zs)) (0, 0) _ HGH.out Tryd.underlying75 rfl (by rw [rowsA_size]; exact info59) ?_) | (refine wpList_store_row rfl 75 (.tmp 2) (.tmp 10) rfl w.heap.size (rowsA (el zs)) rfl rfl 75 (rowsA fun _ => 0) HR.out (by rw [rowsA_size]; exact info59) (by rw [rowsA_size, rowsA_size]) (rowsA_one _) ?_))
  have hRn : ArrB (w1.setRow w.heap.size (rowsA (el zs))) w.heap.size (el zs) := HR.out.setRow _
  refine bodyPost_ret (v := .agg (rowsA (el zs))) (results_cell_row (p := 2) (ty := 75) rfl _ _ w.heap.size 75 _ (0, 0) _ rfl hRn Tryd.underlying75 rfl (by rw [rowsA_size]; exact info59)) rfl ⟨rfl, ?_⟩
  exact (((Below.refl _ w).alloc (Nat.le_refl _) _).trans (hb1.mono (by omega))).trans (setRow_below (Nat.le_refl _) _)
end Go.Proofs.YtlodaeoikkjbkaaDoor
