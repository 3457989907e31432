/-
  impl.distanceRows: a list of rows that are parts of one table.
-/
import Derived.Test.YtbpcdgfcdahnlaaDoorWr
import Derived.Deep.DeepCutAuto
import Derived.Deep.RegionWith
namespace Go.Proofs.YtbpcdgfcdahnlaaDoor
set_option maxRecDepth 100000
set_option maxRecDepth 100000
open Go.RowKit

theorem mkS_info : (Tryd.prog.info? 22).map (fun i => (i.zero, i.size, i.bytes)) = some (some (.slice none 0 0), 1, 24) := by kernel_rfl
/-- The cells of n slices. -/
def slA (n : Nat) (f : Nat → Value) : Array Value := ((List.range n).map f).toArray
theorem slA_size (n : Nat) (f : Nat → Value) : (slA n f).size = n := by simp [slA]
theorem slA_at (n : Nat) (f : Nat → Value) (i : Nat) (h : i < n) : (slA n f)[i]? = some (f i) := by simp [slA, h]
theorem slA_set (n : Nat) (f : Nat → Value) (i : Nat) (v : Value) : (slA n f).setIfInBounds i v = slA n fun j => if j = i then v else f j := by
  apply Array.ext_getElem?
  intro j
  by_cases hj : j < n
  · rw [slA_at _ _ j hj, Array.getElem?_setIfInBounds]
    by_cases e : i = j
    · subst e; simp [slA_size, hj]
    · have : ¬ j = i := fun h => e h.symm
      simp [e, this, slA_at _ _ j hj]
  · rw [Array.getElem?_eq_none (by rw [Array.size_setIfInBounds, slA_size]; omega), Array.getElem?_eq_none (by rw [slA_size]; omega)]
theorem run_mkRows (n : Nat) (h : n ≤ 1048576) (w : World) : (Instr.makeSlice 37 (.int .i64 n) (.int .i64 n)).run Tryd.prog w = .ok (.slice (some ⟨w.heap.size, 0, none⟩) n n) (w.alloc (.cells (slA n fun _ => .slice none 0 0) 22)) := by
  obtain ⟨i0, hi, hz0, hz1, hz2⟩ := info_parts mkS_info
  rw [run_make w 37 22 i0 (.slice none 0 0) Tryd.underlying37 hi hz0 .i64 .i64 n n (by omega) (by omega) (by rw [hz2]; omega) (by omega)]
  simp only [Int.toNat_natCast, hz1, Nat.mul_one]
  congr 2
  unfold slA madeCells
  congr 1
  apply Array.ext_getElem?
  intro j
  by_cases hj : j < n
  · simp [hj, Value.cells, Nat.mod_one]
  · rw [Array.getElem?_eq_none (by simp; omega), Array.getElem?_eq_none (by simp; omega)]

/-- The first k rows of distances, in one table. -/
def tabL (zs : List Int) (k : Nat) : List Int := (List.range (zs.length * zs.length)).map fun i => if i < k * zs.length then el (dsL zs (i / zs.length)) (i % zs.length) else 0
theorem tabL_length (zs : List Int) (k : Nat) : (tabL zs k).length = zs.length * zs.length := by simp [tabL]
theorem tabL_at {zs : List Int} {k i : Nat} (hi : i < zs.length * zs.length) : el (tabL zs k) i = if i < k * zs.length then el (dsL zs (i / zs.length)) (i % zs.length) else 0 := by
  rw [el_lt (by rw [tabL_length]; exact hi)]; simp [tabL]
theorem tabL_zero (zs : List Int) : tabL zs 0 = List.replicate (zs.length * zs.length) 0 := by
  refine ext_el (by rw [tabL_length, List.length_replicate]) fun i hi => ?_
  rw [tabL_length] at hi
  rw [tabL_at hi, if_neg (by omega), el_lt (by rw [List.length_replicate]; exact hi)]
  simp
theorem tabL_succ {zs : List Int} {k : Nat} (hk : k < zs.length) : segL (tabL zs k) (k * zs.length) (dsL zs k) = tabL zs (k + 1) := by
  have e1 : (k + 1) * zs.length = k * zs.length + zs.length := Nat.succ_mul _ _
  refine ext_el (by rw [segL_length, tabL_length, tabL_length]) fun i hi => ?_
  rw [segL_length, tabL_length] at hi
  rw [segL_at (by rw [tabL_length]; exact hi), tabL_at hi, tabL_at hi, dsL_length]
  by_cases h1 : i < k * zs.length
  · rw [if_neg (by omega), if_pos h1, if_pos (by omega)]
  · by_cases h2 : i < k * zs.length + zs.length
    · have hd : i / zs.length = k := by
        exact Nat.div_eq_of_lt_le (show k * zs.length ≤ i by omega) (show i < (k + 1) * zs.length by rw [e1]; exact h2)
      have hm : i % zs.length = i - k * zs.length := by
        have := Nat.div_add_mod i zs.length
        rw [hd, Nat.mul_comm] at this
        omega
      rw [if_pos ⟨by omega, h2⟩, if_pos (by omega), hd, hm]
    · rw [if_neg (by omega), if_neg h1, if_neg (by omega)]
theorem tabL_all {zs : List Int} {v u : Nat} (hv : v < zs.length) (hu : u < zs.length) : el (tabL zs zs.length) (v * zs.length + u) = el (dsL zs v) u := by
  have h2 : v * zs.length + u < zs.length * zs.length := by
    have : (v + 1) * zs.length ≤ zs.length * zs.length := Nat.mul_le_mul_right _ hv
    rw [Nat.succ_mul] at this; omega
  rw [tabL_at h2, if_pos h2]
  have h0 : 0 < zs.length := by omega
  rw [Nat.mul_comm v, Nat.mul_add_div h0, Nat.div_eq_of_lt hu, Nat.mul_add_mod, Nat.mod_eq_of_lt hu, Nat.add_zero]
/-- The slice of row j, if it is one of the first k. -/
def rowV (gT n k j : Nat) : Value := if j < k then .slice (some ⟨gT, j * n, none⟩) n n else .slice none 0 0
/-- The rows of distances in memory. -/
def DR (w : World) (gR gT : Nat) (zs : List Int) : Prop := w.heap[gR]? = some (.cells (slA zs.length (rowV gT zs.length zs.length)) 22 (0, 0)) ∧ Blk w gT (tabL zs zs.length)
theorem DR.row {w : World} {gR gT : Nat} {zs : List Int} (h : DR w gR gT zs) {v : Nat} (hv : v < zs.length) : w.cell? ⟨gR, v, none⟩ = some (.slice (some ⟨gT, v * zs.length, none⟩) zs.length zs.length) := by
  rw [cell_of_row w gR v _ _ _ h.1, slA_at _ _ v hv]; simp [rowV, hv]
theorem DR.dist {w : World} {gR gT : Nat} {zs : List Int} (h : DR w gR gT zs) {v u : Nat} (hv : v < zs.length) (hu : u < zs.length) : w.cell? ⟨gT, v * zs.length + u, none⟩ = some (.int .i64 (el (dsL zs v) u)) := by
  rw [h.2.cell (by
    rw [tabL_length]
    have : (v + 1) * zs.length ≤ zs.length * zs.length := Nat.mul_le_mul_right _ hv
    rw [Nat.succ_mul] at this; omega), tabL_all hv hu]
theorem DR.below {w w' : World} {gR gT : Nat} {zs : List Int} (h : DR w gR gT zs) (hb : Below w.heap.size w w') : DR w' gR gT zs :=
  ⟨(hb.block gR (Array.getElem?_eq_some_iff.1 h.1).1).trans h.1, h.2.belowAll hb⟩

theorem rowV_set (gT n k : Nat) : (fun j => if j = k then Value.slice (some ⟨gT, k * n, none⟩) n n else rowV gT n k j) = rowV gT n (k + 1) := by
  funext j
  unfold rowV
  by_cases e : j = k
  · rw [if_pos e, e, if_pos (by omega)]
  · rw [if_neg e]
    by_cases h : j < k
    · rw [if_pos h, if_pos (by omega)]
    · rw [if_neg h, if_neg (by omega)]

theorem dr_first {w Wb Wt w5 : World} {zs : List Int} {N b ob cap : Nat} (hsb : Wb.heap.size = w.heap.size + 1) (hz : tabL zs 0 = List.replicate N 0) (hbb : Below w.heap.size w Wb) (hgb : Wb.heap[w.heap.size]? = some (.cells #[.int .i64 zs.length, .slice (some ⟨b, ob, none⟩) zs.length cap] 28 (0, 0)))
    (hBt : Below Wb.heap.size Wb Wt) (hst : Wt.heap.size = Wb.heap.size + 1) (hT : Wt.heap[Wb.heap.size]? = some (.cells (intsA (List.replicate N 0)) 2 (0, 0)))
    (hr5 : w5.heap[Wt.heap.size]? = some (.cells (slA zs.length (rowV Wb.heap.size zs.length zs.length)) 22 (0, 0))) (hb5 : Below Wt.heap.size Wt w5) :
    Value.slice (some ⟨Wb.heap.size + 1, 0, none⟩) zs.length zs.length = Value.slice (some ⟨w.heap.size + 2, 0, none⟩) zs.length zs.length ∧ Hid (Blk w5 (w.heap.size + 1) (tabL zs 0)) ∧ Hid (w5.heap[w.heap.size + 2]? = some (.cells (slA zs.length (rowV (w.heap.size + 1) zs.length zs.length)) 22 (0, 0))) ∧ Hid (w5.heap[w.heap.size]? = some (.cells #[.int .i64 zs.length, .slice (some ⟨b, ob, none⟩) zs.length cap] 28 (0, 0))) ∧ Hid (Below w.heap.size w w5) := by
  have hB5 : Below Wb.heap.size Wb w5 := hBt.trans (hb5.mono (by omega))
  rw [hst, hsb] at hr5
  refine ⟨by rw [hsb], ?_, hr5, (hB5.block _ (by omega)).trans hgb, hbb.trans (hB5.mono hbb.size)⟩
  show Blk _ _ _
  rw [hz, ← hsb]
  exact (hb5.block _ (by omega)).trans hT

end Go.Proofs.YtbpcdgfcdahnlaaDoor
