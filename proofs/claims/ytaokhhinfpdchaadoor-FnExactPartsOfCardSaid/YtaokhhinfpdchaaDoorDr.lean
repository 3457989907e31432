/-
  impl.distanceRows: a list of rows that are parts of one table.
-/
import Derived.Test.YtaokhhinfpdchaaDoorWr
import Derived.Deep.DeepCutAuto
import Derived.Deep.RegionWith
namespace Go.Proofs.YtaokhhinfpdchaaDoor
set_option maxRecDepth 100000
open Go.RowKit

theorem mkS_info : (Tryd.prog.info? 22).map (fun i => (i.zero, i.size, i.bytes)) = some (some (.slice none 0 0), 1, 24) := by kernel_rfl
/-- The cells of n slices. -/
def slA (n : Nat) (f : Nat → Value) : Array Value := ((List.range n).map f).toArray
theorem slA_size (n : Nat) (f : Nat → Value) : (slA n f).size = n := by simp [slA]
theorem slA_at (n : Nat) (f : Nat → Value) (i : Nat) (h : i < n) : (slA n f)[i]? = some (f i) := by simp [slA, h]
theorem slA_set (n : Nat) (f : Nat → Value) (i : Nat) (v : Value) : (slA n f).setIfInBounds i v = slA n fun j => if j = i then v else f j := by
  apply Array.ext_getElem?
  intro j
  by_cases hj : j < n
  · rw [slA_at _ _ j hj, Array.getElem?_setIfInBounds]
    by_cases e : i = j
    · subst e; simp [slA_size, hj]
    · have : ¬ j = i := fun h => e h.symm
      simp [e, this, slA_at _ _ j hj]
  · rw [Array.getElem?_eq_none (by rw [Array.size_setIfInBounds, slA_size]; omega), Array.getElem?_eq_none (by rw [slA_size]; omega)]
theorem run_mkRows (n : Nat) (h : n ≤ 1048576) (w : World) : (Instr.makeSlice 40 (.int .i64 n) (.int .i64 n)).run Tryd.prog w = .ok (.slice (some ⟨w.heap.size, 0, none⟩) n n) (w.alloc (.cells (slA n fun _ => .slice none 0 0) 22)) := by
  obtain ⟨i0, hi, hz0, hz1, hz2⟩ := info_parts mkS_info
  rw [run_make w 40 22 i0 (.slice none 0 0) Tryd.underlying40 hi hz0 .i64 .i64 n n (by omega) (by omega) (by rw [hz2]; omega) (by omega)]
  simp only [Int.toNat_natCast, hz1, Nat.mul_one]
  congr 2
  unfold slA madeCells
  congr 1
  apply Array.ext_getElem?
  intro j
  by_cases hj : j < n
  · simp [hj, Value.cells, Nat.mod_one]
  · rw [Array.getElem?_eq_none (by simp; omega), Array.getElem?_eq_none (by simp; omega)]

/-- The first k rows of distances, in one table. -/
def tabL (zs : List Int) (k : Nat) : List Int := (List.range (zs.length * zs.length)).map fun i => if i < k * zs.length then el (dsL zs (i / zs.length)) (i % zs.length) else 0
theorem tabL_length (zs : List Int) (k : Nat) : (tabL zs k).length = zs.length * zs.length := by simp [tabL]
theorem tabL_at {zs : List Int} {k i : Nat} (hi : i < zs.length * zs.length) : el (tabL zs k) i = if i < k * zs.length then el (dsL zs (i / zs.length)) (i % zs.length) else 0 := by
  rw [el_lt (by rw [tabL_length]; exact hi)]; simp [tabL]
theorem tabL_zero (zs : List Int) : tabL zs 0 = List.replicate (zs.length * zs.length) 0 := by
  refine ext_el (by rw [tabL_length, List.length_replicate]) fun i hi => ?_
  rw [tabL_length] at hi
  rw [tabL_at hi, if_neg (by omega), el_lt (by rw [List.length_replicate]; exact hi)]
  simp
theorem tabL_succ {zs : List Int} {k : Nat} (hk : k < zs.length) : segL (tabL zs k) (k * zs.length) (dsL zs k) = tabL zs (k + 1) := by
  have e1 : (k + 1) * zs.length = k * zs.length + zs.length := Nat.succ_mul _ _
  refine ext_el (by rw [segL_length, tabL_length, tabL_length]) fun i hi => ?_
  rw [segL_length, tabL_length] at hi
  rw [segL_at (by rw [tabL_length]; exact hi), tabL_at hi, tabL_at hi, dsL_length]
  by_cases h1 : i < k * zs.length
  · rw [if_neg (by omega), if_pos h1, if_pos (by omega)]
  · by_cases h2 : i < k * zs.length + zs.length
    · have hd : i / zs.length = k := by
        exact Nat.div_eq_of_lt_le (show k * zs.length ≤ i by omega) (show i < (k + 1) * zs.length by rw [e1]; exact h2)
      have hm : i % zs.length = i - k * zs.length := by
        have := Nat.div_add_mod i zs.length
        rw [hd, Nat.mul_comm] at this
        omega
      rw [if_pos ⟨by omega, h2⟩, if_pos (by omega), hd, hm]
    · rw [if_neg (by omega), if_neg h1, if_neg (by omega)]
theorem tabL_all {zs : List Int} {v u : Nat} (hv : v < zs.length) (hu : u < zs.length) : el (tabL zs zs.length) (v * zs.length + u) = el (dsL zs v) u := by
  have h2 : v * zs.length + u < zs.length * zs.length := by
    have : (v + 1) * zs.length ≤ zs.length * zs.length := Nat.mul_le_mul_right _ hv
    rw [Nat.succ_mul] at this; omega
  rw [tabL_at h2, if_pos h2]
  have h0 : 0 < zs.length := by omega
  rw [Nat.mul_comm v, Nat.mul_add_div h0, Nat.div_eq_of_lt hu, Nat.mul_add_mod, Nat.mod_eq_of_lt hu, Nat.add_zero]
/-- The slice of row j, if it is one of the first k. -/
def rowV (gT n k j : Nat) : Value := if j < k then .slice (some ⟨gT, j * n, none⟩) n n else .slice none 0 0
/-- The rows of distances in memory. -/
def DR (w : World) (gR gT : Nat) (zs : List Int) : Prop := w.heap[gR]? = some (.cells (slA zs.length (rowV gT zs.length zs.length)) 22 (0, 0)) ∧ Blk w gT (tabL zs zs.length)
theorem DR.row {w : World} {gR gT : Nat} {zs : List Int} (h : DR w gR gT zs) {v : Nat} (hv : v < zs.length) : w.cell? ⟨gR, v, none⟩ = some (.slice (some ⟨gT, v * zs.length, none⟩) zs.length zs.length) := by
  rw [cell_of_row w gR v _ _ _ h.1, slA_at _ _ v hv]; simp [rowV, hv]
theorem DR.dist {w : World} {gR gT : Nat} {zs : List Int} (h : DR w gR gT zs) {v u : Nat} (hv : v < zs.length) (hu : u < zs.length) : w.cell? ⟨gT, v * zs.length + u, none⟩ = some (.int .i64 (el (dsL zs v) u)) := by
  rw [h.2.cell (by
    rw [tabL_length]
    have : (v + 1) * zs.length ≤ zs.length * zs.length := Nat.mul_le_mul_right _ hv
    rw [Nat.succ_mul] at this; omega), tabL_all hv hu]
theorem DR.below {w w' : World} {gR gT : Nat} {zs : List Int} (h : DR w gR gT zs) (hb : Below w.heap.size w w') : DR w' gR gT zs :=
  ⟨(hb.block gR (Array.getElem?_eq_some_iff.1 h.1).1).trans h.1, h.2.belowAll hb⟩

set_option maxHeartbeats 4000000 in
theorem distRows_some (b ob cap : Nat) (zs : List Int) (w : World) (hb : b < w.heap.size) (hc : Cells w b ob zs) (hg : isG zs.length zs = true) (hT : Tab w) :
    Calls Tryd.prog 53 #[.agg #[.int .i64 zs.length, .slice (some ⟨b, ob, none⟩) zs.length cap]] w fun e w' => e = .returned (.slice (some ⟨w.heap.size + 2, 0, none⟩) zs.length zs.length) ∧ DR w' (w.heap.size + 2) (w.heap.size + 1) zs ∧ Below w.heap.size w w' := by
  obtain ⟨g1, g2, -, -, -⟩ := isG_parts hg
  have hm62 : zs.length ≤ 62 := by omega
  have HTL := hT.lt
  have HG := Lib.hid hg
  obtain ⟨N, hN⟩ : ∃ N, N = zs.length * zs.length := ⟨_, rfl⟩
  have hN1 : N ≤ 62 * 62 := by rw [hN]; exact Nat.mul_le_mul hm62 hm62
  have hNN : IntKind.i64.wrap ((zs.length : Int) * (zs.length : Int)) = (N : Int) := by rw [hN, ← Int.natCast_mul]; exact IntWalk.i64_in _ (by omega)
  have HN := Lib.hid hN
  have hmk1 := run_mkInts N (by omega)
  have hmk2 := run_mkRows zs.length (by omega)
  obtain ⟨Wz, hWz⟩ : ∃ Wz, Wz = ((w.alloc (.cells #[.int .i64 zs.length, .slice (some ⟨b, ob, none⟩) zs.length cap] 26)).alloc (.cells (intsA (List.replicate N 0)) 2)).alloc (.cells (slA zs.length fun _ => .slice none 0 0) 22) := ⟨_, rfl⟩
  have hsz : Wz.heap.size = w.heap.size + 3 := by rw [hWz]; simp
  have D0 : Below w.heap.size w Wz := by rw [hWz]; exact (((Below.refl _ _).alloc (Nat.le_refl _) _).alloc (by simp) _).alloc (by simp; omega) _
  have HG0 : Hid (Wz.heap[w.heap.size]? = some (.cells #[.int .i64 zs.length, .slice (some ⟨b, ob, none⟩) zs.length cap] 26 (0, 0))) := by show _ = _; rw [hWz]; exact heap_old_at (heap_old_at (World.alloc_heap_new w _) _) _
  have HB0 : Hid (Blk Wz (w.heap.size + 1) (tabL zs 0)) := by show Blk _ _ _; rw [tabL_zero, ← hN, hWz]; exact heap_old_at (heap_new_at _ _ _ (by simp)) _
  have HR0 : Hid (Wz.heap[w.heap.size + 2]? = some (.cells (slA zs.length (rowV (w.heap.size + 1) zs.length 0)) 22 (0, 0))) := by
    show _ = _; rw [show (rowV (w.heap.size + 1) zs.length 0) = fun _ => Value.slice none 0 0 by funext j; simp [rowV], hWz]; exact heap_new_at _ _ _ (by simp)
  have HCz := Lib.hid (hc.below D0 hb)
  have HTz := Lib.hid (hT.belowAll D0)
  have HD0 := Lib.hid D0
  clear hc hg hT hN D0
  go_enter Tryd.func53, Tryd.ntmps53
  go_wp2_with fail
  rw [← hWz]
  clear hWz hmk1 hmk2
  go_loopw [5, 6, 7, 19] (fun _ _ _ i wr => ∃ k : Nat, k ≤ zs.length ∧ i = .int .i64 k ∧ Hid (Blk wr (w.heap.size + 1) (tabL zs k)) ∧ Hid (wr.heap[w.heap.size + 2]? = some (.cells (slA zs.length (rowV (w.heap.size + 1) zs.length k)) 22 (0, 0))) ∧ Below (w.heap.size + 1) Wz wr) (fun _ _ _ i _ => zs.length - (intOf i).toNat)
  case atStart => exact ⟨0, Nat.zero_le _, rfl, HB0, HR0, Below.refl _ _⟩
  case round =>
    obtain ⟨k, hk, rfl, HB, HR, hE⟩ := hrel
    obtain ⟨a0, a1, -, -⟩ := two_cells ((hE.block w.heap.size (by omega)).trans HG0.out)
    by_cases hlt : (k : Int) < zs.length
    · have hkl : k < zs.length := by omega
      have hk0 : (0 : Int) ≤ k := by omega
      obtain ⟨s, hs⟩ : ∃ s, s = k * zs.length := ⟨_, rfl⟩
      have hs1 : s + zs.length ≤ N := by
        have h := HN.out
        have : (k + 1) * zs.length ≤ zs.length * zs.length := Nat.mul_le_mul_right _ hkl
        rw [Nat.succ_mul] at this; omega
      have m1 : (k : Int) * (zs.length : Int) = (s : Int) := by rw [hs]; push_cast; rfl
      have m2 : ((k : Int) + 1) * (zs.length : Int) = ((s + zs.length : Nat) : Int) := by rw [hs]; push_cast; rw [Int.add_mul]; simp
      have w1 : IntKind.i64.wrap ((k : Int) * (zs.length : Int)) = (s : Int) := by rw [m1]; exact IntWalk.i64_in _ (by omega)
      have w2 : IntKind.i64.wrap (((k : Int) + 1) * (zs.length : Int)) = ((s + zs.length : Nat) : Int) := by rw [m2]; exact IntWalk.i64_in _ (by omega)
      have HS := Lib.hid hs
      have HM1 := Lib.hid m1; have HM2 := Lib.hid m2
      clear hs m1 m2
      have hz0 : (0 : Int) ≤ s := by omega
      have hz1 : (s : Int) ≤ (s : Int) + zs.length := by omega
      have hz2 : (s : Int) + zs.length ≤ (N : Int) := by omega
      go_upto_region 6 with fail
      go_quiet (fail)
      generalize hwd' : wr.drewN _ = wd
      have hbd : Below wr.heap.size wr wd := by rw [← hwd']; exact drewN_below (Below.refl _ _) _
      have hE2 := hE.trans (hbd.mono (by have := hE.size; omega))
      have HB2 := Lib.hid (HB.out.belowAll hbd)
      have HR2 : wd.heap[w.heap.size + 1 + 1]? = some (.cells (slA zs.length (rowV (w.heap.size + 1) zs.length k)) 22 (0, 0)) := (hbd.block _ (Array.getElem?_eq_some_iff.1 HR.out).1).trans HR.out
      have cR : wd.cell? ⟨w.heap.size + 1 + 1, k, none⟩ = some (rowV (w.heap.size + 1) zs.length k k) := by rw [cell_of_row wd _ k _ _ _ HR2, slA_at _ _ k hkl]
      have fR : wd.frozen? ⟨w.heap.size + 1 + 1, k, none⟩ = false := frozen_of_row wd _ k _ _ HR2
      have HR3 := Lib.hid HR2
      clear hwd' hbd HB HR hE a0 a1 HR2
      go_wp2_with fail
      obtain ⟨wy, hwy⟩ : ∃ wy, wy = wd.setCell ⟨w.heap.size + 1 + 1, k, none⟩ (.slice (some ⟨w.heap.size + 1, s, none⟩) zs.length zs.length) := ⟨_, rfl⟩
      rw [← hwy]
      have HRy : Hid (wy.heap[w.heap.size + 1 + 1]? = some (.cells (slA zs.length (rowV (w.heap.size + 1) zs.length (k + 1))) 22 (0, 0))) := by
        show _ = _
        rw [hwy, heap_setCell_same wd _ k _ _ _ HR3.out, slA_set]
        congr 3
        funext j
        by_cases e : j = k
        · rw [if_pos e, e, HS.out]; simp [rowV]
        · rw [if_neg e]; unfold rowV
          by_cases h : j < k
          · rw [if_pos h, if_pos (by omega)]
          · rw [if_neg h, if_neg (by omega)]
      have HBy : Hid (Blk wy (w.heap.size + 1) (tabL zs k)) := by show Blk _ _ _; rw [hwy]; exact HB2.out.other (by simp) _
      have hEy : Below (w.heap.size + 1) Wz wy := by rw [hwy]; exact hE2.setCell (p := ⟨w.heap.size + 1 + 1, k, none⟩) (by simp) _
      have cy : wy.cell? ⟨w.heap.size + 1 + 1, k, none⟩ = some (.slice (some ⟨w.heap.size + 1, s, none⟩) zs.length zs.length) := by rw [cell_of_row wy _ k _ _ _ HRy.out, slA_at _ _ k hkl, HS.out]; simp [rowV]
      obtain ⟨a0, a1, -, -⟩ := two_cells ((hEy.block w.heap.size (by omega)).trans HG0.out)
      have hWs : Wz.heap.size ≤ wy.heap.size := hEy.size
      have HWR : Hid (∀ W1, Below wy.heap.size wy W1 → Calls Tryd.prog 40 #[.slice (some ⟨w.heap.size + 1, s, none⟩) zs.length zs.length, .agg #[.int .i64 zs.length, .slice (some ⟨b, ob, none⟩) zs.length cap], .int .i64 k] W1 fun e w' => (∃ v, e = .returned v) ∧ Blk w' (w.heap.size + 1) (tabL zs (k + 1)) ∧ W1.grownBy w' (some (w.heap.size + 1))) := fun W1 h => by
        have hE1 := hEy.trans (h.mono (by omega))
        have := writeD_any (w.heap.size + 1) s zs.length (tabL zs k) b ob cap zs k W1 (Nat.lt_of_lt_of_le (show b < wy.heap.size by omega) h.size) (HCz.out.below hE1 (by omega)) HG.out hkl (HTz.out.below hE1 (by omega)) (HBy.out.belowAll h) (by rw [tabL_length, ← HN.out]; exact hs1) (by omega) (by omega)
        rw [HS.out, tabL_succ hkl] at this
        rw [HS.out]
        exact this
      clear hwy HR3 HB2 hE2 cR fR w1 w2 hz0 hz1 hz2
      go_region_with (go_at_call 40; refine (HWR.out _ (Below.refl _ _).drew).mono ?_; rintro e w5 ⟨⟨v5, rfl⟩, hB5, hg5⟩)
      all_goals
        have HR5 : Hid (w5.heap[w.heap.size + 1 + 1]? = some (.cells (slA zs.length (rowV (w.heap.size + 1) zs.length (k + 1))) 22 (0, 0))) := (hg5.block _ (Array.getElem?_eq_some_iff.1 HRy.out).1 (fun e => by have := Option.some.inj e; omega)).trans HRy.out
        have HB6 := Lib.hid hB5
        have hE5 : Below (w.heap.size + 1) Wz w5 := hEy.drew.grown hg5 (show w.heap.size + 1 ≤ wy.heap.size by omega) (fun j e => by have := Option.some.inj e; omega)
        clear hB5 hg5 HRy HBy hEy cy a0 a1
        go_wp2_with fail
        go_roundw
        case rel => exact ⟨k + 1, by omega, by go_num, HB6, HR5, hE5⟩
        case measure => simp [intOf]; omega
    · obtain rfl : k = zs.length := by omega
      go_wp2_with fail
      go_ret
      exact ⟨rfl, ⟨HR.out, HB.out⟩, HD0.out.trans (hE.mono (by omega))⟩
end Go.Proofs.YtaokhhinfpdchaaDoor
