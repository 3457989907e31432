/-
  impl.distanceRows: a list of rows that are parts of one table.
-/
import Derived.Test.YtlodaeoikkjbkaaDoorWr
import Derived.Deep.DeepCutAuto
import Derived.Deep.RegionWith
namespace Go.Proofs.YtlodaeoikkjbkaaDoor
set_option maxRecDepth 100000
set_option maxRecDepth 100000
open Go.RowKit

theorem mkS_info : (Tryd.prog.info? 22).map (fun i => (i.zero, i.size, i.bytes)) = some (some (.slice none 0 0), 1, 24) := by kernel_rfl
/-- The cells of n slices. -/
def slA (n : Nat) (f : Nat → Value) : Array Value := ((List.range n).map f).toArray
theorem slA_size (n : Nat) (f : Nat → Value) : (slA n f).size = n := by simp [slA]
theorem slA_at (n : Nat) (f : Nat → Value) (i : Nat) (h : i < n) : (slA n f)[i]? = some (f i) := by simp [slA, h]
theorem slA_set (n : Nat) (f : Nat → Value) (i : Nat) (v : Value) : (slA n f).setIfInBounds i v = slA n fun j => if j = i then v else f j := by
  apply Array.ext_getElem?
  intro j
  by_cases hj : j < n
  · rw [slA_at _ _ j hj, Array.getElem?_setIfInBounds]
    by_cases e : i = j
    · subst e; simp [slA_size, hj]
    · have : ¬ j = i := fun h => e h.symm
      simp [e, this, slA_at _ _ j hj]
  · rw [Array.getElem?_eq_none (by rw [Array.size_setIfInBounds, slA_size]; omega), Array.getElem?_eq_none (by rw [slA_size]; omega)]
theorem run_mkRows (n : Nat) (h : n ≤ 1048576) (w : World) : (Instr.makeSlice 67 (.int .i64 n) (.int .i64 n)).run Tryd.prog w = .ok (.slice (some ⟨w.heap.size, 0, none⟩) n n) (w.alloc (.cells (slA n fun _ => .slice none 0 0) 22)) := by
  obtain ⟨i0, hi, hz0, hz1, hz2⟩ := info_parts mkS_info
  rw [run_make w 67 22 i0 (.slice none 0 0) Tryd.underlying67 hi hz0 .i64 .i64 n n (by omega) (by omega) (by rw [hz2]; omega) (by omega)]
  simp only [Int.toNat_natCast, hz1, Nat.mul_one]
  congr 2
  unfold slA madeCells
  congr 1
  apply Array.ext_getElem?
  intro j
  by_cases hj : j < n
  · simp [hj, Value.cells, Nat.mod_one]
  · rw [Array.getElem?_eq_none (by simp; omega), Array.getElem?_eq_none (by simp; omega)]

/-- The first k rows of distances, in one table. -/
def tabL (zs : List Int) (k : Nat) : List Int := (List.range (zs.length * zs.length)).map fun i => if i < k * zs.length then el (dsL zs (i / zs.length)) (i % zs.length) else 0
theorem tabL_length (zs : List Int) (k : Nat) : (tabL zs k).length = zs.length * zs.length := by simp [tabL]
theorem tabL_at {zs : List Int} {k i : Nat} (hi : i < zs.length * zs.length) : el (tabL zs k) i = if i < k * zs.length then el (dsL zs (i / zs.length)) (i % zs.length) else 0 := by
  rw [el_lt (by rw [tabL_length]; exact hi)]; simp [tabL]
theorem tabL_zero (zs : List Int) : tabL zs 0 = List.replicate (zs.length * zs.length) 0 := by
  refine ext_el (by rw [tabL_length, List.length_replicate]) fun i hi => ?_
  rw [tabL_length] at hi
  rw [tabL_at hi, if_neg (by omega), el_lt (by rw [List.length_replicate]; exact hi)]
  simp
theorem tabL_succ {zs : List Int} {k : Nat} (hk : k < zs.length) : segL (tabL zs k) (k * zs.length) (dsL zs k) = tabL zs (k + 1) := by
  have e1 : (k + 1) * zs.length = k * zs.length + zs.length := Nat.succ_mul _ _
  refine ext_el (by rw [segL_length, tabL_length, tabL_length]) fun i hi => ?_
  rw [segL_length, tabL_length] at hi
  rw [segL_at (by rw [tabL_length]; exact hi), tabL_at hi, tabL_at hi, dsL_length]
  by_cases h1 : i < k * zs.length
  · rw [if_neg (by omega), if_pos h1, if_pos (by omega)]
  · by_cases h2 : i < k * zs.length + zs.length
    · have hd : i / zs.length = k := by
        exact Nat.div_eq_of_lt_le (show k * zs.length ≤ i by omega) (show i < (k + 1) * zs.length by rw [e1]; exact h2)
      have hm : i % zs.length = i - k * zs.length := by
        have := Nat.div_add_mod i zs.length
        rw [hd, Nat.mul_comm] at this
        omega
      rw [if_pos ⟨by omega, h2⟩, if_pos (by omega), hd, hm]
    · rw [if_neg (by omega), if_neg h1, if_neg (by omega)]
theorem tabL_all {zs : List Int} {v u : Nat} (hv : v < zs.length) (hu : u < zs.length) : el (tabL zs zs.length) (v * zs.length + u) = el (dsL zs v) u := by
  have h2 : v * zs.length + u < zs.length * zs.length := by
    have : (v + 1) * zs.length ≤ zs.length * zs.length := Nat.mul_le_mul_right _ hv
    rw [Nat.succ_mul] at this; omega
  rw [tabL_at h2, if_pos h2]
  have h0 : 0 < zs.length := by omega
  rw [Nat.mul_comm v, Nat.mul_add_div h0, Nat.div_eq_of_lt hu, Nat.mul_add_mod, Nat.mod_eq_of_lt hu, Nat.add_zero]
/-- The slice of row j, if it is one of the first k. -/
def rowV (gT n k j : Nat) : Value := if j < k then .slice (some ⟨gT, j * n, none⟩) n n else .slice none 0 0
/-- The rows of distances in memory. -/
def DR (w : World) (gR gT : Nat) (zs : List Int) : Prop := w.heap[gR]? = some (.cells (slA zs.length (rowV gT zs.length zs.length)) 22 (0, 0)) ∧ Blk w gT (tabL zs zs.length)
theorem DR.row {w : World} {gR gT : Nat} {zs : List Int} (h : DR w gR gT zs) {v : Nat} (hv : v < zs.length) : w.cell? ⟨gR, v, none⟩ = some (.slice (some ⟨gT, v * zs.length, none⟩) zs.length zs.length) := by
  rw [cell_of_row w gR v _ _ _ h.1, slA_at _ _ v hv]; simp [rowV, hv]
theorem DR.dist {w : World} {gR gT : Nat} {zs : List Int} (h : DR w gR gT zs) {v u : Nat} (hv : v < zs.length) (hu : u < zs.length) : w.cell? ⟨gT, v * zs.length + u, none⟩ = some (.int .i64 (el (dsL zs v) u)) := by
  rw [h.2.cell (by
    rw [tabL_length]
    have : (v + 1) * zs.length ≤ zs.length * zs.length := Nat.mul_le_mul_right _ hv
    rw [Nat.succ_mul] at this; omega), tabL_all hv hu]
theorem DR.below {w w' : World} {gR gT : Nat} {zs : List Int} (h : DR w gR gT zs) (hb : Below w.heap.size w w') : DR w' gR gT zs :=
  ⟨(hb.block gR (Array.getElem?_eq_some_iff.1 h.1).1).trans h.1, h.2.belowAll hb⟩

theorem rowV_set (gT n k : Nat) : (fun j => if j = k then Value.slice (some ⟨gT, k * n, none⟩) n n else rowV gT n k j) = rowV gT n (k + 1) := by
  funext j
  unfold rowV
  by_cases e : j = k
  · rw [if_pos e, e, if_pos (by omega)]
  · rw [if_neg e]
    by_cases h : j < k
    · rw [if_pos h, if_pos (by omega)]
    · rw [if_neg h, if_neg (by omega)]

set_option maxHeartbeats 3200000 in
theorem rowsOf_some (n N gT : Nat) (w : World) (hn : 1 ≤ n) (h62 : n ≤ 62) (hN : N = n * n) :
    Calls Tryd.prog 80 #[.slice (some ⟨gT, 0, none⟩) N N, .int .i64 n] w fun e w' => e = .returned (.slice (some ⟨w.heap.size, 0, none⟩) n n) ∧ w'.heap[w.heap.size]? = some (.cells (slA n (rowV gT n n)) 22 (0, 0)) ∧ Below w.heap.size w w' := by
  have hN1 : N ≤ 62 * 62 := by rw [hN]; exact Nat.mul_le_mul h62 h62
  have hq : Int.tdiv (N : Int) (n : Int) = n := by rw [hN, Int.natCast_mul]; exact Int.mul_tdiv_cancel _ (by omega)
  have hn0 : ((n : Int) == 0) = false := by rw [beq_eq_false_iff_ne]; omega
  have HN := Lib.hid hN
  have hmk2 := run_mkRows n (by omega)
  obtain ⟨Wz, hWz⟩ : ∃ Wz, Wz = w.alloc (.cells (slA n fun _ => .slice none 0 0) 22) := ⟨_, rfl⟩
  have D0 : Hid (Below w.heap.size w Wz) := by show Below _ _ _; rw [hWz]; exact (Below.refl _ _).alloc (Nat.le_refl _) _
  have HR0 : Hid (Wz.heap[w.heap.size]? = some (.cells (slA n (rowV gT n 0)) 22 (0, 0))) := by
    show _ = _; rw [show (rowV gT n 0) = fun _ => Value.slice none 0 0 by funext j; simp [rowV], hWz]; exact World.alloc_heap_new w _
  clear hN
  go_enter Tryd.func80, Tryd.ntmps80
  go_wp2_with fail
  rw [← hWz]
  clear hWz hmk2 hq
  go_loopw [6, 7, 8, 16] (fun _ _ _ i wr => ∃ k : Nat, k ≤ n ∧ i = .int .i64 k ∧ Hid (wr.heap[w.heap.size]? = some (.cells (slA n (rowV gT n k)) 22 (0, 0))) ∧ Hid (Below w.heap.size w wr)) (fun _ _ _ i _ => n - (intOf i).toNat)
  case atStart => exact ⟨0, Nat.zero_le _, rfl, HR0, D0⟩
  case round =>
    obtain ⟨k, hk, rfl, HR, hE⟩ := hrel
    by_cases hlt : (k : Int) < n
    · have hkl : k < n := by omega
      have hk0 : (0 : Int) ≤ k := by omega
      obtain ⟨s, hs⟩ : ∃ s, s = k * n := ⟨_, rfl⟩
      have hs1 : s + n ≤ N := by
        have h := HN.out
        have : (k + 1) * n ≤ n * n := Nat.mul_le_mul_right _ hkl
        rw [Nat.succ_mul] at this; omega
      have m1 : (k : Int) * (n : Int) = (s : Int) := by rw [hs]; push_cast; rfl
      have m2 : ((k : Int) + 1) * (n : Int) = ((s + n : Nat) : Int) := by rw [hs]; push_cast; rw [Int.add_mul]; simp
      have w1 : IntKind.i64.wrap ((k : Int) * (n : Int)) = (s : Int) := by rw [m1]; exact IntWalk.i64_in _ (by omega)
      have w2 : IntKind.i64.wrap (((k : Int) + 1) * (n : Int)) = ((s + n : Nat) : Int) := by rw [m2]; exact IntWalk.i64_in _ (by omega)
      have HS := Lib.hid hs
      clear hs m1 m2
      have hz0 : (0 : Int) ≤ s := by omega
      have hz1 : (s : Int) ≤ (s : Int) + n := by omega
      have hz2 : (s : Int) + n ≤ (N : Int) := by omega
      have cR : wr.cell? ⟨w.heap.size, k, none⟩ = some (rowV gT n k k) := by rw [cell_of_row wr _ k _ _ _ HR.out, slA_at _ _ k hkl]
      have fR : wr.frozen? ⟨w.heap.size, k, none⟩ = false := frozen_of_row wr _ k _ _ HR.out
      have HRS : Hid ((wr.setCell ⟨w.heap.size, k, none⟩ (.slice (some ⟨gT, s, none⟩) n n)).heap[w.heap.size]? = some (.cells (slA n (rowV gT n (k + 1))) 22 (0, 0))) := by
        show _ = _
        rw [heap_setCell_same wr _ k _ _ _ HR.out, slA_set, HS.out, rowV_set]
      have hES := Lib.hid (hE.out.setCell (p := ⟨w.heap.size, k, none⟩) (Nat.le_refl _) (.slice (some ⟨gT, s, none⟩) n n))
      go_wp2_with fail
      go_roundw
      case rel => exact ⟨k + 1, by omega, by go_num, HRS, hES⟩
      case measure => simp [intOf]; omega
    · obtain rfl : k = n := by omega
      go_wp2_with fail
      go_ret
      exact ⟨rfl, HR.out, hE.out⟩

theorem dr_first {w Wb Wt w5 : World} {zs : List Int} {N b ob cap : Nat} (hsb : Wb.heap.size = w.heap.size + 1) (hz : tabL zs 0 = List.replicate N 0) (hbb : Below w.heap.size w Wb) (hgb : Wb.heap[w.heap.size]? = some (.cells #[.int .i64 zs.length, .slice (some ⟨b, ob, none⟩) zs.length cap] 28 (0, 0)))
    (hBt : Below Wb.heap.size Wb Wt) (hst : Wt.heap.size = Wb.heap.size + 1) (hT : Wt.heap[Wb.heap.size]? = some (.cells (intsA (List.replicate N 0)) 2 (0, 0)))
    (hr5 : w5.heap[Wt.heap.size]? = some (.cells (slA zs.length (rowV Wb.heap.size zs.length zs.length)) 22 (0, 0))) (hb5 : Below Wt.heap.size Wt w5) :
    Value.slice (some ⟨Wb.heap.size + 1, 0, none⟩) zs.length zs.length = Value.slice (some ⟨w.heap.size + 2, 0, none⟩) zs.length zs.length ∧ Hid (Blk w5 (w.heap.size + 1) (tabL zs 0)) ∧ Hid (w5.heap[w.heap.size + 2]? = some (.cells (slA zs.length (rowV (w.heap.size + 1) zs.length zs.length)) 22 (0, 0))) ∧ Hid (w5.heap[w.heap.size]? = some (.cells #[.int .i64 zs.length, .slice (some ⟨b, ob, none⟩) zs.length cap] 28 (0, 0))) ∧ Hid (Below w.heap.size w w5) := by
  have hB5 : Below Wb.heap.size Wb w5 := hBt.trans (hb5.mono (by omega))
  rw [hst, hsb] at hr5
  refine ⟨by rw [hsb], ?_, hr5, (hB5.block _ (by omega)).trans hgb, hbb.trans (hB5.mono hbb.size)⟩
  show Blk _ _ _
  rw [hz, ← hsb]
  exact (hb5.block _ (by omega)).trans hT

set_option maxHeartbeats 4000000 in
theorem distRows_some (b ob cap : Nat) (zs : List Int) (w : World) (hb : b < w.heap.size) (hc : Cells w b ob zs) (hg : isG zs.length zs = true) (hT : Tab w) :
    Calls Tryd.prog 70 #[.agg #[.int .i64 zs.length, .slice (some ⟨b, ob, none⟩) zs.length cap]] w fun e w' => e = .returned (.slice (some ⟨w.heap.size + 2, 0, none⟩) zs.length zs.length) ∧ DR w' (w.heap.size + 2) (w.heap.size + 1) zs ∧ Below w.heap.size w w' := by
  obtain ⟨g1, g2, -, -, -⟩ := isG_parts hg
  have hm62 : zs.length ≤ 62 := by omega
  have hm1 : 1 ≤ zs.length := by omega
  have HTL := hT.lt
  have HG := Lib.hid hg
  have HC := Lib.hid hc
  have HT := Lib.hid hT
  obtain ⟨N, hN⟩ : ∃ N, N = zs.length * zs.length := ⟨_, rfl⟩
  have hN1 : N ≤ 62 * 62 := by rw [hN]; exact Nat.mul_le_mul hm62 hm62
  have hNN : IntKind.i64.wrap ((zs.length : Int) * (zs.length : Int)) = (N : Int) := by rw [hN, ← Int.natCast_mul]; exact IntWalk.i64_in _ (by omega)
  have HN := Lib.hid hN
  have hmk1 := run_mkInts N (by omega)
  have HRO := Lib.hid (fun (gT : Nat) (W : World) => rowsOf_some zs.length N gT W hm1 hm62 hN)
  obtain ⟨Wb, hWb⟩ : ∃ Wb, Wb = w.alloc (.cells #[.int .i64 zs.length, .slice (some ⟨b, ob, none⟩) zs.length cap] 28) := ⟨_, rfl⟩
  have sb : Wb.heap.size = w.heap.size + 1 := by rw [hWb]; simp
  have HGB : Hid (Wb.heap[w.heap.size]? = some (.cells #[.int .i64 zs.length, .slice (some ⟨b, ob, none⟩) zs.length cap] 28 (0, 0))) := by show _ = _; rw [hWb]; exact World.alloc_heap_new w _
  have HDB : Hid (Below w.heap.size w Wb) := by show Below _ _ _; rw [hWb]; exact (Below.refl _ _).alloc (Nat.le_refl _) _
  obtain ⟨b0, b1, -, -⟩ := two_cells HGB.out
  have p1 : w.heap.size < Wb.heap.size := by omega
  have p2 : ¬ w.heap.size = Wb.heap.size := by omega
  have p3 : ¬ Wb.heap.size = w.heap.size := by omega
  have HSB := Lib.hid sb
  have HZR := Lib.hid (tabL_zero zs)
  clear hc hg hT hN sb
  go_enter Tryd.func70, Tryd.ntmps70
  go_upto_region 1 with fail
  rw [← hWb]
  clear hWb
  go_cut [3] from 6 (fun t Z => t = .slice (some ⟨w.heap.size + 2, 0, none⟩) zs.length zs.length ∧ Hid (Blk Z (w.heap.size + 1) (tabL zs 0)) ∧ Hid (Z.heap[w.heap.size + 2]? = some (.cells (slA zs.length (rowV (w.heap.size + 1) zs.length zs.length)) 22 (0, 0))) ∧ Hid (Z.heap[w.heap.size]? = some (.cells #[.int .i64 zs.length, .slice (some ⟨b, ob, none⟩) zs.length cap] 28 (0, 0))) ∧ Hid (Below w.heap.size w Z))
  case first =>
    go_region_with (go_at_call 80; refine (HRO.out _ _).mono ?_; rintro e w5 ⟨rfl, hr5, hb5⟩)
    all_goals
      go_wp2_with fail
      go_meet
      first
        | exact dr_first HSB.out (by rw [HZR.out, HN.out]) HDB.out HGB.out (((Below.refl _ _).alloc (Nat.le_refl _) _).drew) (by simp) (World.alloc_heap_new Wb _) hr5 hb5
        | exact dr_first HSB.out (by rw [HZR.out, HN.out]) HDB.out HGB.out (((Below.refl _ _).drew).alloc (by simp) _) (by simp) (World.alloc_heap_new Wb.drew _) hr5 hb5
  case rest =>
    obtain ⟨rfl, HB0, HR0, HG0, HD0⟩ := hcut
    clear HDB HGB b0 b1 p1 p2 p3 HSB
    go_wp2
    go_loopw [4, 5, 17] (fun _ _ i wr => ∃ k : Nat, k ≤ zs.length ∧ i = .int .i64 k ∧ Hid (Blk wr (w.heap.size + 1) (tabL zs k)) ∧ Hid (wr.heap[w.heap.size + 2]? = some (.cells (slA zs.length (rowV (w.heap.size + 1) zs.length zs.length)) 22 (0, 0))) ∧ Hid (wr.heap[w.heap.size]? = some (.cells #[.int .i64 zs.length, .slice (some ⟨b, ob, none⟩) zs.length cap] 28 (0, 0))) ∧ Hid (Below w.heap.size w wr)) (fun _ _ i _ => zs.length - (intOf i).toNat)
    case atStart => exact ⟨0, Nat.zero_le _, rfl, HB0, HR0, HG0, HD0⟩
    case round =>
      clear HB0 HR0 HG0 HD0
      obtain ⟨k, hk, rfl, HB, HR, HGx, HD⟩ := hrel
      obtain ⟨a0, a1, -, -⟩ := two_cells HGx.out
      by_cases hlt : (k : Int) < zs.length
      · have hkl : k < zs.length := by omega
        have hk0 : (0 : Int) ≤ k := by omega
        obtain ⟨s, hs⟩ : ∃ s, s = k * zs.length := ⟨_, rfl⟩
        have HS := Lib.hid hs
        have hs1 : s + zs.length ≤ N := by
          have h := HN.out
          have : (k + 1) * zs.length ≤ zs.length * zs.length := Nat.mul_le_mul_right _ hkl
          rw [Nat.succ_mul] at this; omega
        have cy : wr.cell? ⟨w.heap.size + 1 + 1, k, none⟩ = some (.slice (some ⟨w.heap.size + 1, s, none⟩) zs.length zs.length) := by rw [cell_of_row wr _ k _ _ _ HR.out, slA_at _ _ k hkl, HS.out]; simp [rowV, hkl]
        have hsr : w.heap.size + 2 < wr.heap.size := (Array.getElem?_eq_some_iff.1 HR.out).1
        have hwd : Calls Tryd.prog 37 #[.slice (some ⟨w.heap.size + 1, s, none⟩) zs.length zs.length, .agg #[.int .i64 zs.length, .slice (some ⟨b, ob, none⟩) zs.length cap], .int .i64 k] wr fun e w' => (∃ v, e = .returned v) ∧ Blk w' (w.heap.size + 1) (tabL zs (k + 1)) ∧ wr.grownBy w' (some (w.heap.size + 1)) := by
          have := writeD_any (w.heap.size + 1) s zs.length (tabL zs k) b ob cap zs k wr (by omega) (HC.out.below HD.out hb) HG.out hkl (HT.out.belowAll HD.out) HB.out (by rw [tabL_length, ← HN.out]; exact hs1) (by omega) (by omega)
          rw [HS.out, tabL_succ hkl] at this
          rw [HS.out]
          exact this
        clear hs
        go_wp2_with (go_at_call 37; refine hwd.mono ?_; rintro e w5 ⟨⟨v5, rfl⟩, hB5, hg5⟩)
        have HR5 : Hid (w5.heap[w.heap.size + 2]? = some (.cells (slA zs.length (rowV (w.heap.size + 1) zs.length zs.length)) 22 (0, 0))) := (hg5.block _ (by omega) (fun e => by have := Option.some.inj e; omega)).trans HR.out
        have HG5 : Hid (w5.heap[w.heap.size]? = some (.cells #[.int .i64 zs.length, .slice (some ⟨b, ob, none⟩) zs.length cap] 28 (0, 0))) := (hg5.block _ (by omega) (fun e => by have := Option.some.inj e; omega)).trans HGx.out
        have HD5 : Hid (Below w.heap.size w w5) := HD.out.grown hg5 (by omega) (fun j e => by have := Option.some.inj e; omega)
        have HB5 := Lib.hid hB5
        clear hB5 hg5
        go_roundw
        case rel => exact ⟨k + 1, by omega, by go_num, HB5, HR5, HG5, HD5⟩
        case measure => simp [intOf]; omega
      · obtain rfl : k = zs.length := by omega
        go_wp2_with fail
        go_ret
        exact ⟨rfl, ⟨HR.out, HB.out⟩, HD.out⟩
end Go.Proofs.YtlodaeoikkjbkaaDoor
