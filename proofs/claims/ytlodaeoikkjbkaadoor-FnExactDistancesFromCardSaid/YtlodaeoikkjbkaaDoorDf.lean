/-
  impl.DistancesFrom, by impl.writeDistances.
-/
import Derived.Test.YtlodaeoikkjbkaaDoorWr
namespace Go.Proofs.YtlodaeoikkjbkaaDoor
set_option maxRecDepth 100000
set_option maxRecDepth 100000
open Go.RowKit

theorem segL_whole {T0 L : List Int} (h : L.length = T0.length) : segL T0 0 L = L := by
  refine ext_el (by rw [segL_length, h]) fun i hi => ?_
  rw [segL_length] at hi
  rw [segL_at hi, if_pos ⟨by omega, by omega⟩]
  rfl

set_option maxHeartbeats 800000 in
theorem implDf_yes (n : Int) (b off cap : Nat) (zs : List Int) (x : Nat) (w : World) (hb : b < w.heap.size) (hc : Cells w b off zs) (hg : isG n zs = true) (hx : x < zs.length) (hT : Tab w) :
    Calls Tryd.prog 13 #[.agg #[.int .i64 n, .slice (some ⟨b, off, none⟩) zs.length cap], .int .i64 x] w fun e w' => LRes w.heap.size (dsL zs x) 0 e w' ∧ Below w.heap.size w w' := by
  obtain rfl : (zs.length : Int) = n := (isG_parts hg).2.2.1
  obtain ⟨g1, g2, -, -, -⟩ := isG_parts hg
  have D0 : Below w.heap.size w ((w.alloc (.cells #[.int .i64 zs.length, .slice (some ⟨b, off, none⟩) zs.length cap] 28)).alloc (.cells #[.int .i64 x] 2)) := ((Below.refl _ _).alloc (Nat.le_refl _) _).alloc (by simp) _
  have hx1 := cell_one_new (w.alloc (.cells #[.int .i64 zs.length, .slice (some ⟨b, off, none⟩) zs.length cap] 28)) (.int .i64 x) 2
  rw [World.size_alloc] at hx1
  have hv := chk_some zs.length b off cap zs (w.heap.size + 1) 0 1 [(x : Int)] _ (Nat.lt_of_lt_of_le hb D0.size) (hc.below D0 hb) (by simp) (cells_one (hx1 0 _ rfl)) hg (by omega) (by simp) (hT.belowAll D0)
  rw [vc_yes (by rw [show [(x : Int)].length = 1 from rfl, vs_one]; simp; omega)] at hv
  have HG0 := Lib.hid (GBox.new (n := zs.length) (cap := cap) hb hc)
  have HG := Lib.hid hg
  have HT := Lib.hid (hT.belowAll D0)
  have hmk := run_mkInts zs.length (by omega)
  have hTl := hT.lt
  clear hc hg hx1 hT
  go_enter Tryd.func13, Tryd.ntmps13
  go_wp2_with fail
  refine hv.mono ?_
  rintro e w1 ⟨rfl, hb1⟩
  have G1 := HG0.out.below (((Below.refl (w.heap.size + 1) (w.alloc (.cells #[.int .i64 zs.length, .slice (some ⟨b, off, none⟩) zs.length cap] 28))).alloc (by simp) (.cells #[.int .i64 x] 2)).trans (hb1.mono (by simp)))
  have b0 := G1.b0
  have b1 := G1.b1
  have T1 := HT.out.belowAll hb1
  have D1 : Below w.heap.size w w1 := D0.trans (hb1.mono (by simp; omega))
  have s1 : w.heap.size + 2 ≤ w1.heap.size := by have := hb1.size; simpa using this
  have hbl := G1.lb
  have E1 : Below w1.heap.size w1 (w1.alloc (.cells (intsA (List.replicate zs.length 0)) 2)) := (Below.refl _ _).alloc (Nat.le_refl _) _
  have hwr := writeD_any w1.heap.size 0 zs.length (List.replicate zs.length 0) b off cap zs x (w1.alloc (.cells (intsA (List.replicate zs.length 0)) 2)) (Nat.lt_of_lt_of_le hbl E1.size) (G1.cells.below E1 hbl) HG.out hx (T1.belowAll E1) (Blk.new w1 _) (by simp) (by omega) (by omega)
  rw [segL_whole (by rw [dsL_length, List.length_replicate])] at hwr
  have G2 := G1.below (Below.mono E1 (by omega))
  have HW := Lib.hid hwr
  have HB2 := Lib.hid G2
  clear hb1 hv G1 T1 hwr G2
  have c0 := HB2.out.b0
  have c1 := HB2.out.b1
  go_wp2_with fail
  refine HW.out.mono ?_
  rintro e w3 ⟨⟨u, rfl⟩, hB3, hg3⟩
  have hO := Own.of_blk hB3 (B := w.heap.size) (by omega) (by rw [dsL_length]; unfold maxLen; omega)
  rw [dsL_length] at hO
  have HO := Lib.hid hO
  have D3 : Below w.heap.size w w3 := (D1.trans (E1.mono (by omega))).grown hg3 (by have := E1.size; have := D1.size; omega) (fun k e => by cases e; omega)
  clear hO hB3 hg3
  go_wp2
  go_ret2
  exact ⟨⟨_, rfl, HO.out⟩, D3⟩

set_option maxHeartbeats 800000 in
theorem implDf_out (n : Int) (b off cap : Nat) (zs : List Int) (x : Int) (w : World) (hb : b < w.heap.size) (hc : Cells w b off zs) (hg : isG n zs = true) (hx : (decide (0 ≤ x) && decide (x ≤ n - 1)) = false) (hl : zs.length ≤ 9223372036854775807) (hT : Tab w) :
    Calls Tryd.prog 13 #[.agg #[.int .i64 n, .slice (some ⟨b, off, none⟩) zs.length cap], .int .i64 x] w fun e w' => LRes w.heap.size [] 2 e w' ∧ Below w.heap.size w w' := by
  have D0 : Below w.heap.size w ((w.alloc (.cells #[.int .i64 n, .slice (some ⟨b, off, none⟩) zs.length cap] 28)).alloc (.cells #[.int .i64 x] 2)) := ((Below.refl _ _).alloc (Nat.le_refl _) _).alloc (by simp) _
  have hx1 := cell_one_new (w.alloc (.cells #[.int .i64 n, .slice (some ⟨b, off, none⟩) zs.length cap] 28)) (.int .i64 x) 2
  rw [World.size_alloc] at hx1
  have hv := chk_some n b off cap zs (w.heap.size + 1) 0 1 [x] _ (Nat.lt_of_lt_of_le hb D0.size) (hc.below D0 hb) (by simp) (cells_one (hx1 0 _ rfl)) hg hl (by simp) (hT.belowAll D0)
  rw [vc_no (by rw [show [x].length = 1 from rfl, vs_one]; exact hx)] at hv
  clear hc hg hx1 hx hT
  go_enter Tryd.func13, Tryd.ntmps13
  go_wp2_with fail
  refine hv.mono ?_
  rintro e w1 ⟨rfl, hb1⟩
  have D1 := D0.trans (hb1.mono (by simp; omega))
  clear hb1 hv
  go_wp2
  go_ret2
  exact ⟨⟨_, rfl, Own.nil _ _⟩, D1⟩

set_option maxHeartbeats 800000 in
theorem implDf_no (n : Int) (v : Value) (zs : List Int) (x : Int) (w : World) (h : Sl w v zs) (hg : isG n zs = false) (hl : zs.length ≤ 9223372036854775807) (hT : Tab w) :
    Calls Tryd.prog 13 #[.agg #[.int .i64 n, v], .int .i64 x] w fun e w' => LRes w.heap.size [] 1 e w' ∧ Below w.heap.size w w' := by
  have D0 : Below w.heap.size w ((w.alloc (.cells #[.int .i64 n, v] 28)).alloc (.cells #[.int .i64 x] 2)) := ((Below.refl _ _).alloc (Nat.le_refl _) _).alloc (by simp) _
  have hv := fun u => chk_no n v u zs _ (h.below D0) hg hl (hT.belowAll D0)
  clear h hg hT
  go_enter Tryd.func13, Tryd.ntmps13
  go_wp2_with fail
  refine (hv _).mono ?_
  rintro e w1 ⟨rfl, hb1⟩
  have D1 := D0.trans (hb1.mono (by simp; omega))
  clear hb1 hv
  go_wp2
  go_ret2
  exact ⟨⟨_, rfl, Own.nil _ _⟩, D1⟩

theorem implDf_any (n : Int) (v : Value) (zs : List Int) (x : Int) (w : World) (h : Sl w v zs) (hl : zs.length ≤ 9223372036854775807) (hT : Tab w) :
    Calls Tryd.prog 13 #[.agg #[.int .i64 n, v], .int .i64 x] w fun e w' => LRes w.heap.size (g1L dsL n zs x) (NC n zs x) e w' ∧ Below w.heap.size w w' := by
  cases hg : isG n zs
  · rw [show g1L dsL n zs x = [] by simp [g1L, hg], show NC n zs x = 1 by simp [NC, hg]]
    exact implDf_no n v zs x w h hg hl hT
  · obtain ⟨h1, _, h3, _⟩ := isG_parts hg
    obtain ⟨b, off, cap, rfl, hb, hc⟩ := sl_some h (by omega)
    cases hx : (decide (0 ≤ x) && decide (x ≤ n - 1))
    · rw [show g1L dsL n zs x = [] by simp [g1L, hg, hx], show NC n zs x = 2 by simp [NC, hg, hx]]
      exact implDf_out n b off cap zs x w hb hc hg hx hl hT
    · rw [show g1L dsL n zs x = dsL zs x.toNat by simp [g1L, hg, hx], show NC n zs x = 0 by simp [NC, hg, hx]]
      simp only [Bool.and_eq_true, decide_eq_true_eq] at hx
      obtain ⟨k, rfl⟩ := Int.eq_ofNat_of_zero_le hx.1
      exact implDf_yes n b off cap zs k w hb hc hg (by omega) hT
end Go.Proofs.YtlodaeoikkjbkaaDoor
