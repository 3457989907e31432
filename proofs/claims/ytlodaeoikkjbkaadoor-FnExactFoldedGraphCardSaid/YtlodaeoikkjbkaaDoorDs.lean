/-
  spec.DistancesFrom.
-/
import Derived.Test.YtlodaeoikkjbkaaDoorFr
namespace Go.Proofs.YtlodaeoikkjbkaaDoor
set_option maxRecDepth 100000
open Go.RowKit

/-- The list f of a vertex of a graph, none where there is no such vertex. -/
def g1L (f : List Int → Nat → List Int) (n : Int) (zs : List Int) (x : Int) : List Int := if isG n zs && (decide (0 ≤ x) && decide (x ≤ n - 1)) then f zs x.toNat else []
theorem from_n (n : Int) (b off cap : Nat) (zs : List Int) (v : Nat) (w : World) (hb : b < w.heap.size) (hc : Cells w b off zs) (hg : isG n zs = true) (hv : v < zs.length) :
    Calls Tryd.prog 35 #[.agg #[.int .i64 n, .slice (some ⟨b, off, none⟩) zs.length cap], .int .i64 v, .int .i64 (-1), .int .i64 (-1)] w fun e w' => ∃ u, e = .returned u ∧ Own w' w.heap.size u (dsL zs v) ∧ Below w.heap.size w w' := by
  obtain rfl : (zs.length : Int) = n := (isG_parts hg).2.2.1
  exact from_some b off cap zs v w hb hc hg hv

set_option maxHeartbeats 800000 in
theorem specDs_yes (n : Int) (b off cap : Nat) (zs : List Int) (x : Nat) (w : World) (hb : b < w.heap.size) (hc : Cells w b off zs) (hg : isG n zs = true) (hx : x < zs.length) (hl : zs.length ≤ 9223372036854775807) :
    Calls Tryd.prog 11 #[.agg #[.int .i64 n, .slice (some ⟨b, off, none⟩) zs.length cap], .int .i64 x] w fun e w' => LRes w.heap.size (dsL zs x) 0 e w' ∧ Below w.heap.size w w' := by
  have D0 : Below w.heap.size w ((w.alloc (.cells #[.int .i64 n, .slice (some ⟨b, off, none⟩) zs.length cap] 28)).alloc (.cells #[.int .i64 x] 2)) := ((Below.refl _ _).alloc (Nat.le_refl _) _).alloc (by simp) _
  have hx1 := cell_one_new (w.alloc (.cells #[.int .i64 n, .slice (some ⟨b, off, none⟩) zs.length cap] 28)) (.int .i64 x) 2
  rw [World.size_alloc] at hx1
  have hv := code2_some n b off cap zs (w.heap.size + 1) 0 1 [(x : Int)] _ (Nat.lt_of_lt_of_le hb D0.size) (hc.below D0 hb) (by simp) (cells_one (hx1 0 _ rfl)) hg hl (by simp)
  rw [vc_yes (by rw [show [(x : Int)].length = 1 from rfl, vs_one]; have := isG_parts hg; simp; omega)] at hv
  have HG0 := Lib.hid (GBox.new (n := n) (cap := cap) hb hc)
  have HG := Lib.hid hg
  clear hc hg hx1
  go_enter Tryd.func11, Tryd.ntmps11
  go_wp2_with fail
  refine hv.mono ?_
  rintro e w1 ⟨rfl, hb1⟩
  have G1 := HG0.out.below (((Below.refl (w.heap.size + 1) (w.alloc (.cells #[.int .i64 n, .slice (some ⟨b, off, none⟩) zs.length cap] 28))).alloc (by simp) (.cells #[.int .i64 x] 2)).trans (hb1.mono (by simp)))
  have b0 := G1.b0
  have b1 := G1.b1
  have D1 := D0.trans (hb1.mono (by simp; omega))
  clear hb1 hv
  go_wp2_with fail
  refine (from_n n b off cap zs x w1 G1.lb G1.cells HG.out hx).mono ?_
  rintro e w2 ⟨u, rfl, hO, hb2⟩
  have D2 := D1.trans (hb2.mono (by have := D1.size; omega))
  have HO := Lib.hid (hO.base D1.size)
  clear hO hb2
  go_wp2
  go_ret2
  exact ⟨⟨_, rfl, HO.out⟩, D2⟩

set_option maxHeartbeats 800000 in
theorem specDs_out (n : Int) (b off cap : Nat) (zs : List Int) (x : Int) (w : World) (hb : b < w.heap.size) (hc : Cells w b off zs) (hg : isG n zs = true) (hx : (decide (0 ≤ x) && decide (x ≤ n - 1)) = false) (hl : zs.length ≤ 9223372036854775807) :
    Calls Tryd.prog 11 #[.agg #[.int .i64 n, .slice (some ⟨b, off, none⟩) zs.length cap], .int .i64 x] w fun e w' => LRes w.heap.size [] 2 e w' ∧ Below w.heap.size w w' := by
  have D0 : Below w.heap.size w ((w.alloc (.cells #[.int .i64 n, .slice (some ⟨b, off, none⟩) zs.length cap] 28)).alloc (.cells #[.int .i64 x] 2)) := ((Below.refl _ _).alloc (Nat.le_refl _) _).alloc (by simp) _
  have hx1 := cell_one_new (w.alloc (.cells #[.int .i64 n, .slice (some ⟨b, off, none⟩) zs.length cap] 28)) (.int .i64 x) 2
  rw [World.size_alloc] at hx1
  have hv := code2_some n b off cap zs (w.heap.size + 1) 0 1 [x] _ (Nat.lt_of_lt_of_le hb D0.size) (hc.below D0 hb) (by simp) (cells_one (hx1 0 _ rfl)) hg hl (by simp)
  rw [vc_no (by rw [show [x].length = 1 from rfl, vs_one]; exact hx)] at hv
  clear hc hg hx1 hx
  go_enter Tryd.func11, Tryd.ntmps11
  go_wp2_with fail
  refine hv.mono ?_
  rintro e w1 ⟨rfl, hb1⟩
  have D1 := D0.trans (hb1.mono (by simp; omega))
  clear hb1 hv
  go_wp2
  go_ret2
  exact ⟨⟨_, rfl, Own.nil _ _⟩, D1⟩

set_option maxHeartbeats 800000 in
theorem specDs_no (n : Int) (v : Value) (zs : List Int) (x : Int) (w : World) (h : Sl w v zs) (hg : isG n zs = false) (hl : zs.length ≤ 9223372036854775807) :
    Calls Tryd.prog 11 #[.agg #[.int .i64 n, v], .int .i64 x] w fun e w' => LRes w.heap.size [] 1 e w' ∧ Below w.heap.size w w' := by
  have D0 : Below w.heap.size w ((w.alloc (.cells #[.int .i64 n, v] 28)).alloc (.cells #[.int .i64 x] 2)) := ((Below.refl _ _).alloc (Nat.le_refl _) _).alloc (by simp) _
  have hv := fun u => code2_no n v u zs _ (h.below D0) hg hl
  clear h hg
  go_enter Tryd.func11, Tryd.ntmps11
  go_wp2_with fail
  refine (hv _).mono ?_
  rintro e w1 ⟨rfl, hb1⟩
  have D1 := D0.trans (hb1.mono (by simp; omega))
  clear hb1 hv
  go_wp2
  go_ret2
  exact ⟨⟨_, rfl, Own.nil _ _⟩, D1⟩

theorem specDs_any (n : Int) (v : Value) (zs : List Int) (x : Int) (w : World) (h : Sl w v zs) (hl : zs.length ≤ 9223372036854775807) :
    Calls Tryd.prog 11 #[.agg #[.int .i64 n, v], .int .i64 x] w fun e w' => LRes w.heap.size (g1L dsL n zs x) (NC n zs x) e w' ∧ Below w.heap.size w w' := by
  cases hg : isG n zs
  · rw [show g1L dsL n zs x = [] by simp [g1L, hg], show NC n zs x = 1 by simp [NC, hg]]
    exact specDs_no n v zs x w h hg hl
  · obtain ⟨h1, _, h3, _⟩ := isG_parts hg
    obtain ⟨b, off, cap, rfl, hb, hc⟩ := sl_some h (by omega)
    cases hx : (decide (0 ≤ x) && decide (x ≤ n - 1))
    · rw [show g1L dsL n zs x = [] by simp [g1L, hg, hx], show NC n zs x = 2 by simp [NC, hg, hx]]
      exact specDs_out n b off cap zs x w hb hc hg hx hl
    · rw [show g1L dsL n zs x = dsL zs x.toNat by simp [g1L, hg, hx], show NC n zs x = 0 by simp [NC, hg, hx]]
      simp only [Bool.and_eq_true, decide_eq_true_eq] at hx
      obtain ⟨k, rfl⟩ := Int.eq_ofNat_of_zero_le hx.1
      exact specDs_yes n b off cap zs k w hb hc hg (by omega) hl
end Go.Proofs.YtlodaeoikkjbkaaDoor
