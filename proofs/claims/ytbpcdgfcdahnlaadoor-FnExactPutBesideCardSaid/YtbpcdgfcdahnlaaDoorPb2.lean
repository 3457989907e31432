/-
  impl.PutBeside: what is no graph.
-/
import Derived.Test.YtbpcdgfcdahnlaaDoorPb1
namespace Go.Proofs.YtbpcdgfcdahnlaaDoor
set_option maxRecDepth 100000
open Go.RowKit

set_option maxHeartbeats 1600000 in
theorem implPb_no1 (n m : Int) (v v2 : Value) (zs : List Int) (w : World) (h : Sl w v zs) (hg : isG n zs = false) (hl : zs.length ≤ 9223372036854775807) (hT : Tab w) :
    Calls Tryd.prog 42 #[.agg #[.int .i64 n, v], .agg #[.int .i64 m, v2]] w fun e w' => GRes w.heap.size 0 [] 1 e w' ∧ Below w.heap.size w w' := by
  obtain ⟨W, hW⟩ : ∃ W, W = (((w.alloc (.cells #[.int .i64 n, v] 28)).alloc (.cells #[.int .i64 m, v2] 28)).alloc (.cells #[.int .i64 0, .slice none 0 0] 28)) := ⟨_, rfl⟩
  have D0 : Below w.heap.size w W := by rw [hW]; exact (((Below.refl _ _).alloc (Nat.le_refl _) _).alloc (by simp) _).alloc (by simp; omega) _
  have hsz : W.heap.size = w.heap.size + 3 := by rw [hW]; simp
  have K2 : W.heap[w.heap.size]? = some (.cells #[.int .i64 n, v] 28 (0, 0)) := by rw [hW]; exact heap_old_at (heap_old_at (heap_new_at w (.cells #[.int .i64 n, v] 28) w.heap.size rfl) _) _
  have K4 : W.heap[w.heap.size + 2]? = some (.cells #[.int .i64 0, .slice none 0 0] 28 (0, 0)) := by rw [hW]; exact heap_new_at ((w.alloc (.cells #[.int .i64 n, v] 28)).alloc (.cells #[.int .i64 m, v2] 28)) (.cells #[.int .i64 0, .slice none 0 0] 28) (w.heap.size + 2) (by simp)
  have his := implIs_any n v zs W (h.below D0) hl (hT.belowAll D0)
  rw [hg] at his
  have HK2 := Lib.hid K2; have HK4 := Lib.hid K4; have HSZ := Lib.hid hsz
  clear K2 K4 hsz h hg hT
  go_enter Tryd.func42, Tryd.ntmps42
  obtain ⟨a0, a1, -, -⟩ := two_cells HK2.out
  rw [hW] at a0 a1
  go_wp2_with fail
  rw [← hW] at *
  clear hW
  refine his.mono ?_
  rintro e w1 ⟨rfl, hb1⟩
  have RB := Lib.hid ((hb1.block (w.heap.size + 2) (by rw [HSZ.out]; omega)).trans HK4.out)
  obtain ⟨r0, r1, g0, g1⟩ := two_cells RB.out
  have D1 := D0.trans (hb1.mono D0.size)
  clear a0 a1 his hb1
  go_wp2
  have hfin := two_set (a := .int .i64 0) (b := .slice none 0 0) RB.out
  refine bodyPost_ret (v := .tuple #[.agg #[.int .i64 0, .slice none 0 0], .int .i64 1]) (results_cell2 (p := 4) (u := 5) (ty := 28) rfl _ _ (w.heap.size + 2) 28 _ (0, 0) _ rfl hfin Tryd.underlying28 rfl (by exact info27)) rfl ⟨⟨_, rfl, Own.nil _ _⟩, ?_⟩
  exact (D1.setCell (p := ⟨w.heap.size + 2, 0, none⟩) (by simp) _).setCell (p := ⟨w.heap.size + 2, 1, none⟩) (by simp) _

set_option maxHeartbeats 1600000 in
theorem implPb_no2 (n m : Int) (v v2 : Value) (zs hs : List Int) (w : World) (h : Sl w v zs) (hg : isG n zs = true) (hl : zs.length ≤ 9223372036854775807) (h2 : Sl w v2 hs) (hh : isG m hs = false) (hl2 : hs.length ≤ 9223372036854775807) (hT : Tab w) :
    Calls Tryd.prog 42 #[.agg #[.int .i64 n, v], .agg #[.int .i64 m, v2]] w fun e w' => GRes w.heap.size 0 [] 1 e w' ∧ Below w.heap.size w w' := by
  obtain ⟨W, hW⟩ : ∃ W, W = (((w.alloc (.cells #[.int .i64 n, v] 28)).alloc (.cells #[.int .i64 m, v2] 28)).alloc (.cells #[.int .i64 0, .slice none 0 0] 28)) := ⟨_, rfl⟩
  have D0 : Below w.heap.size w W := by rw [hW]; exact (((Below.refl _ _).alloc (Nat.le_refl _) _).alloc (by simp) _).alloc (by simp; omega) _
  have hsz : W.heap.size = w.heap.size + 3 := by rw [hW]; simp
  have K2 : W.heap[w.heap.size]? = some (.cells #[.int .i64 n, v] 28 (0, 0)) := by rw [hW]; exact heap_old_at (heap_old_at (heap_new_at w (.cells #[.int .i64 n, v] 28) w.heap.size rfl) _) _
  have K3 : W.heap[w.heap.size + 1]? = some (.cells #[.int .i64 m, v2] 28 (0, 0)) := by rw [hW]; exact heap_old_at (heap_new_at (w.alloc (.cells #[.int .i64 n, v] 28)) (.cells #[.int .i64 m, v2] 28) (w.heap.size + 1) (by simp)) _
  have K4 : W.heap[w.heap.size + 2]? = some (.cells #[.int .i64 0, .slice none 0 0] 28 (0, 0)) := by rw [hW]; exact heap_new_at ((w.alloc (.cells #[.int .i64 n, v] 28)).alloc (.cells #[.int .i64 m, v2] 28)) (.cells #[.int .i64 0, .slice none 0 0] 28) (w.heap.size + 2) (by simp)
  have his := implIs_any n v zs W (h.below D0) hl (hT.belowAll D0)
  rw [hg] at his
  have his2 := fun W' (hb : Below W.heap.size W W') => implIs_any m v2 hs W' ((h2.below D0).below hb) hl2 ((hT.belowAll D0).belowAll hb)
  rw [hh] at his2
  have HI2 := Lib.hid his2
  have HK2 := Lib.hid K2; have HK3 := Lib.hid K3; have HK4 := Lib.hid K4; have HSZ := Lib.hid hsz
  clear K2 K3 K4 hsz h hg hT h2 hh his2
  go_enter Tryd.func42, Tryd.ntmps42
  obtain ⟨a0, a1, -, -⟩ := two_cells HK2.out
  obtain ⟨a2, a3, -, -⟩ := two_cells HK3.out
  rw [hW] at a0 a1 a2 a3
  go_wp2_with fail
  rw [← hW] at *
  clear hW
  refine his.mono ?_
  rintro e w1 ⟨rfl, hb1⟩
  clear a0 a1 a2 a3
  have s1 := hb1.size
  obtain ⟨a2, a3, -, -⟩ := two_cells ((hb1.block (w.heap.size + 1) (by rw [HSZ.out]; omega)).trans HK3.out)
  go_wp2_with fail
  refine (HI2.out w1 hb1).mono ?_
  rintro e w2 ⟨rfl, hb2⟩
  have hb3 : Below W.heap.size W w2 := hb1.trans (hb2.mono s1)
  have RB := Lib.hid ((hb3.block (w.heap.size + 2) (by rw [HSZ.out]; omega)).trans HK4.out)
  obtain ⟨r0, r1, g0, g1⟩ := two_cells RB.out
  have D1 := D0.trans (hb3.mono D0.size)
  clear a2 a3 his hb1 hb2 hb3
  go_wp2
  have hfin := two_set (a := .int .i64 0) (b := .slice none 0 0) RB.out
  refine bodyPost_ret (v := .tuple #[.agg #[.int .i64 0, .slice none 0 0], .int .i64 1]) (results_cell2 (p := 4) (u := 5) (ty := 28) rfl _ _ (w.heap.size + 2) 28 _ (0, 0) _ rfl hfin Tryd.underlying28 rfl (by exact info27)) rfl ⟨⟨_, rfl, Own.nil _ _⟩, ?_⟩
  exact (D1.setCell (p := ⟨w.heap.size + 2, 0, none⟩) (by simp) _).setCell (p := ⟨w.heap.size + 2, 1, none⟩) (by simp) _
end Go.Proofs.YtbpcdgfcdahnlaaDoor
