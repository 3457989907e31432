/-
  Desks: the laws' helpers that size, copy and compare them; IsDesk of both programs.
-/
import Derived.Test.YtbncfhmpkoaffaaDoorCr8
import Derived.Test.YtbncfhmpkoaffaaDoorDh8
import Derived.Test.YtbncfhmpkoaffaaDoorIs8
import Derived.Test.YtbncfhmpkoaffaaDoorIsB
import Derived.Test.YtbncfhmpkoaffaaDoorIsA
import Derived.Deep.DeepCutAuto
namespace Go.Proofs.YtbncfhmpkoaffaaDoor
set_option maxRecDepth 100000
open Go.RowKit

theorem four_cellsD {w : World} {k : Nat} {x y z u : Value} {t : TypeId} (h : w.heap[k]? = some (.cells #[x, y, z, u] t (0, 0))) :
    (w.cell? ⟨k, 0, none⟩ = some x ∧ w.cell? ⟨k, 1, none⟩ = some y ∧ w.cell? ⟨k, 2, none⟩ = some z ∧ w.cell? ⟨k, 3, none⟩ = some u) ∧ w.frozen? ⟨k, 0, none⟩ = false ∧ w.frozen? ⟨k, 1, none⟩ = false ∧ w.frozen? ⟨k, 2, none⟩ = false ∧ w.frozen? ⟨k, 3, none⟩ = false :=
  ⟨⟨by rw [cell_of_row w k 0 _ _ _ h]; rfl, by rw [cell_of_row w k 1 _ _ _ h]; rfl, by rw [cell_of_row w k 2 _ _ _ h]; rfl, by rw [cell_of_row w k 3 _ _ _ h]; rfl⟩, frozen_of_row w k 0 _ _ h, frozen_of_row w k 1 _ _ h, frozen_of_row w k 2 _ _ h, frozen_of_row w k 3 _ _ h⟩
theorem infoDk : (Tryd.prog.info? 51).map (·.size) = some 4 := by kernel_rfl

/-- What is left of a size behind two lists. -/
def szR (left a b : Int) : Int := if left < a then -1 else if left - a < b then -1 else left - a - b

set_option maxHeartbeats 1600000 in
theorem szDesk_any (n m : Int) (v u : Value) (zs ys : List Int) (left : Int) (w : World) (hs : Sl w v zs) (ht : Sl w u ys) (h0 : 0 ≤ left) (h1 : left ≤ 1048576) (hl : zs.length ≤ 9223372036854775807) (hm : ys.length ≤ 9223372036854775807) :
    Calls Tryd.prog 36 #[.agg #[.int .i64 n, v, .int .i64 m, u], .int .i64 left] w fun e w' => e = .returned (.int .i64 (szR left zs.length ys.length)) ∧ Below w.heap.size w w' := by
  have D0 : Below w.heap.size w (w.alloc (.cells #[.int .i64 n, v, .int .i64 m, u] 46)) := (Below.refl _ _).alloc (Nat.le_refl _) _
  have HB := Lib.hid (World.alloc_heap_new w (.cells #[.int .i64 n, v, .int .i64 m, u] 46))
  have hsz := szGraph_any n v zs left _ (hs.below D0) h0 h1 hl
  have HT := Lib.hid ht
  have HD0 := Lib.hid D0
  unfold szR
  clear hs ht D0
  by_cases hlt : left < zs.length
  · rw [if_pos hlt] at hsz ⊢
    clear hlt
    go_enter Tryd.func36, Tryd.ntmps36
    go_wp2_with (go_at_call 66; refine hsz.mono ?_; rintro e w1 ⟨rfl, hb1⟩; have HB1 := Lib.hid hb1; clear hb1)
    go_ret
    exact ⟨rfl, HD0.out.trans (HB1.out.mono HD0.out.size)⟩
  · rw [if_neg hlt] at hsz ⊢
    have hl2 : (0 : Int) ≤ left - zs.length := by omega
    have hl3 : left - (zs.length : Int) ≤ 1048576 := by omega
    have hl4 : ¬ left - (zs.length : Int) < 0 := by omega
    have HSD : Hid (∀ W, Below w.heap.size w W → Calls Tryd.prog 12 #[.agg #[.int .i64 m, u], .int .i64 (left - zs.length)] W fun e w' => e = .returned (.int .i64 (if left - zs.length < ys.length then -1 else left - zs.length - ys.length)) ∧ Below W.heap.size W w') := fun W hW => szDigraph_any m u ys (left - zs.length) W (HT.out.below hW) hl2 hl3 hm
    by_cases hlt2 : left - (zs.length : Int) < ys.length
    · rw [if_pos hlt2] at HSD ⊢
      generalize left - (zs.length : Int) = A at *
      clear hlt hlt2
      go_enter Tryd.func36, Tryd.ntmps36
      go_wp2_with fail
      refine hsz.mono ?_
      rintro e w1 ⟨rfl, hb1⟩
      obtain ⟨⟨c0, c1, c2, c3⟩, -⟩ := four_cellsD ((hb1.block w.heap.size (by simp)).trans HB.out)
      have HB1 := Lib.hid (HD0.out.trans (hb1.mono HD0.out.size))
      clear hb1 hsz
      go_wp2_with (go_at_call 12; refine (HSD.out _ HB1.out).mono ?_; rintro e w2 ⟨rfl, hb2⟩; have HB2 := Lib.hid (HB1.out.trans (hb2.mono HB1.out.size)); clear hb2)
      go_ret
      exact ⟨rfl, HB2.out⟩
    · rw [if_neg hlt2] at HSD ⊢
      have hl5 : (0 : Int) ≤ left - zs.length - ys.length := by omega
      have hl6 : ¬ left - (zs.length : Int) - ys.length < 0 := by omega
      generalize left - (zs.length : Int) - ys.length = C at *
      generalize left - (zs.length : Int) = A at *
      clear hlt hlt2
      go_enter Tryd.func36, Tryd.ntmps36
      go_wp2_with fail
      refine hsz.mono ?_
      rintro e w1 ⟨rfl, hb1⟩
      obtain ⟨⟨c0, c1, c2, c3⟩, -⟩ := four_cellsD ((hb1.block w.heap.size (by simp)).trans HB.out)
      have HB1 := Lib.hid (HD0.out.trans (hb1.mono HD0.out.size))
      clear hb1 hsz
      go_wp2_with (go_at_call 12; refine (HSD.out _ HB1.out).mono ?_; rintro e w2 ⟨rfl, hb2⟩; have HB2 := Lib.hid (HB1.out.trans (hb2.mono HB1.out.size)); clear hb2)
      go_ret
      exact ⟨rfl, HB2.out⟩

/-- A copy of a desk. -/
def DkR (B : Nat) (n m : Int) (zs ys : List Int) (e : Ending) (w' : World) : Prop := ∃ g1 g2, e = .returned (.agg #[.int .i64 n, .slice (some ⟨g1, 0, none⟩) zs.length zs.length, .int .i64 m, .slice (some ⟨g2, 0, none⟩) ys.length ys.length]) ∧ Blk w' g1 zs ∧ Blk w' g2 ys ∧ B ≤ g1 ∧ B ≤ g2

set_option maxHeartbeats 1600000 in
theorem toDesk_any (n m : Int) (v u : Value) (zs ys : List Int) (w : World) (hs : Sl w v zs) (ht : Sl w u ys) (hl : zs.length ≤ 1048576) (hm : ys.length ≤ 1048576) :
    Calls Tryd.prog 38 #[.agg #[.int .i64 n, v, .int .i64 m, u]] w fun e w' => DkR w.heap.size n m zs ys e w' ∧ Below w.heap.size w w' := by
  obtain ⟨W, hW⟩ : ∃ W, W = ((w.alloc (.cells #[.int .i64 n, v, .int .i64 m, u] 46)).alloc (.cells #[.int .i64 0, .slice none 0 0, .int .i64 0, .slice none 0 0] 51)).alloc (.cells #[.int .i64 0, .slice none 0 0, .int .i64 0, .slice none 0 0] 51) := ⟨_, rfl⟩
  have sz : W.heap.size = w.heap.size + 3 := by rw [hW]; simp
  have D0 : Below w.heap.size w W := by rw [hW]; exact (((Below.refl _ _).alloc (Nat.le_refl _) _).alloc (by simp) _).alloc (by simp; omega) _
  have X0 : Hid (W.heap[w.heap.size]? = some (.cells #[.int .i64 n, v, .int .i64 m, u] 46 (0, 0))) := by show _ = _; rw [hW]; exact heap_old_at (heap_old_at (World.alloc_heap_new w _) _) _
  have X1 : Hid (W.heap[w.heap.size + 1]? = some (.cells #[.int .i64 0, .slice none 0 0, .int .i64 0, .slice none 0 0] 51 (0, 0))) := by show _ = _; rw [hW]; exact heap_old_at (heap_new_at _ _ _ (by simp)) _
  have X2 : Hid (W.heap[w.heap.size + 1 + 1]? = some (.cells #[.int .i64 0, .slice none 0 0, .int .i64 0, .slice none 0 0] 51 (0, 0))) := by show _ = _; rw [hW]; exact heap_new_at _ _ _ (by simp)
  have htg := toGraph_any n v zs W (hs.below D0) hl
  have HT := Lib.hid ht
  have HD0 := Lib.hid D0
  obtain ⟨⟨a0, a1, a2, a3⟩, -⟩ := four_cellsD X0.out
  have s3 : w.heap.size + 3 ≤ W.heap.size := by omega
  clear hs ht D0 sz
  go_enter Tryd.func38, Tryd.ntmps38
  go_upto_region 2 with fail
  rw [← hW]
  clear hW
  go_wp2_with fail
  refine htg.mono ?_
  rintro e w1 ⟨rfl, hB1, hb1⟩
  have Y0 : Hid (w1.heap[w.heap.size]? = some (.cells #[.int .i64 n, v, .int .i64 m, u] 46 (0, 0))) := (hb1.block _ (by omega)).trans X0.out
  have Y1 : Hid (w1.heap[w.heap.size + 1]? = some (.cells #[.int .i64 0, .slice none 0 0, .int .i64 0, .slice none 0 0] 51 (0, 0))) := (hb1.block _ (by omega)).trans X1.out
  have Y2 : Hid (w1.heap[w.heap.size + 1 + 1]? = some (.cells #[.int .i64 0, .slice none 0 0, .int .i64 0, .slice none 0 0] 51 (0, 0))) := (hb1.block _ (by omega)).trans X2.out
  have HBK1 := Lib.hid hB1
  have HB1 := Lib.hid (HD0.out.trans (hb1.mono HD0.out.size))
  have hk1 := hB1.lt
  obtain ⟨⟨y0, y1, y2, y3⟩, f0, f1, f2, f3⟩ := four_cellsD Y2.out
  have hg1 : w.heap.size + 3 ≤ W.heap.size + 3 := by omega
  have s1 := hb1.size
  generalize W.heap.size + 3 = g1 at *
  clear a0 a1 a2 a3 hb1 hB1 htg X0 X1 X2
  obtain ⟨⟨a0, a1, a2, a3⟩, -⟩ := four_cellsD Y0.out
  obtain ⟨W2, hW2⟩ : ∃ W2, W2 = (w1.setCell ⟨w.heap.size + 1 + 1, 0, none⟩ (.int .i64 n)).setCell ⟨w.heap.size + 1 + 1, 1, none⟩ (.slice (some ⟨g1, 0, none⟩) zs.length zs.length) := ⟨_, rfl⟩
  have z2 : W2.heap.size = w1.heap.size := by rw [hW2]; simp
  have hB2 : Below w.heap.size w W2 := by rw [hW2]; exact (HB1.out.setCell (p := ⟨w.heap.size + 1 + 1, 0, none⟩) (by simp; omega) _).setCell (p := ⟨w.heap.size + 1 + 1, 1, none⟩) (by simp; omega) _
  have hK2 : ∀ k, k ≠ w.heap.size + 1 + 1 → W2.heap[k]? = w1.heap[k]? := fun k hk => by
    rw [hW2]
    exact (Below.heap_setCell _ _ _ _ (by simpa using hk)).trans (Below.heap_setCell _ _ _ _ (by simpa using hk))
  have Z0 : Hid (W2.heap[w.heap.size]? = some (.cells #[.int .i64 n, v, .int .i64 m, u] 46 (0, 0))) := (hK2 _ (by omega)).trans Y0.out
  have Z1 : Hid (W2.heap[w.heap.size + 1]? = some (.cells #[.int .i64 0, .slice none 0 0, .int .i64 0, .slice none 0 0] 51 (0, 0))) := (hK2 _ (by omega)).trans Y1.out
  have Z2 : Hid (W2.heap[w.heap.size + 1 + 1]? = some (.cells #[.int .i64 n, .slice (some ⟨g1, 0, none⟩) zs.length zs.length, .int .i64 0, .slice none 0 0] 51 (0, 0))) := by
    show _ = _
    rw [hW2]
    exact heap_setCell_same _ _ 1 _ _ _ (heap_setCell_same w1 _ 0 _ _ (.int .i64 n) Y2.out)
  have ZB : Hid (Blk W2 g1 zs) := (hK2 g1 (by omega)).trans HBK1.out
  have htd := toDigraph_any m u ys W2 (HT.out.below hB2) hm
  have HB2 := Lib.hid hB2
  clear hK2 hB2
  go_wp2_with fail
  rw [← hW2]
  clear hW2 a0 a1 a2 a3 y0 y1 y2 y3 f0 f1 f2 f3 Y0 Y1 Y2 HBK1 HB1
  refine htd.mono ?_
  rintro e w3 ⟨rfl, hB3, hb3⟩
  have U1 : Hid (w3.heap[w.heap.size + 1]? = some (.cells #[.int .i64 0, .slice none 0 0, .int .i64 0, .slice none 0 0] 51 (0, 0))) := (hb3.block _ (by omega)).trans Z1.out
  have U2 : Hid (w3.heap[w.heap.size + 1 + 1]? = some (.cells #[.int .i64 n, .slice (some ⟨g1, 0, none⟩) zs.length zs.length, .int .i64 0, .slice none 0 0] 51 (0, 0))) := (hb3.block _ (by omega)).trans Z2.out
  have UB : Hid (Blk w3 g1 zs) := ZB.out.belowAll hb3
  have HBK3 := Lib.hid hB3
  have HB3 := Lib.hid (HB2.out.trans (hb3.mono HB2.out.size))
  have hg2 : w.heap.size + 3 ≤ W2.heap.size + 3 := by omega
  generalize W2.heap.size + 3 = g2 at *
  obtain ⟨⟨y0, y1, y2, y3⟩, f0, f1, f2, f3⟩ := four_cellsD U2.out
  obtain ⟨⟨x0, x1, x2, x3⟩, e0, e1, e2, e3⟩ := four_cellsD U1.out
  clear hb3 hB3 htd Z0 Z1 Z2 ZB HB2
  obtain ⟨W4, hW4⟩ : ∃ W4, W4 = (w3.setCell ⟨w.heap.size + 1 + 1, 2, none⟩ (.int .i64 m)).setCell ⟨w.heap.size + 1 + 1, 3, none⟩ (.slice (some ⟨g2, 0, none⟩) ys.length ys.length) := ⟨_, rfl⟩
  have hB4 : Below w.heap.size w W4 := by rw [hW4]; exact (HB3.out.setCell (p := ⟨w.heap.size + 1 + 1, 2, none⟩) (by simp; omega) _).setCell (p := ⟨w.heap.size + 1 + 1, 3, none⟩) (by simp; omega) _
  have hK4 : ∀ k, k ≠ w.heap.size + 1 + 1 → W4.heap[k]? = w3.heap[k]? := fun k hk => by
    rw [hW4]
    exact (Below.heap_setCell _ _ _ _ (by simpa using hk)).trans (Below.heap_setCell _ _ _ _ (by simpa using hk))
  have V1 : Hid (W4.heap[w.heap.size + 1]? = some (.cells #[.int .i64 0, .slice none 0 0, .int .i64 0, .slice none 0 0] 51 (0, 0))) := (hK4 _ (by omega)).trans U1.out
  have V2 : Hid (W4.heap[w.heap.size + 1 + 1]? = some (.cells #[.int .i64 n, .slice (some ⟨g1, 0, none⟩) zs.length zs.length, .int .i64 m, .slice (some ⟨g2, 0, none⟩) ys.length ys.length] 51 (0, 0))) := by
    show _ = _
    rw [hW4]
    exact heap_setCell_same _ _ 3 _ _ _ (heap_setCell_same w3 _ 2 _ _ (.int .i64 m) U2.out)
  have VB1 : Hid (Blk W4 g1 zs) := (hK4 g1 (by omega)).trans UB.out
  have VB2 : Hid (Blk W4 g2 ys) := (hK4 g2 (by omega)).trans HBK3.out
  have HB4 := Lib.hid hB4
  clear hK4 hB4
  go_upto_region 4 with fail
  rw [← hW4]
  clear hW4 y0 y1 y2 y3 f0 f1 f2 f3 x0 x1 x2 x3 e0 e1 e2 e3 U1 U2 UB HBK3 HB3
  obtain ⟨⟨y0, y1, y2, y3⟩, -⟩ := four_cellsD V2.out
  obtain ⟨⟨x0, x1, x2, x3⟩, e0, e1, e2, e3⟩ := four_cellsD V1.out
  go_wp2_with fail
  have hfin := heap_setCell_same _ _ 3 _ _ (.slice (some ⟨g2, 0, none⟩) ys.length ys.length) (heap_setCell_same _ _ 2 _ _ (.int .i64 m) (heap_setCell_same _ _ 1 _ _ (.slice (some ⟨g1, 0, none⟩) zs.length zs.length) (heap_setCell_same W4 _ 0 _ _ (.int .i64 n) V1.out)))
  refine bodyPost_ret (v := .agg #[.int .i64 n, .slice (some ⟨g1, 0, none⟩) zs.length zs.length, .int .i64 m, .slice (some ⟨g2, 0, none⟩) ys.length ys.length]) (results_cell_row (p := 2) (ty := 51) rfl _ _ (w.heap.size + 1) 51 _ (0, 0) _ rfl hfin Tryd.underlying51 rfl (by exact infoDk)) rfl ⟨⟨g1, g2, rfl, ?_, ?_, by omega, by omega⟩, ?_⟩
  · exact (((VB1.out.other (by simp; omega) _).other (by simp; omega) _).other (by simp; omega) _).other (by simp; omega) _
  · exact (((VB2.out.other (by simp; omega) _).other (by simp; omega) _).other (by simp; omega) _).other (by simp; omega) _
  · exact (((HB4.out.setCell (p := ⟨w.heap.size + 1, 0, none⟩) (by simp) _).setCell (p := ⟨w.heap.size + 1, 1, none⟩) (by simp) _).setCell (p := ⟨w.heap.size + 1, 2, none⟩) (by simp) _).setCell (p := ⟨w.heap.size + 1, 3, none⟩) (by simp) _

set_option maxHeartbeats 1600000 in
theorem eqDesk_same (n m : Int) (v1 v2 u1 u2 : Value) (zs ys : List Int) (w : World) (h1 : Sl w v1 zs) (h2 : Sl w v2 zs) (h3 : Sl w u1 ys) (h4 : Sl w u2 ys) (hl : zs.length ≤ 9223372036854775807) (hm : ys.length ≤ 9223372036854775807) :
    Calls Tryd.prog 40 #[.agg #[.int .i64 n, v1, .int .i64 m, u1], .agg #[.int .i64 n, v2, .int .i64 m, u2]] w fun e w' => e = .returned (.bool true) ∧ Below w.heap.size w w' := by
  obtain ⟨W, hW⟩ : ∃ W, W = (w.alloc (.cells #[.int .i64 n, v1, .int .i64 m, u1] 51)).alloc (.cells #[.int .i64 n, v2, .int .i64 m, u2] 51) := ⟨_, rfl⟩
  have sz : W.heap.size = w.heap.size + 2 := by rw [hW]; simp
  have D0 : Below w.heap.size w W := by rw [hW]; exact ((Below.refl _ _).alloc (Nat.le_refl _) _).alloc (by simp) _
  have X0 : Hid (W.heap[w.heap.size]? = some (.cells #[.int .i64 n, v1, .int .i64 m, u1] 51 (0, 0))) := by show _ = _; rw [hW]; exact heap_old_at (World.alloc_heap_new w _) _
  have X1 : Hid (W.heap[w.heap.size + 1]? = some (.cells #[.int .i64 n, v2, .int .i64 m, u2] 51 (0, 0))) := by show _ = _; rw [hW]; exact heap_new_at _ _ _ (by simp)
  have heg := eqGraph_same n v1 v2 zs W (h1.below D0) (h2.below D0) hl
  have HED : Hid (∀ W', Below w.heap.size w W' → Calls Tryd.prog 17 #[.agg #[.int .i64 m, u1], .agg #[.int .i64 m, u2]] W' fun e w' => e = .returned (.bool true) ∧ Below W'.heap.size W' w') := fun W' hW' => eqDigraph_same m u1 u2 ys W' (h3.below hW') (h4.below hW') hm
  have HD0 := Lib.hid D0
  obtain ⟨⟨a0, a1, a2, a3⟩, -⟩ := four_cellsD X0.out
  obtain ⟨⟨b0, b1, b2, b3⟩, -⟩ := four_cellsD X1.out
  have s2 : w.heap.size + 2 ≤ W.heap.size := by omega
  clear h1 h2 h3 h4 D0 sz
  go_enter Tryd.func40, Tryd.ntmps40
  go_upto_region 1 with fail
  rw [← hW]
  clear hW
  go_wp2_with fail
  refine heg.mono ?_
  rintro e w1 ⟨rfl, hb1⟩
  have Y0 := Lib.hid ((hb1.block w.heap.size (by omega)).trans X0.out)
  have Y1 := Lib.hid ((hb1.block (w.heap.size + 1) (by omega)).trans X1.out)
  have HB1 := Lib.hid (HD0.out.trans (hb1.mono HD0.out.size))
  clear a0 a1 a2 a3 b0 b1 b2 b3 hb1 heg X0 X1
  obtain ⟨⟨a0, a1, a2, a3⟩, -⟩ := four_cellsD Y0.out
  obtain ⟨⟨b0, b1, b2, b3⟩, -⟩ := four_cellsD Y1.out
  go_wp2_with (go_at_call 17; refine (HED.out _ HB1.out).mono ?_; rintro e w2 ⟨rfl, hb2⟩; have HB2 := Lib.hid (HB1.out.trans (hb2.mono HB1.out.size)); clear hb2)
  go_ret
  exact ⟨rfl, HB2.out⟩

/-- Whether two pairs of rows make a desk. -/
def dkB (n m : Int) (zs ys : List Int) : Bool := isG n zs && isD m ys

set_option maxHeartbeats 1600000 in
theorem implDk_any (n m : Int) (v u : Value) (zs ys : List Int) (w : World) (hs : Sl w v zs) (ht : Sl w u ys) (hl : zs.length ≤ 9223372036854775807) (hm : ys.length ≤ 9223372036854775807) (hT : Tab w) (hE : ErrV w) :
    Calls Tryd.prog 39 #[.agg #[.int .i64 n, v, .int .i64 m, u]] w fun e w' => e = .returned (.bool (dkB n m zs ys)) ∧ Below w.heap.size w w' := by
  have D0 : Below w.heap.size w (w.alloc (.cells #[.int .i64 n, v, .int .i64 m, u] 51)) := (Below.refl _ _).alloc (Nat.le_refl _) _
  have HB := Lib.hid (World.alloc_heap_new w (.cells #[.int .i64 n, v, .int .i64 m, u] 51))
  have his := implIs_any n v zs _ (hs.below D0) hl (hT.belowAll D0)
  have HID : Hid (∀ W, Below w.heap.size w W → Calls Tryd.prog 70 #[.agg #[.int .i64 m, u]] W fun e w' => e = .returned (.bool (isD m ys)) ∧ Below W.heap.size W w') := fun W hW => implId_any m u ys W (ht.below hW) hm (hE.belowAll hW)
  have HD0 := Lib.hid D0
  unfold dkB
  cases hg : isG n zs with
  | false =>
    rw [hg] at his
    clear hs ht hT hE D0 hg
    go_enter Tryd.func39, Tryd.ntmps39
    go_wp2_with (go_at_call 69; refine his.mono ?_; rintro e w1 ⟨rfl, hb1⟩; have HB1 := Lib.hid hb1; clear hb1)
    go_ret
    exact ⟨rfl, HD0.out.trans (HB1.out.mono HD0.out.size)⟩
  | true =>
    rw [hg] at his
    rw [Bool.true_and]
    generalize isD m ys = r at *
    clear hs ht hT hE D0 hg
    go_enter Tryd.func39, Tryd.ntmps39
    go_wp2_with (first
      | (go_at_call 69; refine his.mono ?_; rintro e w1 ⟨rfl, hb1⟩; obtain ⟨⟨c0, c1, c2, c3⟩, -⟩ := four_cellsD ((hb1.block w.heap.size (by simp)).trans HB.out); have HB1 := Lib.hid (HD0.out.trans (hb1.mono HD0.out.size)); clear hb1)
      | (go_at_call 70; refine (HID.out _ HB1.out).mono ?_; rintro e w2 ⟨rfl, hb2⟩; have HB2 := Lib.hid (HB1.out.trans (hb2.mono HB1.out.size)); clear hb2))
    go_ret
    exact ⟨rfl, HB2.out⟩

set_option maxHeartbeats 1600000 in
theorem specDk_any (n m : Int) (v u : Value) (zs ys : List Int) (w : World) (hs : Sl w v zs) (ht : Sl w u ys) (hl : zs.length ≤ 9223372036854775807) (hm : ys.length ≤ 9223372036854775807) :
    Calls Tryd.prog 37 #[.agg #[.int .i64 n, v, .int .i64 m, u]] w fun e w' => e = .returned (.bool (dkB n m zs ys)) ∧ Below w.heap.size w w' := by
  have D0 : Below w.heap.size w (w.alloc (.cells #[.int .i64 n, v, .int .i64 m, u] 51)) := (Below.refl _ _).alloc (Nat.le_refl _) _
  have HB := Lib.hid (World.alloc_heap_new w (.cells #[.int .i64 n, v, .int .i64 m, u] 51))
  have his := l01Is_any n v zs _ (hs.below D0) hl
  have HID : Hid (∀ W, Below w.heap.size w W → Calls Tryd.prog 42 #[.agg #[.int .i64 m, u]] W fun e w' => e = .returned (.bool (isD m ys)) ∧ Below W.heap.size W w') := fun W hW => l08Is_any m u ys W (ht.below hW) hm
  have HD0 := Lib.hid D0
  unfold dkB
  cases hg : isG n zs with
  | false =>
    rw [hg] at his
    clear hs ht D0 hg
    go_enter Tryd.func37, Tryd.ntmps37
    go_wp2_with (go_at_call 67; refine his.mono ?_; rintro e w1 ⟨rfl, hb1⟩; have HB1 := Lib.hid hb1; clear hb1)
    go_ret
    exact ⟨rfl, HD0.out.trans (HB1.out.mono HD0.out.size)⟩
  | true =>
    rw [hg] at his
    rw [Bool.true_and]
    generalize isD m ys = r at *
    clear hs ht D0 hg
    go_enter Tryd.func37, Tryd.ntmps37
    go_wp2_with (first
      | (go_at_call 67; refine his.mono ?_; rintro e w1 ⟨rfl, hb1⟩; obtain ⟨⟨c0, c1, c2, c3⟩, -⟩ := four_cellsD ((hb1.block w.heap.size (by simp)).trans HB.out); have HB1 := Lib.hid (HD0.out.trans (hb1.mono HD0.out.size)); clear hb1)
      | (go_at_call 42; refine (HID.out _ HB1.out).mono ?_; rintro e w2 ⟨rfl, hb2⟩; have HB2 := Lib.hid (HB1.out.trans (hb2.mono HB1.out.size)); clear hb2))
    go_ret
    exact ⟨rfl, HB2.out⟩
end Go.Proofs.YtbncfhmpkoaffaaDoor
