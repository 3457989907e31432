/-
  laws.FnExactIsDesk: for every input the law returns true and leaves what was there.
-/
import Derived.Test.YtbncfhmpkoaffaaDoorDk1
import Derived.Deep.RegionHeld3
namespace Go.Proofs.YtbncfhmpkoaffaaDoor
set_option maxRecDepth 100000
open Go.RowKit

theorem below_drewK {B B' : Nat} {w w' : World} (h : Below B' w.drew w') (hB : B ≤ B') : Below B w w' := ((Below.refl B w).drew).trans (h.mono hB)

set_option maxHeartbeats 3200000 in
theorem lawIsDesk (n m : Int) (v u : Value) (zs ys : List Int) (w : World) (hs : Sl w v zs) (ht : Sl w u ys) (hT : Tab w) (hE : ErrV w) (hl : zs.length ≤ 9223372036854775807) (hm : ys.length ≤ 9223372036854775807) :
    Calls Tryd.prog 11 #[.agg #[.int .i64 n, v, .int .i64 m, u]] w fun e w' => e = .returned (.bool true) ∧ Below w.heap.size w w' := by
  have D0 : Below w.heap.size w (w.alloc (.cells #[.int .i64 n, v, .int .i64 m, u] 46)) := (Below.refl _ _).alloc (Nat.le_refl _) _
  have HB0 := Lib.hid (World.alloc_heap_new w (.cells #[.int .i64 n, v, .int .i64 m, u] 46))
  have hsz := szDesk_any n m v u zs ys 1048576 _ (hs.below D0) (ht.below D0) (by decide) (by decide) hl hm
  have HD0 := Lib.hid D0
  by_cases hneg : szR 1048576 zs.length ys.length < 0
  · generalize szR 1048576 zs.length ys.length = R at *
    clear hs ht hT hE D0
    go_enter Tryd.func11, Tryd.ntmps11
    go_wp2_with (go_at_call 36; refine hsz.mono ?_; rintro e w1 ⟨rfl, hb1⟩; have HB1 := Lib.hid hb1; clear hb1)
    go_ret
    exact ⟨rfl, HD0.out.trans (HB1.out.mono HD0.out.size)⟩
  · have hl20 : zs.length ≤ 1048576 := by unfold szR at hneg; split at hneg <;> omega
    have hm20 : ys.length ≤ 1048576 := by unfold szR at hneg; split at hneg <;> (try split at hneg) <;> omega
    generalize szR 1048576 zs.length ys.length = R at *
    have HTD : Hid (∀ W, Below w.heap.size w W → Calls Tryd.prog 38 #[.agg #[.int .i64 n, v, .int .i64 m, u]] W fun e w' => DkR W.heap.size n m zs ys e w' ∧ Below W.heap.size W w') := fun W hW => toDesk_any n m v u zs ys W (hs.below hW) (ht.below hW) hl20 hm20
    have HT := Lib.hid hT
    have HE := Lib.hid hE
    obtain ⟨r, hr⟩ : ∃ r, r = dkB n m zs ys := ⟨_, rfl⟩
    have HSP : Hid (∀ W (x y : Value), Sl W x zs → Sl W y ys → Calls Tryd.prog 37 #[.agg #[.int .i64 n, x, .int .i64 m, y]] W fun e w' => e = .returned (.bool r) ∧ Below W.heap.size W w') := fun W x y h1 h2 => by rw [hr]; exact specDk_any n m x y zs ys W h1 h2 hl hm
    have HIM : Hid (∀ W (x y : Value), Sl W x zs → Sl W y ys → Below w.heap.size w W → Calls Tryd.prog 39 #[.agg #[.int .i64 n, x, .int .i64 m, y]] W fun e w' => e = .returned (.bool r) ∧ Below W.heap.size W w') := fun W x y h1 h2 h3 => by rw [hr]; exact implDk_any n m x y zs ys W h1 h2 hl hm (HT.out.belowAll h3) (HE.out.belowAll h3)
    have HEQ : Hid (∀ W (x y x' y' : Value), Sl W x zs → Sl W y ys → Sl W x' zs → Sl W y' ys → Calls Tryd.prog 40 #[.agg #[.int .i64 n, x, .int .i64 m, y], .agg #[.int .i64 n, x', .int .i64 m, y']] W fun e w' => e = .returned (.bool true) ∧ Below W.heap.size W w') := fun W x y x' y' h1 h2 h3 h4 => eqDesk_same n m x x' y y' zs ys W h1 h3 h2 h4 hl hm
    have hne : (r != r) = false := by simp
    clear hs ht hT hE D0 hr hl20 hm20
    go_enter Tryd.func11, Tryd.ntmps11
    go_wp2_with fail
    refine hsz.mono ?_
    rintro e w1 ⟨rfl, hb1⟩
    have X1 := Lib.hid ((hb1.block w.heap.size (by simp)).trans HB0.out)
    have HB1 := Lib.hid (HD0.out.trans (hb1.mono HD0.out.size))
    obtain ⟨⟨a0, a1, a2, a3⟩, -⟩ := four_cellsD X1.out
    have l1 : w.heap.size < w1.heap.size := (Array.getElem?_eq_some_iff.1 X1.out).1
    clear hb1 hsz
    go_wp2_with fail
    -- the first copy, for the model
    refine (HTD.out _ HB1.out).mono ?_
    rintro e w2 ⟨⟨g1, g2, rfl, hB1, hB2, k1, k2⟩, hb2⟩
    have X2 := Lib.hid ((hb2.block w.heap.size l1).trans X1.out)
    have HB2 := Lib.hid (HB1.out.trans (hb2.mono HB1.out.size))
    have hsp := HSP.out w2 (.slice (some ⟨g1, 0, none⟩) zs.length zs.length) (.slice (some ⟨g2, 0, none⟩) ys.length ys.length) (hB1.sl _) (hB2.sl _)
    have l2 : w.heap.size < w2.heap.size := (Array.getElem?_eq_some_iff.1 X2.out).1
    clear a0 a1 a2 a3 hb2 hB1 hB2 X1 HB1 k1 k2
    go_wp2_with fail
    refine hsp.mono ?_
    rintro e w3 ⟨rfl, hb3⟩
    have X3 := Lib.hid ((hb3.block w.heap.size l2).trans X2.out)
    have HB3 := Lib.hid (HB2.out.trans (hb3.mono HB2.out.size))
    obtain ⟨⟨a0, a1, a2, a3⟩, -⟩ := four_cellsD X3.out
    have l3 : w.heap.size < w3.heap.size := (Array.getElem?_eq_some_iff.1 X3.out).1
    clear hb3 hsp X2 HB2 l1 l2
    go_wp2_with fail
    -- the second copy, for the program
    refine (HTD.out _ HB3.out).mono ?_
    rintro e w4 ⟨⟨g3, g4, rfl, hB3, hB4, k1, k2⟩, hb4⟩
    have X4 := Lib.hid ((hb4.block w.heap.size l3).trans X3.out)
    have HB4 := Lib.hid (HB3.out.trans (hb4.mono HB3.out.size))
    have l4 : w.heap.size < w4.heap.size := (Array.getElem?_eq_some_iff.1 X4.out).1
    have HK3 := Lib.hid hB3
    have HK4 := Lib.hid hB4
    clear a0 a1 a2 a3 hb4 X3 HB3 l3 hB3 hB4
    go_upto_region 7 with fail
    obtain ⟨w5, h5⟩ : ∃ w5, w5 = w4.alloc (.cells #[.int .i64 n, .slice (some ⟨g3, 0, none⟩) zs.length zs.length, .int .i64 m, .slice (some ⟨g4, 0, none⟩) ys.length ys.length] 51) := ⟨_, rfl⟩
    have Y5 : Hid (w5.heap[w4.heap.size]? = some (.cells #[.int .i64 n, .slice (some ⟨g3, 0, none⟩) zs.length zs.length, .int .i64 m, .slice (some ⟨g4, 0, none⟩) ys.length ys.length] 51 (0, 0))) := by show _ = _; rw [h5]; exact World.alloc_heap_new w4 _
    have hb5 : Below w4.heap.size w4 w5 := by rw [h5]; exact (Below.refl _ _).alloc (Nat.le_refl _) _
    rw [← h5]
    clear h5
    have X5 := Lib.hid ((hb5.block w.heap.size l4).trans X4.out)
    have HB5 := Lib.hid (HB4.out.trans (hb5.mono HB4.out.size))
    have K5 : Blk w5 g3 zs := HK3.out.belowAll hb5
    have L5 : Blk w5 g4 ys := HK4.out.belowAll hb5
    have HK5 := Lib.hid K5
    have HL5 := Lib.hid L5
    have l5 : w4.heap.size < w5.heap.size := (Array.getElem?_eq_some_iff.1 Y5.out).1
    have him := HIM.out w5 (.slice (some ⟨g3, 0, none⟩) zs.length zs.length) (.slice (some ⟨g4, 0, none⟩) ys.length ys.length) (K5.sl _) (L5.sl _) HB5.out
    obtain ⟨⟨y0, y1, y2, y3⟩, -⟩ := four_cellsD Y5.out
    clear hb5 K5 L5 X4 HB4 HK3 HK4
    go_wp2_with fail
    refine him.mono ?_
    rintro e w6 ⟨rfl, hb6⟩
    have X6 := Lib.hid ((hb6.block w.heap.size (by omega)).trans X5.out)
    have Y6 := Lib.hid ((hb6.block w4.heap.size l5).trans Y5.out)
    have HB6 := Lib.hid (HB5.out.trans (hb6.mono HB5.out.size))
    have HK6 := Lib.hid (HK5.out.belowAll hb6)
    have HL6 := Lib.hid (HL5.out.belowAll hb6)
    have l6 : w4.heap.size < w6.heap.size := (Array.getElem?_eq_some_iff.1 Y6.out).1
    clear y0 y1 y2 y3 hb6 him X5 Y5 HB5 HK5 HL5
    obtain ⟨⟨y0, y1, y2, y3⟩, -⟩ := four_cellsD Y6.out
    obtain ⟨⟨a0, a1, a2, a3⟩, -⟩ := four_cellsD X6.out
    have HD6 : Hid (Below w.heap.size w w6.drew) := HB6.out.drew
    go_wp2_with fail
    -- the argument compared with a new copy
    go_region_held3 (fun w' => (w'.cell? ⟨w.heap.size, 0, none⟩ = some (.int .i64 n) ∧ w'.cell? ⟨w.heap.size, 1, none⟩ = some v ∧ w'.cell? ⟨w.heap.size, 2, none⟩ = some (.int .i64 m) ∧ w'.cell? ⟨w.heap.size, 3, none⟩ = some u) ∧ (w'.cell? ⟨w4.heap.size, 0, none⟩ = some (.int .i64 n) ∧ w'.cell? ⟨w4.heap.size, 1, none⟩ = some (.slice (some ⟨g3, 0, none⟩) zs.length zs.length) ∧ w'.cell? ⟨w4.heap.size, 2, none⟩ = some (.int .i64 m) ∧ w'.cell? ⟨w4.heap.size, 3, none⟩ = some (.slice (some ⟨g4, 0, none⟩) ys.length ys.length)))
      (go_keep)
      (first
        | (go_at_call 38; refine (HTD.out _ HD6.out).mono ?_; rintro e w7 ⟨⟨g5, g6, rfl, hB5, hB6, q1, q2⟩, hb7⟩; have hq6 : w6.drew.heap.size = w6.heap.size := rfl; have X7 := Lib.hid ((hb7.block w.heap.size (by omega)).trans X6.out); have Y7 := Lib.hid ((hb7.block w4.heap.size (by omega)).trans Y6.out); have HB7 := Lib.hid (HD6.out.trans (hb7.mono HD6.out.size)); have HK7 := Lib.hid (Blk.belowAll (w := w6.drew) HK6.out hb7); have HL7 := Lib.hid (Blk.belowAll (w := w6.drew) HL6.out hb7); have HM7 := Lib.hid hB5; have HN7 := Lib.hid hB6; have l7 : w4.heap.size < w7.heap.size := (Array.getElem?_eq_some_iff.1 Y7.out).1; obtain ⟨⟨y0, y1, y2, y3⟩, -⟩ := four_cellsD Y7.out; obtain ⟨⟨a0, a1, a2, a3⟩, -⟩ := four_cellsD X7.out; clear hB5 hB6 hb7 q1 q2 hq6)
        | (go_at_call 40; refine (HEQ.out _ _ _ _ _ (HK7.out.sl _) (HL7.out.sl _) (HM7.out.sl _) (HN7.out.sl _)).mono ?_; rintro e w8 ⟨rfl, hb8⟩; have X8 := Lib.hid ((hb8.block w.heap.size (by omega)).trans X7.out); have Y8 := Lib.hid ((hb8.block w4.heap.size l7).trans Y7.out); have HB8 := Lib.hid (HB7.out.trans (hb8.mono HB7.out.size)); obtain ⟨⟨y0, y1, y2, y3⟩, -⟩ := four_cellsD Y8.out; obtain ⟨⟨a0, a1, a2, a3⟩, -⟩ := four_cellsD X8.out; clear hb8))
    go_wp2
    go_ret
    exact ⟨rfl, HB8.out⟩
end Go.Proofs.YtbncfhmpkoaffaaDoor
