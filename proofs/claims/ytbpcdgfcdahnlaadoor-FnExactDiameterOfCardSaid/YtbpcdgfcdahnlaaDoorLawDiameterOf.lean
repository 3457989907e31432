/-
  laws.FnExactDiameterOf: the walk: for every graph value that comes in the law returns true and leaves what was there.
-/
import Derived.Test.YtbpcdgfcdahnlaaDoorInts
import Derived.Test.YtbpcdgfcdahnlaaDoorDn
import Derived.Deep.RegionHeld3
namespace Go.Proofs.YtbpcdgfcdahnlaaDoor.fnExactDiameterOf
set_option maxRecDepth 100000
open Go.RowKit

theorem below_drew {B B' : Nat} {w w' : World} (h : Below B' w.drew w') (hB : B ≤ B') : Below B w w' := ((Below.refl B w).drew).trans (h.mono hB)

set_option maxHeartbeats 1600000 in
theorem law (n : Int) (v : Value) (zs : List Int) (w : World) (hs : Sl w v zs) (hT : Tab w) (hl : zs.length ≤ 9223372036854775807) :
    Calls Tryd.prog 14 #[.agg #[.int .i64 n, v]] w fun e w' => e = .returned (.bool true) ∧ Below w.heap.size w w' := by
  have HS := Lib.hid hs; clear hs
  have HT := Lib.hid hT; clear hT
  have D0 : Below w.heap.size w (w.alloc (.cells #[.int .i64 n, v] 24)) := (Below.refl _ _).alloc (Nat.le_refl _) _
  have hsz := szGraph_any n v zs 1048576 (w.alloc (.cells #[.int .i64 n, v] 24)) (HS.out.below D0) (by decide) (by decide) hl
  by_cases hbig : (1048576 : Int) < zs.length
  · rw [if_pos hbig] at hsz
    clear D0 hbig
    go_enter Tryd.func14, Tryd.ntmps14
    go_wp2_with (go_at_call 15; refine hsz.mono ?_; rintro e w1 ⟨rfl, hb1⟩)
    go_ret
    exact ⟨rfl, ((Below.refl _ _).alloc (Nat.le_refl _) _).trans (hb1.mono (by simp))⟩
  · rw [if_neg hbig] at hsz
    have hl20 : zs.length ≤ 1048576 := by omega
    have HB0 := Lib.hid (World.alloc_heap_new w (.cells #[.int .i64 n, v] 24))
    have hsub0 : (0 : Int) ≤ 1048576 - zs.length := by omega
    obtain ⟨d, hd⟩ : ∃ d, d = dmD n zs := ⟨_, rfl⟩
    obtain ⟨r, hr⟩ : ∃ r, r = dmR n zs := ⟨_, rfl⟩
    obtain ⟨c, hc⟩ : ∃ c, c = dmC n zs := ⟨_, rfl⟩
    have HD := Lib.hid hd; have HR := Lib.hid hr; have HC := Lib.hid hc
    clear hbig hd hr hc
    go_enter Tryd.func14, Tryd.ntmps14
    go_wp2_with (go_at_call 15; refine hsz.mono ?_; rintro e w1 ⟨rfl, E1⟩; obtain ⟨a0, a1, _, _⟩ := two_cells ((E1.block w.heap.size (by simp)).trans HB0.out))
    have e0 : w.heap.size + 1 ≤ w1.heap.size := by have := E1.size; simpa using this
    have S1 : Hid (Sl w1 v zs) := HS.out.below (D0.trans (E1.mono (by simp)))
    refine (toGraph_any n v zs w1 S1.out hl20).mono ?_
    rintro e w2 ⟨rfl, hB2, hb2⟩
    have E2 := E1.trans (hb2.mono (by simpa using e0))
    have e2 := hb2.size
    obtain ⟨a0, a1, _, _⟩ := two_cells ((E2.block w.heap.size (by simp)).trans HB0.out)
    have hsp := specDm_any n (.slice (some ⟨w1.heap.size + 3, 0, none⟩) zs.length zs.length) zs w2 (hB2.sl _) hl
    rw [← HD.out, ← HR.out, ← HC.out] at hsp
    have S2 : Hid (Sl w2 v zs) := HS.out.below (D0.trans (E2.mono (by simp)))
    have T2 : Hid (Tab w2) := HT.out.belowAll (D0.trans (E2.mono (by simp)))
    clear hb2 hB2 E1 S1 hsz
    go_wp2_with fail
    refine hsp.mono ?_
    rintro e w3 ⟨rfl, hb3⟩
    have E3 := E2.trans (hb3.mono (by simp; omega))
    have e3 := hb3.size
    obtain ⟨a0, a1, _, _⟩ := two_cells ((E3.block w.heap.size (by simp)).trans HB0.out)
    have S3 : Hid (Sl w3 v zs) := S2.out.below hb3
    have T3 : Hid (Tab w3) := T2.out.belowAll hb3
    clear hb3 E2 S2 T2 hsp
    go_wp2_with fail
    refine (toGraph_any n v zs w3 S3.out hl20).mono ?_
    rintro e w4 ⟨rfl, hB4, hb4⟩
    have E4 := E3.trans (hb4.mono (by simp; omega))
    have e4 := hb4.size
    obtain ⟨a0, a1, _, _⟩ := two_cells ((E4.block w.heap.size (by simp)).trans HB0.out)
    have S4 : Hid (Sl w4 v zs) := S3.out.below hb4
    have T4 : Hid (Tab w4) := T3.out.belowAll hb4
    have HB4 := Lib.hid hB4
    clear hb4 E3 S3 T3 hB4
    go_wp2_with fail
    obtain ⟨w5, h5⟩ : ∃ w5, w5 = w4.alloc (.cells #[.int .i64 n, .slice (some ⟨w3.heap.size + 3, 0, none⟩) zs.length zs.length] 28) := ⟨_, rfl⟩
    have X5 : Hid (w5.heap[w4.heap.size]? = some (.cells #[.int .i64 n, .slice (some ⟨w3.heap.size + 3, 0, none⟩) zs.length zs.length] 28 (0, 0))) := by rw [h5]; exact World.alloc_heap_new w4 _
    have hb5 : Below w4.heap.size w4 w5 := by rw [h5]; exact (Below.refl _ _).alloc (Nat.le_refl _) _
    rw [← h5]
    clear h5
    have e5 := hb5.size
    have B5 := HB4.out.belowAll hb5
    have E5 := E4.trans (hb5.mono (by simp; omega))
    have S5 : Hid (Sl w5 v zs) := S4.out.below hb5
    have T5 : Hid (Tab w5) := T4.out.belowAll hb5
    have him := implDm_any n (.slice (some ⟨w3.heap.size + 3, 0, none⟩) zs.length zs.length) zs w5 (B5.sl _) hl T5.out
    rw [← HD.out, ← HR.out, ← HC.out] at him
    refine him.mono ?_
    rintro e w6 ⟨rfl, hb6⟩
    have e6 := hb6.size
    have B6 : Hid (Blk w6 (w3.heap.size + 3) zs) := B5.belowAll hb6
    have E6 := E5.trans (hb6.mono (by simp; omega))
    have S6 : Hid (Sl w6 v zs) := S5.out.below hb6
    have l5 : w4.heap.size + 1 ≤ w5.heap.size := (Array.getElem?_eq_some_iff.1 X5.out).1
    have X6 : Hid (w6.heap[w4.heap.size]? = some (.cells #[.int .i64 n, .slice (some ⟨w3.heap.size + 3, 0, none⟩) zs.length zs.length] 28 (0, 0))) := (hb6.block _ (by omega)).trans X5.out
    obtain ⟨a0, a1, _, _⟩ := two_cells ((E6.block w.heap.size (by simp)).trans HB0.out)
    obtain ⟨x0, x1, _, _⟩ := two_cells X6.out
    clear hb6 hb5 E5 E4 S5 S4 T5 T4 him B5 HB4
    go_wp2_with fail
    go_region_held3 (fun w' => w'.cell? ⟨w.heap.size, 0, none⟩ = some (.int .i64 n) ∧ w'.cell? ⟨w.heap.size, 1, none⟩ = some v ∧ w'.cell? ⟨w4.heap.size, 0, none⟩ = some (.int .i64 n) ∧ w'.cell? ⟨w4.heap.size, 1, none⟩ = some (.slice (some ⟨w3.heap.size + 3, 0, none⟩) zs.length zs.length))
      (go_keep)
      (first | (go_at_call 17; refine (toGraph_any n v zs _ (S6.out.below ((Below.refl _ _).drew)) hl20).mono ?_; rintro e w7 ⟨rfl, hB7, hb7⟩; have HB7 := Lib.hid hB7; have B7 : Hid (Blk w7 (w3.heap.size + 3) zs) := Blk.belowAll (w := w6.drew) B6.out hb7; have X7 : Hid (w7.heap[w4.heap.size]? = some (.cells #[.int .i64 n, .slice (some ⟨w3.heap.size + 3, 0, none⟩) zs.length zs.length] 28 (0, 0))) := (hb7.block _ (by simp; omega)).trans X6.out; have E7 := E6.trans (below_drew hb7 (by simp; omega)); obtain ⟨a0, a1, _, _⟩ := two_cells ((E7.block w.heap.size (by simp)).trans HB0.out); obtain ⟨x0, x1, _, _⟩ := two_cells X7.out; clear hB7) | (go_at_call 20; refine (eqGraph_same n _ _ zs _ (B7.out.sl _) (HB7.out.sl _) hl).mono ?_; rintro e w8 ⟨rfl, hb8⟩; have X8 : Hid (w8.heap[w4.heap.size]? = some (.cells #[.int .i64 n, .slice (some ⟨w3.heap.size + 3, 0, none⟩) zs.length zs.length] 28 (0, 0))) := (hb8.block _ (Array.getElem?_eq_some_iff.1 X7.out).1).trans X7.out; have E8 := E7.trans (hb8.mono (by have := E7.size; simpa using this)); obtain ⟨a0, a1, _, _⟩ := two_cells ((E8.block w.heap.size (by simp)).trans HB0.out); obtain ⟨x0, x1, _, _⟩ := two_cells X8.out))
    go_wp2
    go_ret
    exact ⟨rfl, D0.trans (E8.mono (by simp))⟩
end Go.Proofs.YtbpcdgfcdahnlaaDoor.fnExactDiameterOf
