/-
  laws.FnExactWalkGirth: the walk: for every base value that comes in the law returns true and leaves what was there. (A plain seat.)
-/
import Derived.Test.YthonkphjahomeaaWg7
import Derived.Test.YthonkphjahomeaaWg4
import Derived.Deep.RegionHeld3
import Derived.Deep.DeepCutAuto
namespace Go.Proofs.Ythonkphjahomeaa.fnExactWalkGirth
open Go.RowKit

set_option maxRecDepth 100000 in
set_option maxHeartbeats 1600000 in
theorem law (n m : Int) (v : Value) (k : Nat) (fs : List Int) (w : World) (hs : Sa w v k fs) (hl : k ≤ 9223372036854775807) :
    Calls Try.prog 3 #[.agg #[.int .i64 n, .int .i64 m, v]] w fun e w' => e = .returned (.bool true) ∧ Below w.heap.size w w' := by
  have HS := Lib.hid hs; clear hs
  have D0 : Below w.heap.size w (w.alloc (.cells #[.int .i64 n, .int .i64 m, v] 24)) := (Below.refl _ _).alloc (Nat.le_refl _) _
  have hsz := szBase_any n m v k fs 1048576 (w.alloc (.cells #[.int .i64 n, .int .i64 m, v] 24)) (HS.out.below D0) (by decide) (by decide) hl
  by_cases hbig : (1048576 : Int) < k
  · rw [if_pos hbig] at hsz
    clear D0 hbig
    go_enter Try.func3, Try.ntmps3
    go_wp2_with (go_at_call 4; refine hsz.mono ?_; rintro e w1 ⟨rfl, hb1⟩)
    go_ret
    exact ⟨rfl, ((Below.refl _ _).alloc (Nat.le_refl _) _).trans (hb1.mono (by simp))⟩
  · rw [if_neg hbig] at hsz
    have hl20 : k ≤ 1048576 := by omega
    have HB0 := Lib.hid (World.alloc_heap_new w (.cells #[.int .i64 n, .int .i64 m, v] 24))
    have hsub0 : (0 : Int) ≤ 1048576 - k := by omega
    obtain ⟨d, hd⟩ : ∃ d, d = wgN n m k fs := ⟨_, rfl⟩
    obtain ⟨c, hc⟩ : ∃ c, c = wgC n m k fs := ⟨_, rfl⟩
    have HD := Lib.hid hd
    have HCD := Lib.hid hc
    clear hbig hd hc
    go_enter Try.func3, Try.ntmps3
    go_wp2_with (go_at_call 4; refine hsz.mono ?_; rintro e w1 ⟨rfl, E1⟩; obtain ⟨⟨a0, a1, a2⟩, -, -, -⟩ := three_cells ((E1.block w.heap.size (by simp)).trans HB0.out))
    have e0 : w.heap.size + 1 ≤ w1.heap.size := by have := E1.size; simpa using this
    have S1 : Hid (Sa w1 v k fs) := HS.out.below (D0.trans (E1.mono (by simp)))
    refine (toBase_any n m v k fs w1 S1.out hl20).mono ?_
    rintro e w2 ⟨rfl, hB2, hb2⟩
    have E2 := E1.trans (hb2.mono (by simpa using e0))
    have e2 := hb2.size
    have hsp := specWg_any n m (.slice (some ⟨w1.heap.size + 3, 0, none⟩) k k) k fs w2 (hB2.sa HS.out.1 _) hl
    rw [← HD.out, ← HCD.out] at hsp
    have S2 : Hid (Sa w2 v k fs) := HS.out.below (D0.trans (E2.mono (by simp)))
    clear hb2 hB2 E1 S1 hsz a0 a1 a2
    go_wp2_with fail
    refine hsp.mono ?_
    rintro e w3 ⟨rfl, hb3⟩
    have E3 := E2.trans (hb3.mono (by simp; omega))
    have e3 := hb3.size
    obtain ⟨⟨a0, a1, a2⟩, -, -, -⟩ := three_cells ((E3.block w.heap.size (by simp)).trans HB0.out)
    have S3 : Hid (Sa w3 v k fs) := S2.out.below hb3
    clear hb3 E2 S2 hsp
    go_wp2_with fail
    refine (toBase_any n m v k fs w3 S3.out hl20).mono ?_
    rintro e w4 ⟨rfl, hB4, hb4⟩
    have E4 := E3.trans (hb4.mono (by simp; omega))
    have e4 := hb4.size
    have S4 : Hid (Sa w4 v k fs) := S3.out.below hb4
    have HB4 := Lib.hid hB4
    clear hb4 E3 S3 hB4 a0 a1 a2
    go_wp2_with fail
    obtain ⟨w5, h5⟩ : ∃ w5, w5 = w4.alloc (.cells #[.int .i64 n, .int .i64 m, .slice (some ⟨w3.heap.size + 3, 0, none⟩) k k] 30) := ⟨_, rfl⟩
    have X5 : Hid (w5.heap[w4.heap.size]? = some (.cells #[.int .i64 n, .int .i64 m, .slice (some ⟨w3.heap.size + 3, 0, none⟩) k k] 30 (0, 0))) := by rw [h5]; exact World.alloc_heap_new w4 _
    have hb5 : Below w4.heap.size w4 w5 := by rw [h5]; exact (Below.refl _ _).alloc (Nat.le_refl _) _
    rw [← h5]
    clear h5
    have e5 := hb5.size
    have B5 := HB4.out.belowAll hb5
    have E5 := E4.trans (hb5.mono (by simp; omega))
    have S5 : Hid (Sa w5 v k fs) := S4.out.below hb5
    have him := implWg_any n m (.slice (some ⟨w3.heap.size + 3, 0, none⟩) k k) k fs w5 (B5.sa S4.out.1 _) hl
    rw [← HD.out, ← HCD.out] at him
    refine him.mono ?_
    rintro e w6 ⟨rfl, hb6⟩
    have e6 := hb6.size
    have B6 : Hid (ABlk w6 (w3.heap.size + 3) fs) := B5.belowAll hb6
    have E6 := E5.trans (hb6.mono (by simp; omega))
    have S6 : Hid (Sa w6 v k fs) := S5.out.below hb6
    have l5 : w4.heap.size + 1 ≤ w5.heap.size := (Array.getElem?_eq_some_iff.1 X5.out).1
    have X6 : Hid (w6.heap[w4.heap.size]? = some (.cells #[.int .i64 n, .int .i64 m, .slice (some ⟨w3.heap.size + 3, 0, none⟩) k k] 30 (0, 0))) := (hb6.block _ (by omega)).trans X5.out
    obtain ⟨⟨a0, a1, a2⟩, -, -, -⟩ := three_cells ((E6.block w.heap.size (by simp)).trans HB0.out)
    obtain ⟨⟨x0, x1, x2⟩, -, -, -⟩ := three_cells X6.out
    have hdd : (d != d) = false := by simp
    have hcc : (c != c) = false := by simp
    have l4 : w.heap.size + 1 ≤ w4.heap.size := by omega
    have hcell : ∀ W, Below w6.heap.size w6 W → (W.cell? ⟨w.heap.size, 0, none⟩ = some (.int .i64 n) ∧ W.cell? ⟨w.heap.size, 1, none⟩ = some (.int .i64 m) ∧ W.cell? ⟨w.heap.size, 2, none⟩ = some v) ∧ W.cell? ⟨w4.heap.size, 0, none⟩ = some (.int .i64 n) ∧ W.cell? ⟨w4.heap.size, 1, none⟩ = some (.int .i64 m) ∧ W.cell? ⟨w4.heap.size, 2, none⟩ = some (.slice (some ⟨w3.heap.size + 3, 0, none⟩) k k) := fun W hW =>
      ⟨(three_cells ((hW.block w.heap.size (by omega)).trans ((E6.block w.heap.size (by simp)).trans HB0.out))).1, (three_cells ((hW.block w4.heap.size (by omega)).trans X6.out)).1⟩
    have HCE := Lib.hid hcell
    clear hb6 hb5 E5 E4 S5 S4 him B5 HB4 hcell
    go_wp2_with fail
    go_region_held3 (fun w' => w'.cell? ⟨w.heap.size, 0, none⟩ = some (.int .i64 n) ∧ w'.cell? ⟨w.heap.size, 1, none⟩ = some (.int .i64 m) ∧ w'.cell? ⟨w.heap.size, 2, none⟩ = some v ∧ w'.cell? ⟨w4.heap.size, 0, none⟩ = some (.int .i64 n) ∧ w'.cell? ⟨w4.heap.size, 1, none⟩ = some (.int .i64 m) ∧ w'.cell? ⟨w4.heap.size, 2, none⟩ = some (.slice (some ⟨w3.heap.size + 3, 0, none⟩) k k))
      (go_keep)
      (first | (go_at_call 6; refine (toBase_any n m v k fs _ (S6.out.below ((Below.refl _ _).drew)) hl20).mono ?_; rintro e w7 ⟨rfl, hB7, hb7⟩; have HB7 := Lib.hid hB7; have hb7' : Below w6.heap.size w6 w7 := below_drew hb7 (by simp); have B7 : Hid (ABlk w7 (w3.heap.size + 3) fs) := B6.out.belowAll hb7'; obtain ⟨⟨a0, a1, a2⟩, x0, x1, x2⟩ := HCE.out w7 hb7'; clear hB7) | (go_at_call 8; refine (eqBase_same n m _ _ k fs _ (B7.out.sa S6.out.1 _) (HB7.out.sa S6.out.1 _) hl).mono ?_; rintro e w8 ⟨rfl, hb8⟩; have E8 : Below w6.heap.size w6 w8 := hb7'.trans (hb8.mono hb7'.size); obtain ⟨⟨a0, a1, a2⟩, x0, x1, x2⟩ := HCE.out w8 E8))
    have E9 := E6.trans (E8.mono (by simp; omega))
    clear hb7 hb7' hb8 a0 a1 a2 x0 x1 x2 E8
    go_wp2
    go_ret
    exact ⟨rfl, D0.trans (E9.mono (by simp))⟩
end Go.Proofs.Ythonkphjahomeaa.fnExactWalkGirth
