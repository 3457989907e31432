/-
  laws.FnExactIsReducedWalk: the walk: for every base value and list that come in the law returns true and leaves what was there.
-/
import Derived.Test.YthonkphjahomeaaDoorWk7
import Derived.Test.YthonkphjahomeaaDoorWk8
import Derived.Test.YthonkphjahomeaaDoorMa6
import Derived.Test.YthonkphjahomeaaDoorTo
import Derived.Deep.RegionHeld3
import Derived.Deep.DeepCutAuto
namespace Go.Proofs.YthonkphjahomeaaDoor.fnExactIsReducedWalk
set_option maxRecDepth 100000
open Go.RowKit

theorem kept_block {w w' : World} (h : Below w.heap.size w w') {k : Nat} {x : Obj} (hx : w.heap[k]? = some x) : w'.heap[k]? = some x := (h.block k (Array.getElem?_eq_some_iff.1 hx).1).trans hx
theorem eqInts_same (v1 v2 : Value) (xs : List Int) (w : World) (h1 : Sl w v1 xs) (h2 : Sl w v2 xs) (hx : xs.length ≤ 9223372036854775807) :
    Calls Tryd.prog 12 #[v1, v2] w fun e w' => e = .returned (.bool true) ∧ Below w.heap.size w w' := by
  have := eqInts_any v1 v2 xs xs w h1 h2 hx
  simpa using this

set_option maxHeartbeats 6400000 in
theorem law (n m : Int) (v : Value) (k : Nat) (fs : List Int) (vz : Value) (zs : List Int) (w : World) (hs : Sa w v k fs) (hl : k ≤ 9223372036854775807) (hz : Sl w vz zs) (hlz : zs.length ≤ 9223372036854775807) (hE : ErrW w) :
    Calls Tryd.prog 4 #[.agg #[.int .i64 n, .int .i64 m, v], vz] w fun e w' => e = .returned (.bool true) ∧ Below w.heap.size w w' := by
  obtain ⟨pa, pc, rfl⟩ : ∃ a c, vz = .slice a zs.length c := ⟨_, _, slForm hz⟩
  have D0 : Below w.heap.size w (w.alloc (.cells #[.int .i64 n, .int .i64 m, v] 24)) := (Below.refl _ _).alloc (Nat.le_refl _) _
  have HB0 := Lib.hid (World.alloc_heap_new w (.cells #[.int .i64 n, .int .i64 m, v] 24))
  obtain ⟨W0, hW0⟩ : ∃ W0, W0 = w.alloc (.cells #[.int .i64 n, .int .i64 m, v] 24) := ⟨_, rfl⟩
  have l0 : w.heap.size + 1 ≤ W0.heap.size := by rw [hW0]; simp
  rw [← hW0] at D0 HB0
  have HSA : Hid (∀ W, Below W0.heap.size W0 W → Sa W v k fs) := fun W h => hs.below (D0.trans (h.mono (by omega)))
  have HSZ : Hid (∀ W, Below W0.heap.size W0 W → Sl W (.slice pa zs.length pc) zs) := fun W h => hz.below (D0.trans (h.mono (by omega)))
  have HER : Hid (∀ W, Below W0.heap.size W0 W → ErrW W) := fun W h => hE.belowAll (D0.trans (h.mono (by omega)))
  have HBX : Hid (∀ W, Below W0.heap.size W0 W → W.cell? ⟨w.heap.size, 0, none⟩ = some (.int .i64 n) ∧ W.cell? ⟨w.heap.size, 1, none⟩ = some (.int .i64 m) ∧ W.cell? ⟨w.heap.size, 2, none⟩ = some v) := fun W h => (three_cells ((h.block w.heap.size (by omega)).trans HB0.out)).1
  have HLEN : Hid (fs.length = 3 * k) := hs.1
  have HD := Lib.hid D0
  have hsz := szBase_any n m v k fs 1048576 W0 (HSA.out W0 (Below.refl _ _)) (by decide) (by decide) hl
  clear hs hz hE D0 HB0
  obtain ⟨a0, a1, a2⟩ := HBX.out W0 (Below.refl _ _)
  by_cases hbz : (1048576 : Int) < zs.length
  · clear hsz
    go_enter Tryd.func4, Tryd.ntmps4
    go_upto_region 1 with fail
    rw [← hW0]
    clear hW0
    go_wp2_with fail
    go_ret
    exact ⟨rfl, HD.out⟩
  by_cases hbig : (1048576 : Int) < k
  · rw [if_pos hbig] at hsz
    clear hbig
    go_enter Tryd.func4, Tryd.ntmps4
    go_upto_region 1 with fail
    rw [← hW0]
    clear hW0
    go_wp2_with fail
    refine hsz.mono ?_
    rintro e w1 ⟨rfl, hb1⟩
    go_wp2_with fail
    go_ret
    exact ⟨rfl, HD.out.trans (hb1.mono (by omega))⟩
  rw [if_neg hbig] at hsz
  have hl20 : k ≤ 1048576 := by omega
  have hz20 : zs.length ≤ 1048576 := by omega
  have hsub0 : (0 : Int) ≤ 1048576 - k := by omega
  obtain ⟨d, hd⟩ : ∃ d, d = rwB n m k fs zs := ⟨_, rfl⟩
  obtain ⟨c, hc⟩ : ∃ c, c = wkC n m k fs zs := ⟨_, rfl⟩
  have HDD := Lib.hid hd; have HCD := Lib.hid hc
  clear hbig hd hc
  go_enter Tryd.func4, Tryd.ntmps4
  go_upto_region 1 with fail
  rw [← hW0]
  clear hW0
  go_wp2_with fail
  refine hsz.mono ?_
  rintro e w1 ⟨rfl, E1⟩
  have e1 := E1.size
  clear hsz a0 a1 a2
  obtain ⟨a0, a1, a2⟩ := HBX.out w1 E1
  go_wp2_with fail
  refine (toBase_any n m v k fs w1 (HSA.out w1 E1) hl20).mono ?_
  rintro e w2 ⟨rfl, hB2, hb2⟩
  have E2 := E1.trans (hb2.mono e1)
  have e2 := hb2.size
  have HB2 := Lib.hid hB2
  clear hb2 hB2 a0 a1 a2
  go_wp2_with fail
  refine (toInts_any _ zs w2 (HSZ.out w2 E2) hz20).mono ?_
  rintro e w3 ⟨rfl, hZ3, hb3⟩
  have E3 := E2.trans (hb3.mono (by omega))
  have e3 := hb3.size
  have hsp := specRw_any n m (.slice (some ⟨w1.heap.size + 3, 0, none⟩) k k) k fs zs (some ⟨w2.heap.size, 0, none⟩) zs.length w3 ((HB2.out.belowAll hb3).sa HLEN.out _) hl (hZ3.sl _) hlz
  rw [← HDD.out, ← HCD.out] at hsp
  clear hb3 hZ3
  go_wp2_with fail
  refine hsp.mono ?_
  rintro e w4 ⟨rfl, hb4⟩
  have E4 := E3.trans (hb4.mono (by omega))
  have e4 := hb4.size
  obtain ⟨a0, a1, a2⟩ := HBX.out w4 E4
  clear hb4 hsp HB2
  go_wp2_with fail
  refine (toBase_any n m v k fs w4 (HSA.out w4 E4) hl20).mono ?_
  rintro e w5 ⟨rfl, hB5, hb5⟩
  have E5 := E4.trans (hb5.mono (by omega))
  have e5 := hb5.size
  have HB5 := Lib.hid hB5
  clear hb5 hB5 a0 a1 a2
  go_wp2_with fail
  obtain ⟨w6, h6⟩ : ∃ w6, w6 = w5.alloc (.cells #[.int .i64 n, .int .i64 m, .slice (some ⟨w4.heap.size + 3, 0, none⟩) k k] 31) := ⟨_, rfl⟩
  have X6 : Hid (w6.heap[w5.heap.size]? = some (.cells #[.int .i64 n, .int .i64 m, .slice (some ⟨w4.heap.size + 3, 0, none⟩) k k] 31 (0, 0))) := by rw [h6]; exact World.alloc_heap_new w5 _
  have hb6 : Below w5.heap.size w5 w6 := by rw [h6]; exact (Below.refl _ _).alloc (Nat.le_refl _) _
  rw [← h6]
  clear h6
  have e6 := hb6.size
  have HB6 := Lib.hid (HB5.out.belowAll hb6)
  have E6 := E5.trans (hb6.mono (by omega))
  have l6 : w5.heap.size + 1 ≤ w6.heap.size := (Array.getElem?_eq_some_iff.1 X6.out).1
  clear hb6 HB5
  refine (toInts_any _ zs w6 (HSZ.out w6 E6) hz20).mono ?_
  rintro e w7 ⟨rfl, hZ7, hb7⟩
  have E7 := E6.trans (hb7.mono (by omega))
  have e7 := hb7.size
  have HB7 := Lib.hid (HB6.out.belowAll hb7)
  have X7 := Lib.hid (kept_block hb7 X6.out)
  have HZ7 := Lib.hid hZ7
  have him := implRw_any n m (.slice (some ⟨w4.heap.size + 3, 0, none⟩) k k) k fs zs (some ⟨w6.heap.size, 0, none⟩) zs.length w7 (HB7.out.sa HLEN.out _) hl (hZ7.sl _) (Nat.le_refl _) hlz (HER.out w7 E7)
  rw [← HDD.out, ← HCD.out] at him
  obtain ⟨⟨x0, x1, x2⟩, -⟩ := three_cells X7.out
  clear hb7 hZ7 HB6 X6
  go_wp2_with fail
  refine him.mono ?_
  rintro e w8 ⟨rfl, hb8⟩
  have E8 := E7.trans (hb8.mono (by omega))
  have e8 := hb8.size
  have B8 : Hid (ABlk w8 (w4.heap.size + 3) fs) := HB7.out.belowAll hb8
  have X8 := Lib.hid (kept_block hb8 X7.out)
  have Z8 : Hid (Blk w8 w6.heap.size zs) := HZ7.out.belowAll hb8
  clear him hb8 HB7 HZ7 X7 x0 x1 x2
  have hdd : (d != d) = false := by simp
  have hcc : (c != c) = false := by simp
  have hcell : ∀ W, Below w8.heap.size w8 W → (W.cell? ⟨w.heap.size, 0, none⟩ = some (.int .i64 n) ∧ W.cell? ⟨w.heap.size, 1, none⟩ = some (.int .i64 m) ∧ W.cell? ⟨w.heap.size, 2, none⟩ = some v) ∧ W.cell? ⟨w5.heap.size, 0, none⟩ = some (.int .i64 n) ∧ W.cell? ⟨w5.heap.size, 1, none⟩ = some (.int .i64 m) ∧ W.cell? ⟨w5.heap.size, 2, none⟩ = some (.slice (some ⟨w4.heap.size + 3, 0, none⟩) k k) := fun W hW =>
    ⟨HBX.out W (E8.trans (hW.mono (by omega))), (three_cells (kept_block hW X8.out)).1⟩
  obtain ⟨⟨a0, a1, a2⟩, x0, x1, x2⟩ := hcell w8 (Below.refl _ _)
  have HCE := Lib.hid hcell
  clear hcell X8
  go_wp2_with fail
  go_region_held3 (fun w' => w'.cell? ⟨w.heap.size, 0, none⟩ = some (.int .i64 n) ∧ w'.cell? ⟨w.heap.size, 1, none⟩ = some (.int .i64 m) ∧ w'.cell? ⟨w.heap.size, 2, none⟩ = some v ∧ w'.cell? ⟨w5.heap.size, 0, none⟩ = some (.int .i64 n) ∧ w'.cell? ⟨w5.heap.size, 1, none⟩ = some (.int .i64 m) ∧ w'.cell? ⟨w5.heap.size, 2, none⟩ = some (.slice (some ⟨w4.heap.size + 3, 0, none⟩) k k))
    (go_keep)
    (first | (go_at_call 8; refine (toBase_any n m v k fs _ (HSA.out _ (E8.drew)) hl20).mono ?_; rintro e w9 ⟨rfl, hB9, hb9⟩; have HB9 := Lib.hid hB9; have hb9' : Below w8.heap.size w8 w9 := below_drew hb9 (by simp); have B9 : Hid (ABlk w9 (w4.heap.size + 3) fs) := B8.out.belowAll hb9'; obtain ⟨⟨a0, a1, a2⟩, x0, x1, x2⟩ := HCE.out w9 hb9'; clear hB9) | (go_at_call 11; refine (eqBase_same n m _ _ k fs _ (B9.out.sa HLEN.out _) (HB9.out.sa HLEN.out _) hl).mono ?_; rintro e w10 ⟨rfl, hb10⟩; have hb10' : Below w8.heap.size w8 w10 := hb9'.trans (hb10.mono hb9'.size); obtain ⟨⟨a0, a1, a2⟩, x0, x1, x2⟩ := HCE.out w10 hb10'))
  have E10 := E8.trans (hb10'.mono (by omega))
  have e10 := hb10'.size
  have Z10 : Hid (Blk w10 w6.heap.size zs) := Z8.out.belowAll hb10'
  clear hb9 hb9' hb10 hb10' a0 a1 a2 x0 x1 x2 HB9 B9 B8 Z8 HCE
  go_wp2_with fail
  refine (toInts_any _ zs w10 (HSZ.out w10 E10) hz20).mono ?_
  rintro e w11 ⟨rfl, hZ11, hb11⟩
  have E11 := E10.trans (hb11.mono (by omega))
  have e11 := hb11.size
  have hq := eqInts_same (.slice (some ⟨w6.heap.size, 0, none⟩) zs.length zs.length) (.slice (some ⟨w10.heap.size, 0, none⟩) zs.length zs.length) zs w11 ((Z10.out.belowAll hb11).sl _) (hZ11.sl _) hlz
  clear hb11 hZ11 Z10
  go_wp2_with fail
  refine hq.mono ?_
  rintro e w12 ⟨rfl, hb12⟩
  have E12 := E11.trans (hb12.mono (by omega))
  clear hq hb12
  go_wp2_with fail
  go_ret
  exact ⟨rfl, HD.out.trans (E12.mono (by omega))⟩
end Go.Proofs.YthonkphjahomeaaDoor.fnExactIsReducedWalk
