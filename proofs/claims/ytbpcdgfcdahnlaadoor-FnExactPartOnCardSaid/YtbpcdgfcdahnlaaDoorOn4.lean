/-
  spec.l01On: the part of a graph on vertices.
-/
import Derived.Test.YtbpcdgfcdahnlaaDoorOn3
import Derived.Deep.RegionHeld3
namespace Go.Proofs.YtbpcdgfcdahnlaaDoor
set_option maxRecDepth 100000
open Go.RowKit

theorem bdrew {B B' : Nat} {w w' : World} (h : Below B' w.drew w') (hB : B ≤ B') : Below B w w' := ((Below.refl B w).drew).trans (h.mono hB)

set_option maxRecDepth 100000 in
set_option maxHeartbeats 3200000 in
theorem l01On_some (b off cap b2 off2 cap2 : Nat) (zs vs : List Int) (w : World) (hb : b < w.heap.size) (hc : Cells w b off zs) (hb2 : b2 < w.heap.size) (hc2 : Cells w b2 off2 vs) (hg : isG zs.length zs = true) (ha : ascTo zs.length vs vs.length = true) :
    Calls Tryd.prog 67 #[.agg #[.int .i64 zs.length, .slice (some ⟨b, off, none⟩) zs.length cap], .slice (some ⟨b2, off2, none⟩) vs.length cap2] w fun e w' => ∃ u, e = .returned (.agg #[.int .i64 vs.length, u]) ∧ Own w' w.heap.size u (onL zs vs) ∧ Below w.heap.size w w' := by
  obtain ⟨p1, p2, -, p4, -⟩ := isG_parts hg
  have hm62 : vs.length ≤ 62 := by have := ascTo_len ha (by omega); omega
  have hz := isG_row_ok hg
  have hV : ∀ i, i < vs.length → ∃ p : Nat, el vs i = (p : Int) ∧ p < zs.length ∧ (el vs i).toNat = p := fun i hi => by
    have h1 := ascTo_ge ha i hi
    have h2 := (ascTo_at ha hi).2
    exact ⟨(el vs i).toNat, by omega, by omega, rfl⟩
  have hsym : ∀ p q, p < zs.length → q < zs.length → bt (el zs q) p = bt (el zs p) q := fun p q h1 h2 => isG_symm hg h1 h2
  have hdiag : ∀ p, p < zs.length → bt (el zs p) p = false := fun p h1 => rowOk_not (rowsOk_at p4 h1)
  obtain ⟨W, hW⟩ : ∃ W, W = ((w.alloc (.cells #[.int .i64 zs.length, .slice (some ⟨b, off, none⟩) zs.length cap] 28)).alloc (.cells #[.int .i64 0, .slice none 0 0] 28)) := ⟨_, rfl⟩
  have D0 : Below w.heap.size w W := by rw [hW]; exact ((Below.refl _ _).alloc (Nat.le_refl _) _).alloc (by simp) _
  have hS : w.heap.size + 2 ≤ W.heap.size := by rw [hW]; simp
  have HK2 : Hid (W.heap[w.heap.size]? = some (.cells #[.int .i64 zs.length, .slice (some ⟨b, off, none⟩) zs.length cap] 28 (0, 0))) := by rw [hW]; exact heap_old_at (heap_new_at w (.cells #[.int .i64 zs.length, .slice (some ⟨b, off, none⟩) zs.length cap] 28) w.heap.size rfl) _
  have HK3 : Hid (W.heap[w.heap.size + 1]? = some (.cells #[.int .i64 0, .slice none 0 0] 28 (0, 0))) := by rw [hW]; exact heap_new_at (w.alloc (.cells #[.int .i64 zs.length, .slice (some ⟨b, off, none⟩) zs.length cap] 28)) (.cells #[.int .i64 0, .slice none 0 0] 28) (w.heap.size + 1) (by simp)
  have C1 := Lib.hid (hc.below D0 hb)
  have C2 := Lib.hid (hc2.below D0 hb2)
  have hemp := specEmpty_any vs.length W (by omega)
  have HZ := Lib.hid hz; have HV := Lib.hid hV; have HSY := Lib.hid hsym; have HDI := Lib.hid hdiag
  clear hc hc2 hg ha hz hV p4 hsym hdiag
  go_enter Tryd.func67, Tryd.ntmps67
  go_wp2_with fail
  rw [← hW]
  clear hW
  refine hemp.mono ?_
  rintro e w2 ⟨rfl, hB2, hbW2⟩
  have l2 := hB2.lt
  clear hemp
  have HB2 := Lib.hid hB2; clear hB2
  go_wp2_with fail
  obtain ⟨w3, h3⟩ : ∃ w3, w3 = w2.alloc (.cells #[.int .i64 vs.length, .slice (some ⟨W.heap.size + 1, 0, none⟩) vs.length vs.length] 28) := ⟨_, rfl⟩
  have X3 : Hid (w3.heap[w2.heap.size]? = some (.cells #[.int .i64 vs.length, .slice (some ⟨W.heap.size + 1, 0, none⟩) vs.length vs.length] 28 (0, 0))) := by rw [h3]; exact World.alloc_heap_new w2 _
  have B3 : Blk w3 (W.heap.size + 1) (onS zs vs 0 0) := by rw [onS_zero, h3]; exact HB2.out.alloc _
  have O3 : Hid (Own w3 W.heap.size (.slice (some ⟨W.heap.size + 1, 0, none⟩) vs.length vs.length) (onS zs vs 0 0)) := by
    have := Own.of_blk B3 (B := W.heap.size) (by omega) (by rw [onS_length]; unfold maxLen; omega)
    rw [onS_length] at this
    exact this
  have E3 : Below W.heap.size W w3 := by rw [h3]; exact hbW2.alloc hbW2.size _
  rw [← h3]
  clear h3 HB2 B3
  have s3 : w2.heap.size < w3.heap.size := (Array.getElem?_eq_some_iff.1 X3.out).1
  clear hbW2
  go_loopw [6, 7] (fun t _ wr => ∃ i : Nat, i ≤ vs.length ∧ t = .int .i64 i ∧ Hid (Own wr W.heap.size (.slice (some ⟨W.heap.size + 1, 0, none⟩) vs.length vs.length) (onS zs vs i 0)) ∧ Hid (wr.heap[w2.heap.size]? = some (.cells #[.int .i64 vs.length, .slice (some ⟨W.heap.size + 1, 0, none⟩) vs.length vs.length] 28 (0, 0))) ∧ Below W.heap.size W wr) (fun t _ _ => vs.length - (intOf t).toNat)
  case atStart => exact ⟨0, Nat.zero_le _, rfl, O3, X3, E3⟩
  case round =>
    obtain ⟨i, hi, rfl, HO, HX, hB⟩ := hrel
    by_cases hlt : (i : Int) < vs.length
    · have hil : i < vs.length := by omega
      obtain ⟨p, hp1, hp2, hp3⟩ := HV.out i hil
      have hi0 : (0 : Int) ≤ i := by omega
      have HP1 := Lib.hid hp1; have HP3 := Lib.hid hp3
      clear hp1 hp3
      go_wp2
      obtain ⟨wo, rfl⟩ : ∃ wo : World, wo = wr := ⟨_, rfl⟩
      go_loopw [7] (fun t wr => ∃ k : Nat, k ≤ i ∧ t = .int .i64 k ∧ Hid (Own wr W.heap.size (.slice (some ⟨W.heap.size + 1, 0, none⟩) vs.length vs.length) (onS zs vs i k)) ∧ Hid (wr.heap[w2.heap.size]? = some (.cells #[.int .i64 vs.length, .slice (some ⟨W.heap.size + 1, 0, none⟩) vs.length vs.length] 28 (0, 0))) ∧ Below W.heap.size W wr) (fun t _ => i - (intOf t).toNat)
      case atStart => exact ⟨0, Nat.zero_le _, rfl, HO, HX, hB⟩
      case round =>
        clear HO HX hB
        obtain ⟨k, hk, rfl, HO, HX, hB⟩ := hrel
        by_cases hki : (k : Int) < i
        · have hkl : k < vs.length := by omega
          obtain ⟨q, hq1, hq2, hq3⟩ := HV.out k hkl
          have hz : wr.cell? ⟨b2, off2 + i, none⟩ = some (.int .i64 p) := by rw [← HP1.out]; exact (C2.out.below hB (by omega)) i hil
          have hzk : wr.cell? ⟨b2, off2 + k, none⟩ = some (.int .i64 q) := by rw [← hq1]; exact (C2.out.below hB (by omega)) k hkl
          have hk0 : (0 : Int) ≤ k := by omega
          have hkm : (k : Int) < vs.length := by omega
          obtain ⟨a0, a1, -, -⟩ := two_cells ((hB.block w.heap.size (by omega)).trans HK2.out)
          have hzp : wr.cell? ⟨b, off + p, none⟩ = some (.int .i64 (el zs p)) := (C1.out.below hB (by omega)) p hp2
          have hbw : b < wr.heap.size := by have := hB.size; omega
          obtain ⟨zp0, zp1⟩ := HZ.out p hp2
          have hhas : ∀ (W1 : World) (r : Bool), bt (el zs p) q = r → Below wr.heap.size wr W1 → Calls Tryd.prog 82 #[.agg #[.int .i64 zs.length, .slice (some ⟨b, off, none⟩) zs.length cap], .int .i64 p, .int .i64 q] W1 fun e w' => e = .returned (.bool r) ∧ Below W1.heap.size W1 w' := fun W1 r hr h =>
            has_any zs.length b off zs.length cap (el zs p) p q W1 (by have := h.size; omega) ((h.cell (p := ⟨b, off + p, none⟩) hbw).trans hzp) (by omega) (by omega) (by omega) (by omega) zp0 zp1 r hr
          have HHS := Lib.hid hhas
          have hbt : bt (el zs (el vs i).toNat) (el vs k).toNat = bt (el zs p) q := by rw [HP3.out, hq3]
          have hbt2 : bt (el zs (el vs k).toNat) (el vs i).toNat = bt (el zs p) q := by rw [HP3.out, hq3]; exact HSY.out p q hp2 hq2
          have HBT := Lib.hid hbt; have HBT2 := Lib.hid hbt2
          have HQ1 := Lib.hid hq1
          have HBB := Lib.hid hB
          have hBs := hB.size
          clear hbt hbt2 hq1 hq3 hzp hhas
          cases hbit : bt (el zs p) q with
          | true =>
            have HSET := Lib.hid (onS_yes (zs := zs) (vs := vs) (i := i) (k := k) (by omega) hil (by rw [HBT.out]; exact hbit) (by rw [HBT2.out]; exact hbit))
            have HCAL := Lib.hid (fun W1 => HHS.out W1 true hbit)
            clear hbit hB
            go_wp2_with fail
            go_region_held3 (fun w' => w'.cell? ⟨w.heap.size, 0, none⟩ = some (.int .i64 zs.length) ∧ w'.cell? ⟨w.heap.size, 1, none⟩ = some (.slice (some ⟨b, off, none⟩) zs.length cap) ∧ w'.cell? ⟨b2, off2 + i, none⟩ = some (.int .i64 p) ∧ w'.cell? ⟨b2, off2 + k, none⟩ = some (.int .i64 q))
              (go_keep)
              (first | (go_at_call 82; refine (HCAL.out _ ((Below.refl _ _).drew)).mono ?_; rintro e w5 ⟨rfl, hb5⟩; have hb5' : Below wr.heap.size wr w5 := bdrew hb5 (by simp); obtain ⟨a0, a1, -, -⟩ := two_cells (((HBB.out.trans (hb5'.mono hBs)).block w.heap.size (by omega)).trans HK2.out); have hz : w5.cell? ⟨b2, off2 + i, none⟩ = some (.int .i64 p) := (hb5'.cell (p := ⟨b2, off2 + i, none⟩) (by simp; omega)).trans hz; have hzk : w5.cell? ⟨b2, off2 + k, none⟩ = some (.int .i64 q) := (hb5'.cell (p := ⟨b2, off2 + k, none⟩) (by simp; omega)).trans hzk))
            have HX5 := Lib.hid ((hb5'.block w2.heap.size (Array.getElem?_eq_some_iff.1 HX.out).1).trans HX.out)
            have HO5 := Lib.hid (HO.out.below hb5')
            have HB5 := Lib.hid (HBB.out.trans (hb5'.mono hBs))
            have s5 := hb5'.size
            clear hb5 hb5' hz hzk a0 a1 HO HX
            obtain ⟨x0, x1, -, -⟩ := two_cells HX5.out
            have x5 := (Array.getElem?_eq_some_iff.1 HX5.out).1
            have hput := l01Put_some vs.length (W.heap.size + 1) vs.length W.heap.size vs.length (onS zs vs i k) i k w5 (onS_length _ _ _ _) HO5.out (by omega) hil hkl hm62 (fun a ha => onS_bd zs vs i k a (by omega) hil ha)
            go_wp2_with fail
            refine hput.mono ?_
            rintro e w6 ⟨⟨v6, rfl⟩, hO6, hg6⟩
            have HX6 : Hid (w6.heap[w2.heap.size]? = some (.cells #[.int .i64 vs.length, .slice (some ⟨W.heap.size + 1, 0, none⟩) vs.length vs.length] 28 (0, 0))) := (hg6.block w2.heap.size x5 (by simp; omega)).trans HX5.out
            have HB6 := Lib.hid (HB5.out.grown hg6 HB5.out.size (fun k e => by cases e; omega))
            have HO6 : Hid (Own w6 W.heap.size (.slice (some ⟨W.heap.size + 1, 0, none⟩) vs.length vs.length) (onS zs vs i (k + 1))) := by show Own _ _ _ _; rw [← HSET.out]; exact hO6
            clear hput hO6 hg6 x0 x1 HX5 HO5 HB5
            go_wp2
            go_roundw
            case rel => exact ⟨k + 1, by omega, by go_num, HO6, HX6, HB6.out⟩
            case measure => simp [intOf]; omega
          | false =>
            have HSET := Lib.hid (onS_no (zs := zs) (vs := vs) (i := i) (k := k) (by omega) (by rw [HBT.out]; exact hbit) (by rw [HBT2.out]; exact hbit))
            have HCAL := Lib.hid (fun W1 => HHS.out W1 false hbit)
            clear hbit hB
            go_wp2_with fail
            go_region_held3 (fun w' => w'.cell? ⟨w.heap.size, 0, none⟩ = some (.int .i64 zs.length) ∧ w'.cell? ⟨w.heap.size, 1, none⟩ = some (.slice (some ⟨b, off, none⟩) zs.length cap) ∧ w'.cell? ⟨b2, off2 + i, none⟩ = some (.int .i64 p) ∧ w'.cell? ⟨b2, off2 + k, none⟩ = some (.int .i64 q))
              (go_keep)
              (first | (go_at_call 82; refine (HCAL.out _ ((Below.refl _ _).drew)).mono ?_; rintro e w5 ⟨rfl, hb5⟩; have hb5' : Below wr.heap.size wr w5 := bdrew hb5 (by simp); obtain ⟨a0, a1, -, -⟩ := two_cells (((HBB.out.trans (hb5'.mono hBs)).block w.heap.size (by omega)).trans HK2.out); have hz : w5.cell? ⟨b2, off2 + i, none⟩ = some (.int .i64 p) := (hb5'.cell (p := ⟨b2, off2 + i, none⟩) (by simp; omega)).trans hz; have hzk : w5.cell? ⟨b2, off2 + k, none⟩ = some (.int .i64 q) := (hb5'.cell (p := ⟨b2, off2 + k, none⟩) (by simp; omega)).trans hzk))
            have HX5 := Lib.hid ((hb5'.block w2.heap.size (Array.getElem?_eq_some_iff.1 HX.out).1).trans HX.out)
            have HO5 := Lib.hid (HO.out.below hb5')
            have HB5 := Lib.hid (HBB.out.trans (hb5'.mono hBs))
            have s5 := hb5'.size
            clear hb5 hb5' hz hzk a0 a1 HO HX
            have HO6 : Hid (Own w5 W.heap.size (.slice (some ⟨W.heap.size + 1, 0, none⟩) vs.length vs.length) (onS zs vs i (k + 1))) := by show Own _ _ _ _; rw [HSET.out]; exact HO5.out
            go_wp2
            go_roundw
            case rel => exact ⟨k + 1, by omega, by go_num, HO6, HX5, HB5.out⟩
            case measure => simp [intOf]; omega
        · have hkl : k = i := by omega
          have HO2 : Hid (Own wr W.heap.size (.slice (some ⟨W.heap.size + 1, 0, none⟩) vs.length vs.length) (onS zs vs (i + 1) 0)) := by
            show Own _ _ _ _
            rw [← onS_next (by rw [HP3.out]; exact HDI.out p hp2)]
            have := HO.out
            rw [hkl] at this
            exact this
          subst hkl
          clear HO
          go_wp2
          go_roundw
          case rel => exact ⟨k + 1, by omega, by go_num, HO2, HX, hB⟩
          case measure => simp [intOf]; omega
    · have hil : i = vs.length := by omega
      have RB := Lib.hid ((hB.block (w.heap.size + 1) (by omega)).trans HK3.out)
      obtain ⟨r0, r1, g0, g1⟩ := two_cells RB.out
      obtain ⟨x0, x1, -, -⟩ := two_cells HX.out
      have HF : Hid (Own wr W.heap.size (.slice (some ⟨W.heap.size + 1, 0, none⟩) vs.length vs.length) (onL zs vs)) := by
        have h := HO.out
        rw [hil, onS_all] at h
        exact h
      have HDF := Lib.hid (D0.trans (hB.mono D0.size))
      subst hil
      clear HO hB
      go_wp2
      have hfin := two_set (a := .int .i64 vs.length) (b := .slice (some ⟨W.heap.size + 1, 0, none⟩) vs.length vs.length) RB.out
      have hgr : wr.grownBy ((wr.setCell ⟨w.heap.size + 1, 0, none⟩ (.int .i64 vs.length)).setCell ⟨w.heap.size + 1, 1, none⟩ (.slice (some ⟨W.heap.size + 1, 0, none⟩) vs.length vs.length)) (some (w.heap.size + 1)) := grown_set (grown_set ⟨rfl, rfl, rfl, Nat.le_refl _, fun _ _ _ => rfl⟩ _ 0 _) _ 1 _
      refine bodyPost_ret (v := .agg #[.int .i64 vs.length, .slice (some ⟨W.heap.size + 1, 0, none⟩) vs.length vs.length]) (results_cell_row (p := 4) (ty := 28) rfl _ _ (w.heap.size + 1) 28 _ (0, 0) _ rfl hfin Tryd.underlying28 rfl (by exact info27)) rfl ⟨_, rfl, ?_, ?_⟩
      · exact (HF.out.kept hgr (.inr (by simp [Value.ownBlock]; omega))).base (by omega)
      · exact (HDF.out.setCell (p := ⟨w.heap.size + 1, 0, none⟩) (by simp) _).setCell (p := ⟨w.heap.size + 1, 1, none⟩) (by simp) _
end Go.Proofs.YtbpcdgfcdahnlaaDoor
