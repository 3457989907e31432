/-
  impl.PartOn: the main case.
-/
import Derived.Test.YtbpcdgfcdahnlaaDoorOn1
import Derived.BigRegion
namespace Go.Proofs.YtbpcdgfcdahnlaaDoor
set_option maxRecDepth 100000
open Go.RowKit

theorem or_zero_i64 (z : Int) (h0 : 0 ≤ z) (h1 : z ≤ 9223372036854775807) : bits .or .i64 z 0 = z := by
  obtain ⟨k, rfl⟩ := Int.eq_ofNat_of_zero_le h0
  have := or_i64 k 0 (by omega) (by decide)
  simpa using this

set_option maxRecDepth 100000 in
set_option maxHeartbeats 3200000 in
theorem implOn_yes (b off cap b2 off2 cap2 : Nat) (zs vs : List Int) (w : World) (hb : b < w.heap.size) (hc : Cells w b off zs) (hb2 : b2 < w.heap.size) (hc2 : Cells w b2 off2 vs) (hg : isG zs.length zs = true) (hT : Tab w) (ha : ascTo zs.length vs vs.length = true) (h0 : 0 < vs.length) :
    Calls Tryd.prog 40 #[.agg #[.int .i64 zs.length, .slice (some ⟨b, off, none⟩) zs.length cap], .slice (some ⟨b2, off2, none⟩) vs.length cap2] w fun e w' => GRes w.heap.size vs.length (onL zs vs) 0 e w' ∧ Below w.heap.size w w' := by
  obtain ⟨p1, p2, -, -⟩ := isG_parts hg
  have hm62 : vs.length ≤ 62 := by have := ascTo_len ha (by omega); omega
  have hz := isG_row_ok hg
  have hV : ∀ i, i < vs.length → ∃ p : Nat, el vs i = (p : Int) ∧ p < zs.length ∧ (el vs i).toNat = p := fun i hi => by
    have h1 := ascTo_ge ha i hi
    have h2 := (ascTo_at ha hi).2
    exact ⟨(el vs i).toNat, by omega, by omega, rfl⟩
  obtain ⟨W, hW⟩ : ∃ W, W = ((w.alloc (.cells #[.int .i64 zs.length, .slice (some ⟨b, off, none⟩) zs.length cap] 28)).alloc (.cells #[.int .i64 0, .slice none 0 0] 28)) := ⟨_, rfl⟩
  have D0 : Below w.heap.size w W := by rw [hW]; exact ((Below.refl _ _).alloc (Nat.le_refl _) _).alloc (by simp) _
  have hsz : W.heap.size = w.heap.size + 2 := by rw [hW]; simp
  have K2 : W.heap[w.heap.size]? = some (.cells #[.int .i64 zs.length, .slice (some ⟨b, off, none⟩) zs.length cap] 28 (0, 0)) := by rw [hW]; exact heap_old_at (heap_new_at w (.cells #[.int .i64 zs.length, .slice (some ⟨b, off, none⟩) zs.length cap] 28) w.heap.size rfl) _
  have K3 : W.heap[w.heap.size + 1]? = some (.cells #[.int .i64 0, .slice none 0 0] 28 (0, 0)) := by rw [hW]; exact heap_new_at (w.alloc (.cells #[.int .i64 zs.length, .slice (some ⟨b, off, none⟩) zs.length cap] 28)) (.cells #[.int .i64 0, .slice none 0 0] 28) (w.heap.size + 1) (by simp)
  have his := implIs_some zs.length b off cap zs W (by omega) (hc.below D0 hb) (by omega) (hT.belowAll D0)
  rw [hg] at his
  have C1 := Lib.hid (hc.below D0 hb)
  have C2 := Lib.hid (hc2.below D0 hb2)
  have hasc := fun (W1 : World) (h : Below W.heap.size W W1) => asc_some zs.length b2 off2 cap2 vs W1 (C2.out.below h (by omega)) (by omega) p2
  rw [ha] at hasc
  have HASC := Lib.hid hasc
  have hemp := fun W1 => implEmpty_any vs.length W1 (by omega)
  have HK2 := Lib.hid K2; have HK3 := Lib.hid K3; have hS : w.heap.size + 2 ≤ W.heap.size := by omega
  have HZ := Lib.hid hz; have HV := Lib.hid hV; have HG := Lib.hid hg
  have t0 : ((vs.length : Int) == 0) = false := by rw [beq_eq_false_iff_ne]; omega
  clear hasc K2 K3 hsz hc hc2 hg hT ha hz hV
  go_enter Tryd.func40, Tryd.ntmps40
  obtain ⟨a0, a1, -, -⟩ := two_cells HK2.out
  rw [hW] at a0 a1
  go_wp2_with fail
  rw [← hW]
  clear hW
  refine his.mono ?_
  rintro e w1 ⟨rfl, hb1⟩
  clear a0 a1 his
  have s1 := hb1.size
  obtain ⟨a0, a1, -, -⟩ := two_cells ((hb1.block w.heap.size (by omega)).trans HK2.out)
  go_wp2_with fail
  refine (HASC.out w1 hb1).mono ?_
  rintro e w1' ⟨rfl, rfl⟩
  go_wp2_with fail
  refine (hemp w1).mono ?_
  rintro e w2 ⟨rfl, hB2, hb2'⟩
  have l2 := hB2.lt
  have hbW2 : Below W.heap.size W w2 := hb1.trans (hb2'.mono s1)
  clear a0 a1 hemp hb1 hb2'
  have HB2 := Lib.hid hB2; clear hB2
  go_wp2_with fail
  obtain ⟨w3, h3⟩ : ∃ w3, w3 = w2.alloc (.cells #[.int .i64 vs.length, .slice (some ⟨w1.heap.size + 1, 0, none⟩) vs.length vs.length] 28) := ⟨_, rfl⟩
  have X3 : Hid (w3.heap[w2.heap.size]? = some (.cells #[.int .i64 vs.length, .slice (some ⟨w1.heap.size + 1, 0, none⟩) vs.length vs.length] 28 (0, 0))) := by rw [h3]; exact World.alloc_heap_new w2 _
  have B3 : Hid (Blk w3 (w1.heap.size + 1) (onT zs vs 0 0)) := by show Blk _ _ _; rw [onT_zero, h3]; exact HB2.out.alloc _
  have E3 : Below W.heap.size W w3 := by rw [h3]; exact hbW2.alloc hbW2.size _
  rw [← h3]
  clear h3 HB2
  have s3 : w2.heap.size < w3.heap.size := (Array.getElem?_eq_some_iff.1 X3.out).1
  have hgK : w1.heap.size + 1 ≠ w2.heap.size := by omega
  clear hbW2
  go_loopw [7, 8, 9, 10, 31] (fun _ _ _ _ t wr => ∃ i : Nat, i ≤ vs.length ∧ t = .int .i64 i ∧ Hid (Blk wr (w1.heap.size + 1) (onT zs vs i 0)) ∧ Hid (wr.heap[w2.heap.size]? = some (.cells #[.int .i64 vs.length, .slice (some ⟨w1.heap.size + 1, 0, none⟩) vs.length vs.length] 28 (0, 0))) ∧ Below W.heap.size W wr) (fun _ _ _ _ t _ => vs.length - (intOf t).toNat)
  case atStart => exact ⟨0, Nat.zero_le _, rfl, B3, X3, E3⟩
  case round =>
    obtain ⟨i, hi, rfl, HO, HX, hB⟩ := hrel
    by_cases hlt : (i : Int) < vs.length
    · have hil : i < vs.length := by omega
      obtain ⟨p, hp1, hp2, hp3⟩ := HV.out i hil
      have hz : wr.cell? ⟨b2, off2 + i, none⟩ = some (.int .i64 p) := by rw [← hp1]; exact (C2.out.below hB (by omega)) i hil
      have hi0 : (0 : Int) ≤ i := by omega
      have HP1 := Lib.hid hp1; have HP3 := Lib.hid hp3
      clear hp1 hp3
      go_wp2
      obtain ⟨wo, rfl⟩ : ∃ wo : World, wo = wr := ⟨_, rfl⟩
      go_loopw [9, 10, 38] (fun _ _ t wr => ∃ j : Nat, j ≤ vs.length ∧ t = .int .i64 j ∧ Hid (Blk wr (w1.heap.size + 1) (onT zs vs i j)) ∧ Hid (wr.heap[w2.heap.size]? = some (.cells #[.int .i64 vs.length, .slice (some ⟨w1.heap.size + 1, 0, none⟩) vs.length vs.length] 28 (0, 0))) ∧ Below W.heap.size W wr) (fun _ _ t _ => vs.length - (intOf t).toNat)
      case atStart => exact ⟨0, Nat.zero_le _, rfl, HO, HX, hB⟩
      case round =>
        clear hz HO HX hB
        obtain ⟨j, hj, rfl, HO, HX, hB⟩ := hrel
        by_cases hjt : (j : Int) < vs.length
        · have hjl : j < vs.length := by omega
          obtain ⟨q, hq1, hq2, hq3⟩ := HV.out j hjl
          have hz : wr.cell? ⟨b2, off2 + j, none⟩ = some (.int .i64 q) := by rw [← hq1]; exact (C2.out.below hB (by omega)) j hjl
          have hj0 : (0 : Int) ≤ j := by omega
          obtain ⟨x0, x1, -, -⟩ := two_cells HX.out
          obtain ⟨a0, a1, -, -⟩ := two_cells ((hB.block w.heap.size (by omega)).trans HK2.out)
          have hc : wr.cell? ⟨w1.heap.size + 1, i, none⟩ = some (.int .i64 (onR zs vs i j)) := by
            have := HO.out.cell (i := i) (by rw [onT_length]; exact hil)
            rw [onT_at zs vs i j hil] at this; exact this
          have hf : wr.frozen? ⟨w1.heap.size + 1, i, none⟩ = false := HO.out.frozen _
          have hzp : wr.cell? ⟨b, off + p, none⟩ = some (.int .i64 (el zs p)) := (C1.out.below hB (by omega)) p hp2
          have hp0 : (0 : Int) ≤ p := by omega
          have hpl : (p : Int) < zs.length := by omega
          have hq0 : (0 : Int) ≤ q := by omega
          obtain ⟨zp0, zp1⟩ := HZ.out p hp2
          have hsv := shr_val (el zs p) q zp0 zp1
          obtain ⟨r0, r1⟩ := onR_bd zs vs i j 62 (by omega)
          have pj := pow_bounds j (by omega)
          have r2 : onR zs vs i j ≤ 9223372036854775807 := by omega
          have W1 := Lib.hid (i64_pow (j : Int) (by omega))
          rw [Int.toNat_natCast] at W1
          have hbt : bt (el zs (el vs i).toNat) (el vs j).toNat = bt (el zs p) q := by rw [HP3.out, hq3]
          have HBT := Lib.hid hbt
          clear hbt hq1 hq3
          cases hbit : bt (el zs p) q with
          | true =>
            rw [hbit, if_pos rfl] at hsv
            have PN : Hid (bits .or .i64 (onR zs vs i j) (2 ^ j) = onR zs vs i (j + 1)) := by
              show _ = _
              rw [por_or _ _ r0 r2 (by omega), ← onR_yes (by rw [HBT.out]; exact hbit)]
            have HSET : Hid (Blk ((wr.setCell ⟨w1.heap.size + 1, i, none⟩ (.int .i64 (onR zs vs i (j + 1)))).drew) (w1.heap.size + 1) (onT zs vs i (j + 1))) := by
              have h := HO.out.set i (onR zs vs i (j + 1))
              rw [onT_set zs vs i j hil] at h
              exact h.belowAll ((Below.refl _ _).drew)
            have HX2 : Hid (((wr.setCell ⟨w1.heap.size + 1, i, none⟩ (.int .i64 (onR zs vs i (j + 1)))).drew).heap[w2.heap.size]? = some (.cells #[.int .i64 vs.length, .slice (some ⟨w1.heap.size + 1, 0, none⟩) vs.length vs.length] 28 (0, 0))) := (Below.heap_setCell wr ⟨w1.heap.size + 1, i, none⟩ _ w2.heap.size (by simp; omega)).trans HX.out
            have hBs := (hB.setCell (p := ⟨w1.heap.size + 1, i, none⟩) (by simp; omega) (.int .i64 (onR zs vs i (j + 1)))).drew
            have HBS := Lib.hid hBs
            clear hBs hB HO HX hbit
            go_wp2_with fail
            go_region
            rw [PN.out]
            obtain ⟨w5, h5⟩ : ∃ w5, w5 = (wr.setCell ⟨w1.heap.size + 1, i, none⟩ (.int .i64 (onR zs vs i (j + 1)))).drew := ⟨_, rfl⟩
            rw [← h5] at HSET HX2 HBS ⊢
            clear h5 x0 x1 a0 a1 hc hf hzp hsv
            go_wp2
            go_roundw
            case rel => exact ⟨j + 1, by omega, by go_num, HSET, HX2, HBS.out⟩
            case measure => simp [intOf]; omega
          | false =>
            rw [hbit, if_neg (by decide)] at hsv
            have PN : Hid (bits .or .i64 (onR zs vs i j) (0) = onR zs vs i (j + 1)) := by
              show _ = _
              rw [or_zero_i64 _ r0 r2, onR_no (by rw [HBT.out]; exact hbit)]
            have HSET : Hid (Blk ((wr.setCell ⟨w1.heap.size + 1, i, none⟩ (.int .i64 (onR zs vs i (j + 1)))).drew) (w1.heap.size + 1) (onT zs vs i (j + 1))) := by
              have h := HO.out.set i (onR zs vs i (j + 1))
              rw [onT_set zs vs i j hil] at h
              exact h.belowAll ((Below.refl _ _).drew)
            have HX2 : Hid (((wr.setCell ⟨w1.heap.size + 1, i, none⟩ (.int .i64 (onR zs vs i (j + 1)))).drew).heap[w2.heap.size]? = some (.cells #[.int .i64 vs.length, .slice (some ⟨w1.heap.size + 1, 0, none⟩) vs.length vs.length] 28 (0, 0))) := (Below.heap_setCell wr ⟨w1.heap.size + 1, i, none⟩ _ w2.heap.size (by simp; omega)).trans HX.out
            have hBs := (hB.setCell (p := ⟨w1.heap.size + 1, i, none⟩) (by simp; omega) (.int .i64 (onR zs vs i (j + 1)))).drew
            have HBS := Lib.hid hBs
            clear hBs hB HO HX hbit
            go_wp2_with fail
            go_region
            rw [PN.out]
            obtain ⟨w5, h5⟩ : ∃ w5, w5 = (wr.setCell ⟨w1.heap.size + 1, i, none⟩ (.int .i64 (onR zs vs i (j + 1)))).drew := ⟨_, rfl⟩
            rw [← h5] at HSET HX2 HBS ⊢
            clear h5 x0 x1 a0 a1 hc hf hzp hsv
            go_wp2
            go_roundw
            case rel => exact ⟨j + 1, by omega, by go_num, HSET, HX2, HBS.out⟩
            case measure => simp [intOf]; omega
        · have hjl : j = vs.length := by omega
          have HO2 : Hid (Blk wr (w1.heap.size + 1) (onT zs vs (i + 1) 0)) := by show Blk _ _ _; rw [← onT_next, ← hjl]; exact HO.out
          subst hjl
          clear HO
          go_wp2
          go_roundw
          case rel => exact ⟨i + 1, by omega, by go_num, HO2, HX, hB⟩
          case measure => simp [intOf]; omega
    · have hil : i = vs.length := by omega
      have RB := Lib.hid ((hB.block (w.heap.size + 1) (by omega)).trans HK3.out)
      obtain ⟨r0, r1, g0, g1⟩ := two_cells RB.out
      obtain ⟨x0, x1, -, -⟩ := two_cells HX.out
      have HF : Hid (Own wr W.heap.size (.slice (some ⟨w1.heap.size + 1, 0, none⟩) vs.length vs.length) (onL zs vs)) := by
        have h := HO.out
        rw [hil, onT_all] at h
        have h2 := Own.of_blk h (B := W.heap.size) (by omega) (by rw [onL_length]; unfold maxLen; omega)
        rw [onL_length] at h2
        exact h2
      have HDF := Lib.hid (D0.trans (hB.mono D0.size))
      subst hil
      clear HO hB
      go_wp2
      have hfin := two_set (a := .int .i64 vs.length) (b := .slice (some ⟨w1.heap.size + 1, 0, none⟩) vs.length vs.length) RB.out
      have hgr : wr.grownBy ((wr.setCell ⟨w.heap.size + 1, 0, none⟩ (.int .i64 vs.length)).setCell ⟨w.heap.size + 1, 1, none⟩ (.slice (some ⟨w1.heap.size + 1, 0, none⟩) vs.length vs.length)) (some (w.heap.size + 1)) := grown_set (grown_set ⟨rfl, rfl, rfl, Nat.le_refl _, fun _ _ _ => rfl⟩ _ 0 _) _ 1 _
      refine bodyPost_ret (v := .tuple #[.agg #[.int .i64 vs.length, .slice (some ⟨w1.heap.size + 1, 0, none⟩) vs.length vs.length], .int .i64 0]) (results_cell2 (p := 4) (u := 5) (ty := 28) rfl _ _ (w.heap.size + 1) 28 _ (0, 0) _ rfl hfin Tryd.underlying28 rfl (by exact info27)) rfl ⟨⟨_, rfl, ?_⟩, ?_⟩
      · exact (HF.out.kept hgr (.inr (by simp [Value.ownBlock]; omega))).base (by omega)
      · exact (HDF.out.setCell (p := ⟨w.heap.size + 1, 0, none⟩) (by simp) _).setCell (p := ⟨w.heap.size + 1, 1, none⟩) (by simp) _
end Go.Proofs.YtbpcdgfcdahnlaaDoor
