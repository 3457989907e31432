/-
  Several texts in one: Fd3 Fd4.
-/
import Derived.Test.YtlodaeoikkjbkaaDoorMgJ
import Derived.Deep.DeepCutAuto
import Derived.Deep.RegionWith
import Derived.BigQuiet
import Derived.Deep.QuietTactic
namespace Go.Proofs.YtlodaeoikkjbkaaDoor
set_option maxRecDepth 100000
open Go.RowKit

set_option maxHeartbeats 6400000 in
theorem specFd_yes (b off cap : Nat) (zs : List Int) (w : World) (hb : b < w.heap.size) (hc : Cells w b off zs) (hy : apD zs.length zs = true) :
    Calls Tryd.prog 31 #[.agg #[.int .i64 zs.length, .slice (some ⟨b, off, none⟩) zs.length cap]] w fun e w' => GRes w.heap.size (fdM zs) (fdR zs) 0 e w' ∧ Below w.heap.size w w' := by
  obtain ⟨hg, hcn, hd, ha⟩ := apD_parts hy
  obtain ⟨g1, g2, -, -, -⟩ := isG_parts hg
  have hl : zs.length ≤ 62 := by omega
  have hz0 : 0 < zs.length := by omega
  have hp := anB_iff.1 ha
  have hd0 : 0 < dmX zs := by omega
  have hfl : (gaR zs (dmX zs)).length = zs.length := gaR_length' _ _
  obtain ⟨W, hW⟩ : ∃ W, W = (w.alloc (.cells #[.int .i64 zs.length, .slice (some ⟨b, off, none⟩) zs.length cap] 28)).alloc (.cells #[.int .i64 0, .slice none 0 0] 28) := ⟨_, rfl⟩
  have D0 : Below w.heap.size w W := by rw [hW]; exact ((Below.refl _ _).alloc (Nat.le_refl _) _).alloc (by simp) _
  have HR0 : Hid (W.heap[w.heap.size + 1]? = some (.cells #[.int .i64 0, .slice none 0 0] 28 (0, 0))) := by show _ = _; rw [hW]; exact heap_new_at _ _ _ (by simp)
  have HG0 : Hid (W.heap[w.heap.size]? = some (.cells #[.int .i64 zs.length, .slice (some ⟨b, off, none⟩) zs.length cap] 28 (0, 0))) := by show _ = _; rw [hW]; exact heap_old_at (World.alloc_heap_new w _) _
  have hsz : w.heap.size + 2 ≤ W.heap.size := by rw [hW]; simp
  have HCO : Hid (Calls Tryd.prog 52 #[.agg #[.int .i64 zs.length, .slice (some ⟨b, off, none⟩) zs.length cap]] W fun e w' => e = .returned (.int .i64 0) ∧ Below W.heap.size W w') := by
    have := l06Code_any zs.length _ zs W (.inr ⟨b, off, cap, rfl, Nat.lt_of_lt_of_le hb D0.size, hc.below D0 hb⟩) (by omega)
    rw [show cnC zs.length zs = 0 by simp [cnC, hg, hcn]] at this
    exact this
  have HAN : Hid (∀ W2, Below w.heap.size w W2 → Calls Tryd.prog 53 #[.agg #[.int .i64 zs.length, .slice (some ⟨b, off, none⟩) zs.length cap]] W2 fun e w' => e = .returned (.bool true) ∧ Below W2.heap.size W2 w') := fun W2 hW2 => by
    have := antiS_some b off cap zs W2 (Nat.lt_of_lt_of_le hb hW2.size) (hc.below hW2 hb) hg
    rw [show anQ zs = true by rw [anQ_many hd]; exact ha] at this
    exact this
  have HRS : Hid (∀ W2, Below w.heap.size w W2 → Calls Tryd.prog 55 #[.agg #[.int .i64 zs.length, .slice (some ⟨b, off, none⟩) zs.length cap]] W2 fun e w' => (∃ u, e = .returned u ∧ TS w' W2.heap.size u (dsLL zs zs.length)) ∧ Below W2.heap.size W2 w') := fun W2 h =>
    rows6_some b off cap zs W2 (Nat.lt_of_lt_of_le hb h.size) (hc.below h hb) hg
  have HDI : Hid (∀ W2, Below w.heap.size w W2 → Calls Tryd.prog 56 #[.agg #[.int .i64 zs.length, .slice (some ⟨b, off, none⟩) zs.length cap]] W2 fun e w' => e = .returned (.tuple #[.int .i64 (dmX zs), .int .i64 (mnF (rcF zs zs.length) zs.length)]) ∧ Below W2.heap.size W2 w') := fun W2 hW2 => diam2_some zs.length b off cap zs W2 (Nat.lt_of_lt_of_le hb hW2.size) (hc.below hW2 hb) hg
  have HCZ : Hid (∀ W2, Below w.heap.size w W2 → Cells W2 b off zs) := fun W2 h => hc.below h hb
  have HROW : Hid (∀ v, v < zs.length → 0 ≤ el zs v ∧ el zs v ≤ 9223372036854775807) := fun v hv => isG_row_ok hg v hv
  have HNUM : Hid (∀ v k, v < zs.length → k < zs.length → el (dsL zs v) k = dmX zs → fbK (gaR zs (dmX zs)) v = fbK (gaR zs (dmX zs)) k) := fun v k hv hk h => ds_num hg hd0 hv hk h
  have hiv : ∀ v, v < zs.length → _ := fun v hv => iv_end hg hd0 hp hv
  have hkm : ∀ v, v < zs.length → fbK (gaR zs (dmX zs)) v < (prN (gaR zs (dmX zs)) zs.length).length := fun v hv => by
    have := fbK_lt (fz := gaR zs (dmX zs)) (v := v) (by rw [hfl]; exact hv)
    rw [hfl] at this
    exact this
  have hpb : ∀ v, (prN (gaR zs (dmX zs)) v).length ≤ v := fun v => prN_length _ _
  have hrows : rowsF (prN (gaR zs (dmX zs)) zs.length).length (adjS (fdO zs (fbK (gaR zs (dmX zs))) zs.length)) = fdR zs := by
    have := fold_rows (zs := zs) (fz := gaR zs (dmX zs)) hfl hl (ga_sym hg) (isG_sym2 hg).1
    rw [hfl] at this
    rw [this]
    unfold fdR fdM
    rw [hfl]
  have hM : fdM zs = (prN (gaR zs (dmX zs)) zs.length).length := by unfold fdM; rw [hfl]
  obtain ⟨RR, hRR⟩ : ∃ R, R = fdR zs := ⟨_, rfl⟩
  rw [hM, ← hRR]
  rw [← hRR] at hrows
  have hRL : RR.length = (prN (gaR zs (dmX zs)) zs.length).length := by rw [← hrows, rowsF_length]
  obtain ⟨K, hK⟩ : ∃ K, K = fbK (gaR zs (dmX zs)) := ⟨_, rfl⟩
  obtain ⟨P, hP⟩ : ∃ P : Nat → Nat, P = fun v => (prN (gaR zs (dmX zs)) v).length := ⟨_, rfl⟩
  have hPv : ∀ v, (prN (gaR zs (dmX zs)) v).length = P v := fun v => by rw [hP]
  simp only [hPv] at hiv hkm hpb hrows hRL ⊢
  have HP0 : Hid (P 0 = 0) := by show _ = _; rw [hP]; rfl
  rw [← hK] at hkm hrows HNUM
  simp only [← hK] at hiv
  obtain ⟨m, hm⟩ : ∃ m, m = P zs.length := ⟨_, rfl⟩
  have HM : Hid (P zs.length = m) := hm.symm
  have hm62 : m ≤ 62 := by have := hpb zs.length; omega
  rw [← hm] at hkm hrows hRL ⊢
  have HIV := Lib.hid hiv
  have HKM := Lib.hid hkm
  have HPB := Lib.hid hpb
  have HRW := Lib.hid hrows
  have HRL := Lib.hid hRL
  have HEM := Lib.hid (fun W2 => specEmpty_any m W2 (by omega))
  have HD0 := Lib.hid D0
  generalize mnF (rcF zs zs.length) zs.length = mn at *
  generalize hdd : dmX zs = d at *
  have hmk := run_mkInts zs.length (by omega)
  obtain ⟨a0, a1, -, -⟩ := two_cells HG0.out
  clear hc hg hcn D0 hy hd ha hp hd0 hfl hiv hkm hpb hrows hRL hM hRR hPv hP hK hdd hm
  go_enter Tryd.func31, Tryd.ntmps31
  go_upto_region 1 with fail
  rw [← hW]
  clear hW
  go_wp2_with (first
    | (go_at_call 52; refine HCO.out.mono ?_; rintro e w1 ⟨rfl, hb1⟩; have E1 : Hid (Below w.heap.size w w1) := HD0.out.trans (hb1.mono HD0.out.size); have HG1 := Lib.hid ((hb1.block w.heap.size (by omega)).trans HG0.out); have HR1 := Lib.hid ((hb1.block (w.heap.size + 1) (by omega)).trans HR0.out); have s1 := hb1.size; obtain ⟨b0, b1, -, -⟩ := two_cells HG1.out; clear hb1)
    | (go_at_call 53; refine (HAN.out w1 E1.out).mono ?_; rintro e w2 ⟨rfl, hb2⟩; have E2 : Hid (Below w.heap.size w w2) := E1.out.trans (hb2.mono E1.out.size); have HG2 := Lib.hid ((hb2.block w.heap.size (by omega)).trans HG1.out); have HR2 := Lib.hid ((hb2.block (w.heap.size + 1) (by omega)).trans HR1.out); have s2 := hb2.size; obtain ⟨c0, c1, -, -⟩ := two_cells HG2.out; clear hb2))
  have HRS2 : Hid (∀ W2, Below w2.heap.size w2 W2 → Calls Tryd.prog 55 #[.agg #[.int .i64 zs.length, .slice (some ⟨b, off, none⟩) zs.length cap]] W2 fun e w' => (∃ u, e = .returned u ∧ TS w' W2.heap.size u (dsLL zs zs.length)) ∧ Below W2.heap.size W2 w') := fun W2 h => HRS.out W2 (E2.out.trans (h.mono E2.out.size))
  clear a0 a1 b0 b1 HCO HAN HRS
  go_cut [5, 6, 7] from 25 (fun s t u wx => RF w2 zs s t u wx)
  case first =>
    have p1 : w.heap.size < w2.heap.size := by omega
    have p2 : ¬ w.heap.size = w2.heap.size := by omega
    have p3 : ¬ w2.heap.size = w.heap.size := by omega
    go_region_with (go_at_call 55; refine (HRS2.out _ (by first | exact (Below.refl _ _).drew | exact ((Below.refl _ _).drew).alloc (by simp) _)).mono ?_; rintro e w3 ⟨⟨u, rfl, hTS⟩, hb3⟩; obtain ⟨q0, q1, -, -⟩ := two_cells ((hb3.block w.heap.size (by simp; omega)).trans (by first | exact HG2.out | exact heap_old_at HG2.out _)))
    all_goals
      go_wp2_with fail
      go_meet
      first
        | exact RF.first hz0 hTS hb3
        | exact RF.last hz0 hTS hb3
  case rest =>
  obtain ⟨gu, cu, gf, B, S, rfl, rfl, rfl, HRD, HB, hE0, k1, k2, k3⟩ := hcut
  obtain ⟨d0, d1, -, -⟩ := two_cells ((hE0.block w.heap.size (by omega)).trans HG2.out)
  clear c0 c1 HRS2
  go_wp2_with (go_at_call 56; refine (HDI.out _ (E2.out.trans (hE0.mono E2.out.size))).mono ?_; rintro e w4 ⟨rfl, hb4⟩; have E4 := Lib.hid (hE0.trans (hb4.mono hE0.size)); have HB4 : Hid (Blk w4 gf (stQ K zs.length 0 0)) := (by show Blk _ _ _; rw [← stQ_zero]; exact HB.out.belowAll hb4); have HK4 : Hid (∀ k, B ≤ k → k < S → w4.heap[k]? = wc.heap[k]?) := (fun k _ hk => hb4.block k (by omega)); clear hb4)
  clear d0 d1 hE0 HB HDI
  have HC0 : Hid (Value.int .i64 0 = .int .i64 (P 0 : Nat)) := by show _ = _; rw [HP0.out]; rfl
  go_loopw [7, 10, 11] (fun c t _ wr => ∃ v : Nat, v ≤ zs.length ∧ t = .int .i64 v ∧ c = .int .i64 (P v : Nat) ∧ Hid (Blk wr gf (stQ K zs.length v 0)) ∧ Below w2.heap.size w2 wr ∧ Hid (∀ k, B ≤ k → k < S → wr.heap[k]? = wc.heap[k]?)) (fun _ t _ _ => zs.length - (intOf t).toNat)
  case atStart => exact ⟨0, Nat.zero_le _, rfl, HC0.out, HB4, E4.out, HK4⟩
  case round =>
    clear HB4 E4 HK4 HC0
    obtain ⟨v, hv, rfl, hcc, HB, hE, HK⟩ := hrel
    obtain ⟨b0, b1, -, -⟩ := two_cells ((hE.block w.heap.size (by omega)).trans HG2.out)
    have hPv := HPB.out v
    by_cases hlt : v < zs.length
    · subst hcc
      have hlti : (v : Int) < zs.length := by omega
      have hv0 : (0 : Int) ≤ v := by omega
      have cF := HB.out.cell (i := v) (by rw [stQ_length]; exact hlt)
      have fF := HB.out.frozen v
      obtain ⟨w5, h5⟩ : ∃ w5, w5 = wr.setCell ⟨gf, v, none⟩ (.int .i64 (-1)) := ⟨_, rfl⟩
      have HB5 : Hid (Blk w5 gf (stQ K zs.length v (ivF zs d (K v) v 0))) := by
        show Blk _ _ _
        rw [h5, show ivF zs d (K v) v 0 = -1 from rfl, ← stQ_set (x := 0)]
        exact HB.out.set v (-1)
      have hE5 : Below w2.heap.size w2 w5 := by rw [h5]; exact hE.setCell (p := ⟨gf, v, none⟩) (by simp; omega) _
      have HK5 : Hid (∀ k, B ≤ k → k < S → w5.heap[k]? = wc.heap[k]?) := fun j h1 h2 => by
        rw [h5]
        exact (Below.heap_setCell _ _ _ _ (by simp; omega)).trans (HK.out j h1 h2)
      go_wp2_with fail
      rw [← h5]
      clear h5 cF fF b0 b1 HB hE HK
      go_loopw [11] (fun t wr => ∃ k : Nat, k ≤ v ∧ t = .int .i64 k ∧ Hid (Blk wr gf (stQ K zs.length v (ivF zs d (K v) v k))) ∧ Below w2.heap.size w2 wr ∧ Hid (∀ k, B ≤ k → k < S → wr.heap[k]? = wc.heap[k]?)) (fun t _ => v - (intOf t).toNat)
      case atStart => exact ⟨0, Nat.zero_le _, rfl, HB5, hE5, HK5⟩
      case round =>
        clear HB5 hE5 HK5
        obtain ⟨k, hk, rfl, HB, hE, HK⟩ := hrel
        by_cases hlk : k < v
        · have hlki : (k : Int) < v := by omega
          have hk0 : (0 : Int) ≤ k := by omega
          have hkn : (k : Int) < zs.length := by omega
          obtain ⟨p, c, c1, c2⟩ := HRD.out wr HK.out v hlt
          have c3 := c2 k (by omega)
          clear c2
          by_cases he : el (dsL zs v) k = d
          · have HQ := Lib.hid (HNUM.out v k hlt (by omega) he)
            have cK := HB.out.cell (i := k) (by rw [stQ_length]; omega)
            rw [stQ_below hlk (by omega)] at cK
            have cF := HB.out.cell (i := v) (by rw [stQ_length]; exact hlt)
            have fF := HB.out.frozen v
            obtain ⟨w6, h6⟩ : ∃ w6, w6 = wr.setCell ⟨gf, v, none⟩ (.int .i64 (K k : Nat)) := ⟨_, rfl⟩
            have HB6 : Hid (Blk w6 gf (stQ K zs.length v (ivF zs d (K v) v (k + 1)))) := by
              show Blk _ _ _
              rw [h6, ivF_yes he, HQ.out, ← stQ_set (x := ivF zs d (K v) v k)]
              exact HB.out.set v _
            have hE6 : Below w2.heap.size w2 w6 := by rw [h6]; exact hE.setCell (p := ⟨gf, v, none⟩) (by simp; omega) _
            have HK6 : Hid (∀ k, B ≤ k → k < S → w6.heap[k]? = wc.heap[k]?) := fun j h1 h2 => by
              rw [h6]
              exact (Below.heap_setCell _ _ _ _ (by simp; omega)).trans (HK.out j h1 h2)
            have hde : (el (dsL zs v) k == d) = true := by simpa using he
            clear he HB hE HK
            generalize el (dsL zs v) k = x at *
            generalize el (stQ K zs.length v (ivF zs d (K v) v k)) v = y at *
            go_wp2_with fail
            rw [← h6]
            go_roundw
            case rel => exact ⟨k + 1, by omega, by go_num, HB6, hE6, HK6⟩
            case measure => simp [intOf]; omega
          · have HB6 : Hid (Blk wr gf (stQ K zs.length v (ivF zs d (K v) v (k + 1)))) := by show Blk _ _ _; rw [ivF_no he]; exact HB.out
            have hde : (el (dsL zs v) k == d) = false := by simpa using he
            clear he HB
            generalize el (dsL zs v) k = x at *
            go_wp2_with fail
            go_roundw
            case rel => exact ⟨k + 1, by omega, by go_num, HB6, hE, HK⟩
            case measure => simp [intOf]; omega
        · obtain rfl : k = v := by omega
          have cF := HB.out.cell (i := k) (by rw [stQ_length]; exact hlt)
          rw [stQ_here hlt] at cF
          have fF := HB.out.frozen k
          rcases HIV.out k hlt with ⟨-, e1, e2, e3⟩ | ⟨-, e1, e2⟩
          · rw [e1] at cF
            obtain ⟨w6, h6⟩ : ∃ w6, w6 = wr.setCell ⟨gf, k, none⟩ (.int .i64 (P k : Nat)) := ⟨_, rfl⟩
            have HB6 : Hid (Blk w6 gf (stQ K zs.length (k + 1) 0)) := by
              show Blk _ _ _
              have h := HB.out.set k (P k : Nat)
              rw [stQ_set] at h
              rw [h6, ← stQ_next, e2]
              exact h
            have hE6 : Below w2.heap.size w2 w6 := by rw [h6]; exact hE.setCell (p := ⟨gf, k, none⟩) (by simp; omega) _
            have HK6 : Hid (∀ k, B ≤ k → k < S → w6.heap[k]? = wc.heap[k]?) := fun j h1 h2 => by
              rw [h6]
              exact (Below.heap_setCell _ _ _ _ (by simp; omega)).trans (HK.out j h1 h2)
            have HP1 := Lib.hid e3
            clear e1 e2 e3 HB hE HK
            go_wp2_with fail
            rw [← h6]
            go_roundw
            case rel => exact ⟨k + 1, by omega, by go_num, by rw [HP1.out]; go_num, HB6, hE6, HK6⟩
            case measure => simp [intOf]; omega
          · have HB6 : Hid (Blk wr gf (stQ K zs.length (k + 1) 0)) := by
              have h := HB.out
              rw [e1] at h
              show Blk _ _ _
              rw [← stQ_next]; exact h
            rw [e1] at cF
            have HP1 := Lib.hid e2
            obtain ⟨x, hx⟩ : ∃ x : Int, x = (K k : Nat) := ⟨_, rfl⟩
            have hx0 : 0 ≤ x := by omega
            have hx1 : ¬ x < 0 := by omega
            rw [← hx] at cF
            clear e1 e2 HB hx
            go_wp2_with fail
            go_roundw
            case rel => exact ⟨k + 1, by omega, by go_num, by rw [HP1.out], HB6, hE, HK⟩
            case measure => simp [intOf]; omega
    · obtain rfl : v = zs.length := by omega
      rw [HM.out] at hcc
      subst hcc
      obtain ⟨gE, hgE⟩ : ∃ g, g = wr.heap.size + 1 := ⟨_, rfl⟩
      have q0 : gf < gE := by have := HB.out.lt; omega
      have HgE := Lib.hid hgE
      clear hgE
      go_wp2_with (go_at_call 47; refine (HEM.out _).mono ?_; rintro e w6 ⟨rfl, hB6, hb6⟩; rw [← HgE.out] at hB6; have HB6 := Lib.hid hB6; have E6 := Lib.hid (hE.trans (hb6.mono hE.size)); have HF6 := Lib.hid (HB.out.belowAll hb6); have q1 := hB6.lt; clear hB6 hb6)
      obtain ⟨w7, h7⟩ : ∃ x, x = w6.alloc (.cells #[.int .i64 m, .slice (some ⟨gE, 0, none⟩) m m] 28) := ⟨_, rfl⟩
      have HX7 : Hid (w7.heap[w6.heap.size]? = some (.cells #[.int .i64 m, .slice (some ⟨gE, 0, none⟩) m m] 28 (0, 0))) := by show _ = _; rw [h7]; exact World.alloc_heap_new w6 _
      have HB7 : Hid (Blk w7 gE (rowsF m (adjS (fdO zs K 0)))) := by show Blk _ _ _; rw [h7, show adjS (fdO zs K 0) = fun _ _ => false from rfl, rowsF_none]; exact HB6.out.alloc _
      have HF7 : Hid (Blk w7 gf (stQ K zs.length zs.length 0)) := by show Blk _ _ _; rw [h7]; exact HF6.out.alloc _
      have E7 : Below w2.heap.size w2 w7 := by rw [h7]; exact E6.out.alloc E6.out.size _
      have q2 := E6.out.size
      obtain ⟨hB, hhB⟩ : ∃ g, g = w6.heap.size := ⟨_, rfl⟩
      rw [← hhB] at HX7 q1 q2
      rw [← HgE.out]
      rw [← h7]
      rw [← hhB]
      clear b0 b1 HB hE HK HB6 E6 HF6 h7 hhB HgE HRD HIV HNUM HPB HEM hPv
      go_loopw [13, 14] (fun t _ wr => ∃ v : Nat, v ≤ zs.length ∧ t = .int .i64 v ∧ Hid (Blk wr gE (rowsF m (adjS (fdO zs K v)))) ∧ Hid (wr.heap[hB]? = some (.cells #[.int .i64 m, .slice (some ⟨gE, 0, none⟩) m m] 28 (0, 0))) ∧ Hid (Blk wr gf (stQ K zs.length zs.length 0)) ∧ Below w2.heap.size w2 wr) (fun t _ _ => zs.length - (intOf t).toNat)
      case atStart => exact ⟨0, Nat.zero_le _, rfl, HB7, HX7, HF7, E7⟩
      case round =>
        clear HB7 HX7 HF7 E7
        obtain ⟨v, hv, rfl, HB, HX, HF, hE⟩ := hrel
        obtain ⟨b0, b1, -, -⟩ := two_cells ((hE.block w.heap.size (by omega)).trans HG2.out)
        by_cases hlt : v < zs.length
        · have hlti : (v : Int) < zs.length := by omega
          go_wp2_with fail
          obtain ⟨wo, rfl⟩ : ∃ wo : World, wo = wr := ⟨_, rfl⟩
          have HBI : Hid (Blk wo gE (rowsF m (adjS (fdO zs K v ++ fdI zs K v 0)))) := by show Blk _ _ _; rw [show fdO zs K v ++ fdI zs K v 0 = fdO zs K v by simp [fdI]]; exact HB.out
          clear b0 b1 HB
          go_loopw [14] (fun t wr => ∃ k : Nat, k ≤ v ∧ t = .int .i64 k ∧ Hid (Blk wr gE (rowsF m (adjS (fdO zs K v ++ fdI zs K v k)))) ∧ Hid (wr.heap[hB]? = some (.cells #[.int .i64 m, .slice (some ⟨gE, 0, none⟩) m m] 28 (0, 0))) ∧ Hid (Blk wr gf (stQ K zs.length zs.length 0)) ∧ Below w2.heap.size w2 wr) (fun t _ => v - (intOf t).toNat)
          case atStart => exact ⟨0, Nat.zero_le _, rfl, HBI, HX, HF, hE⟩
          case round =>
            clear HBI HX HF hE
            obtain ⟨k, hk, rfl, HB, HX, HF, hE⟩ := hrel
            by_cases hlk : k < v
            · have hlki : (k : Int) < v := by omega
              have hk0 : (0 : Int) ≤ k := by omega
              have hv0 : (0 : Int) ≤ v := by omega
              have hkn : (k : Int) < zs.length := by omega
              obtain ⟨m0, m1, -, -⟩ := two_cells ((hE.block w.heap.size (by omega)).trans HG2.out)
              have hcz := HCZ.out wr (E2.out.trans (hE.mono E2.out.size)) v hlt
              obtain ⟨hz1, hz2⟩ := HROW.out v hlt
              have HSH : Hid ((bits .and .i64 (el zs v / 2 ^ k) 1 == 1) = bt (el zs v) k) := shr_bit _ _ hz1 hz2
              have hwr := wrap_y k (by omega)
              have cV := HF.out.cell (i := v) (by rw [stQ_length]; omega)
              rw [stQ_below hlt hlt] at cV
              have cK := HF.out.cell (i := k) (by rw [stQ_length]; omega)
              rw [stQ_below (by omega) (by omega)] at cK
              have HYES := Lib.hid (@fdI_yes zs K v k)
              have HNO := Lib.hid (@fdI_no zs K v k)
              have hbv := HKM.out v hlt
              have hbk := HKM.out k (by omega)
              have HJ : Hid (∀ W2, Below wr.heap.size wr W2 → Calls Tryd.prog 48 #[.agg #[.int .i64 m, .slice (some ⟨gE, 0, none⟩) m m], .int .i64 (K v : Nat), .int .i64 (K k : Nat)] W2 fun e w' => e = .returned (.agg #[.int .i64 m, .slice (some ⟨gE, 0, none⟩) m m]) ∧ Blk w' gE (rowsF m (adjS ((fdO zs K v ++ fdI zs K v k) ++ [(K v, K k)]))) ∧ W2.grownBy w' (some gE)) := fun W2 h => with_at m gE m _ (K v) (K k) (K v : Nat) (K k : Nat) W2 (HB.out.belowAll h) hbv hbk (by omega) rfl rfl
              have HXW : Hid (∀ W2, Below wr.heap.size wr W2 → W2.heap[hB]? = some (.cells #[.int .i64 m, .slice (some ⟨gE, 0, none⟩) m m] 28 (0, 0))) := fun W2 h => (h.block _ (Array.getElem?_eq_some_iff.1 HX.out).1).trans HX.out
              cases hbt : bt (el zs v) k with
              | false =>
                have HN := Lib.hid (HNO.out (.inl hbt))
                rw [hbt] at HSH
                have hcond := HSH.out
                clear HYES HNO HJ hbv hbk hbt
                generalize el zs v = zv at *
                generalize ((K v : Nat) : Int) = xv at *
                generalize ((K k : Nat) : Int) = xk at *
                go_wp2_with fail
                go_quiet (fail)
                go_wp2_with fail
                go_roundw
                case rel => exact ⟨k + 1, by omega, by go_num, (by show Blk _ _ _; rw [HN.out]; exact HB.out.belowAll (drewN_below (Below.refl _ _) _)), HXW.out _ (drewN_below (Below.refl _ _) _), HF.out.belowAll (drewN_below (Below.refl _ _) _), drewN_below hE _⟩
                case measure => simp [intOf]; omega
              | true =>
                rw [hbt] at HSH
                have hcond := HSH.out
                by_cases hKK : K v = K k
                · have HN := Lib.hid (HNO.out (.inr hKK))
                  have hne : (((K v : Nat) : Int) != ((K k : Nat) : Int)) = false := by rw [hKK]; simp
                  clear HYES HNO HJ hbv hbk hbt hKK
                  generalize el zs v = zv at *
                  generalize ((K v : Nat) : Int) = xv at *
                  generalize ((K k : Nat) : Int) = xk at *
                  go_wp2_with fail
                  go_quiet (fail)
                  go_wp2_with fail
                  go_roundw
                  case rel => exact ⟨k + 1, by omega, by go_num, (by show Blk _ _ _; rw [HN.out]; exact HB.out.belowAll (drewN_below (Below.refl _ _) _)), HXW.out _ (drewN_below (Below.refl _ _) _), HF.out.belowAll (drewN_below (Below.refl _ _) _), drewN_below hE _⟩
                  case measure => simp [intOf]; omega
                · have HN : Hid (fdO zs K v ++ fdI zs K v (k + 1) = (fdO zs K v ++ fdI zs K v k) ++ [(K v, K k)]) := by show _ = _; rw [HYES.out hbt hKK, List.append_assoc]
                  have hne : (((K v : Nat) : Int) != ((K k : Nat) : Int)) = true := by rw [bne_iff_ne]; omega
                  rw [← HN.out] at HJ
                  clear HYES HNO hbv hbk hbt hKK HN
                  generalize el zs v = zv at *
                  generalize ((K v : Nat) : Int) = xv at *
                  generalize ((K k : Nat) : Int) = xk at *
                  go_wp2_with fail
                  go_quiet (fail)
                  obtain ⟨wq, hwq⟩ : ∃ wq, wq = wr.drewN nq := ⟨_, rfl⟩
                  have HQ : Hid (Below wr.heap.size wr wq) := by show Below _ _ _; rw [hwq]; exact drewN_below (Below.refl _ _) _
                  rw [← hwq]
                  clear hwq
                  have HXq := Lib.hid (HXW.out wq HQ.out)
                  have HFq := Lib.hid (HF.out.belowAll HQ.out)
                  have HEq := Lib.hid (hE.trans (HQ.out.mono hE.size))
                  have cVq := (HQ.out.cell (p := ⟨gf, v, none⟩) HF.out.lt).trans cV
                  have cKq := (HQ.out.cell (p := ⟨gf, k, none⟩) HF.out.lt).trans cK
                  obtain ⟨x0, x1, y0, y1⟩ := two_cells HXq.out
                  clear m0 m1 hcz HSH hcond cV cK hz1 hz2 hE HX HF HB HXW
                  go_wp2_with fail
                  go_region_with (go_at_call 48; refine (HJ.out _ (by first | exact HQ.out.drew | exact HQ.out)).mono ?_; rintro e w8 ⟨rfl, hB8, hg8⟩; have HX8 := Lib.hid ((hg8.block hB (Array.getElem?_eq_some_iff.1 HXq.out).1 (fun e => by have := Option.some.inj e; omega)).trans HXq.out); obtain ⟨z0, z1, z2, z3⟩ := two_cells HX8.out)
                  all_goals
                    go_wp2_with fail
                    obtain ⟨w9, h9⟩ : ∃ x, x = (w8.setCell ⟨hB, 0, none⟩ (.int .i64 m)).setCell ⟨hB, 1, none⟩ (.slice (some ⟨gE, 0, none⟩) m m) := ⟨_, rfl⟩
                    have HX9 : Hid (w9.heap[hB]? = some (.cells #[.int .i64 m, .slice (some ⟨gE, 0, none⟩) m m] 28 (0, 0))) := by show _ = _; rw [h9]; exact two_set HX8.out
                    have HB9 : Hid (Blk w9 gE (rowsF m (adjS (fdO zs K v ++ fdI zs K v (k + 1))))) := by show Blk _ _ _; rw [h9]; exact (hB8.other (by simp; omega) _).other (by simp; omega) _
                    have HF8 : Blk w8 gf (stQ K zs.length zs.length 0) := (hg8.block gf HFq.out.lt (fun e => by have := Option.some.inj e; omega)).trans HFq.out
                    have HF9 : Hid (Blk w9 gf (stQ K zs.length zs.length 0)) := by show Blk _ _ _; rw [h9]; exact (HF8.other (by simp; omega) _).other (by simp; omega) _
                    have hE8 : Below w2.heap.size w2 w8 := (HEq.out.drew).grown hg8 HEq.out.size (fun j e => by have := Option.some.inj e; omega)
                    have hE9 : Below w2.heap.size w2 w9 := by rw [h9]; exact (hE8.setCell (p := ⟨hB, 0, none⟩) (by simp; omega) _).setCell (p := ⟨hB, 1, none⟩) (by simp; omega) _
                    rw [← h9]
                    clear h9 HX8 hB8 hg8 HF8 hE8 z0 z1 z2 z3
                    go_roundw
                    case rel => exact ⟨k + 1, by omega, by go_num, HB9, HX9, HF9, hE9⟩
                    case measure => simp [intOf]; omega
            · obtain rfl : k = v := by omega
              have HC1 : Hid (Blk wr gE (rowsF m (adjS (fdO zs K (k + 1))))) := HB.out
              go_wp2_with fail
              go_roundw
              case rel => exact ⟨k + 1, by omega, by go_num, HC1, HX, HF, hE⟩
              case measure => simp [intOf]; omega
        · obtain rfl : v = zs.length := by omega
          have RB := Lib.hid ((hE.block (w.heap.size + 1) (by omega)).trans HR2.out)
          obtain ⟨r0, r1, y0, y1⟩ := two_cells RB.out
          obtain ⟨x0, x1, -, -⟩ := two_cells HX.out
          have HBF : Hid (Blk wr gE RR) := by show Blk _ _ _; rw [← HRW.out]; exact HB.out
          have E1 := Lib.hid (E2.out.trans (hE.mono E2.out.size))
          clear HB hE
          go_wp2_with fail
          have hfin := two_set (a := .int .i64 m) (b := .slice (some ⟨gE, 0, none⟩) m m) RB.out
          refine bodyPost_ret (v := .tuple #[.agg #[.int .i64 m, .slice (some ⟨gE, 0, none⟩) m m], .int .i64 0]) (results_cell2 (p := 2) (u := 3) (ty := 28) rfl _ _ (w.heap.size + 1) 28 _ (0, 0) _ rfl hfin Tryd.underlying28 rfl (by exact info27)) rfl ⟨⟨_, rfl, ?_⟩, ?_⟩
          · have h := Own.of_blk ((HBF.out.other (a := ⟨w.heap.size + 1, 0, none⟩) (by simp; omega) (.int .i64 m)).other (a := ⟨w.heap.size + 1, 1, none⟩) (by simp; omega) (.slice (some ⟨gE, 0, none⟩) m m)) (B := w.heap.size) (by omega) (by rw [HRL.out]; unfold maxLen; omega)
            rw [HRL.out] at h
            exact h
          · exact (E1.out.setCell (p := ⟨w.heap.size + 1, 0, none⟩) (by simp) _).setCell (p := ⟨w.heap.size + 1, 1, none⟩) (by simp) _
end Go.Proofs.YtlodaeoikkjbkaaDoor
namespace Go.Proofs.YtlodaeoikkjbkaaDoor
set_option maxRecDepth 100000
open Go.RowKit

set_option maxHeartbeats 1600000 in
theorem specFd_no (n : Int) (v : Value) (zs : List Int) (w : World) (h : Sl w v zs) (hl : zs.length ≤ 9223372036854775807) (hno : apD n zs = false) :
    Calls Tryd.prog 31 #[.agg #[.int .i64 n, v]] w fun e w' => GRes w.heap.size 0 [] (if cnC n zs = 0 then 5 else cnC n zs) e w' ∧ Below w.heap.size w w' := by
  obtain ⟨W, hW⟩ : ∃ W, W = (w.alloc (.cells #[.int .i64 n, v] 28)).alloc (.cells #[.int .i64 0, .slice none 0 0] 28) := ⟨_, rfl⟩
  have D0 : Below w.heap.size w W := by rw [hW]; exact ((Below.refl _ _).alloc (Nat.le_refl _) _).alloc (by simp) _
  have HR0 : Hid (W.heap[w.heap.size + 1]? = some (.cells #[.int .i64 0, .slice none 0 0] 28 (0, 0))) := by show _ = _; rw [hW]; exact heap_new_at _ _ _ (by simp)
  have HG0 : Hid (W.heap[w.heap.size]? = some (.cells #[.int .i64 n, v] 28 (0, 0))) := by show _ = _; rw [hW]; exact heap_old_at (World.alloc_heap_new w _) _
  have hsz : w.heap.size + 2 ≤ W.heap.size := by rw [hW]; simp
  have hco := l06Code_any n v zs W (h.below D0) hl
  have hcs := cnC_cases n zs
  have HAN : cnC n zs = 0 → Hid (∀ W2, Below w.heap.size w W2 → Calls Tryd.prog 53 #[.agg #[.int .i64 n, v]] W2 fun e w' => e = .returned (.bool false) ∧ Below W2.heap.size W2 w') := fun h0 W2 hW2 => by
    have hg : isG n zs = true := by
      cases hg : isG n zs with
      | true => rfl
      | false => rw [show cnC n zs = 1 by simp [cnC, hg]] at h0; cases h0
    have hcn : connB zs = true := by
      cases hcn : connB zs with
      | true => rfl
      | false => rw [show cnC n zs = 5 by simp [cnC, hg, hcn]] at h0; cases h0
    have hq : anQ zs = false := by simpa [apD, hg, hcn] using hno
    obtain ⟨h1, _, h3, _⟩ := isG_parts hg
    obtain ⟨b, off, cap, rfl, hb, hc⟩ := sl_some h (by omega)
    obtain rfl : (zs.length : Int) = n := h3
    have := antiS_some b off cap zs W2 (Nat.lt_of_lt_of_le hb hW2.size) (hc.below hW2 hb) hg
    rw [hq] at this
    exact this
  have HD0 := Lib.hid D0
  obtain ⟨a0, a1, -, -⟩ := two_cells HG0.out
  obtain ⟨c, hc⟩ : ∃ c, c = cnC n zs := ⟨_, rfl⟩
  rw [← hc] at hco hcs HAN ⊢
  clear h D0 hno hc
  rcases hcs with rfl | rfl | rfl
  · rw [if_pos rfl]
    have HA1 := HAN rfl
    clear HAN
    go_enter Tryd.func31, Tryd.ntmps31
    go_upto_region 1 with fail
    rw [← hW]
    clear hW
    go_wp2_with (go_at_call 52; refine hco.mono ?_; rintro e w1 ⟨rfl, hb1⟩; have E1 : Hid (Below w.heap.size w w1) := HD0.out.trans (hb1.mono HD0.out.size); have HG1 := Lib.hid ((hb1.block w.heap.size (by omega)).trans HG0.out); have HR1 := Lib.hid ((hb1.block (w.heap.size + 1) (by omega)).trans HR0.out); have s1 := hb1.size; obtain ⟨b0, b1, -, -⟩ := two_cells HG1.out; clear hb1)
    refine (HA1.out w1 E1.out).mono ?_
    rintro e w2 ⟨rfl, hb2⟩
    have E2 : Hid (Below w.heap.size w w2) := E1.out.trans (hb2.mono E1.out.size)
    have HR2 := Lib.hid ((hb2.block (w.heap.size + 1) (by omega)).trans HR1.out)
    obtain ⟨r0, r1, y0, y1⟩ := two_cells HR2.out
    clear hb2
    go_wp2_with fail
    have hfin := two_set (a := .int .i64 0) (b := .slice none 0 0) HR2.out
    refine bodyPost_ret (v := .tuple #[.agg #[.int .i64 0, .slice none 0 0], .int .i64 5]) (results_cell2 (p := 2) (u := 3) (ty := 28) rfl _ _ (w.heap.size + 1) 28 _ (0, 0) _ rfl hfin Tryd.underlying28 rfl (by exact info27)) rfl ⟨⟨_, rfl, Own.nil _ _⟩, ?_⟩
    exact (E2.out.setCell (p := ⟨w.heap.size + 1, 0, none⟩) (by simp) _).setCell (p := ⟨w.heap.size + 1, 1, none⟩) (by simp) _
  all_goals
    rw [if_neg (by decide)]
    clear HAN
    go_enter Tryd.func31, Tryd.ntmps31
    go_upto_region 1 with fail
    rw [← hW]
    clear hW
    go_wp2_with (go_at_call 52; refine hco.mono ?_; rintro e w1 ⟨rfl, hb1⟩; have E1 : Hid (Below w.heap.size w w1) := HD0.out.trans (hb1.mono HD0.out.size); have HR1 := Lib.hid ((hb1.block (w.heap.size + 1) (by omega)).trans HR0.out); obtain ⟨r0, r1, y0, y1⟩ := two_cells HR1.out; clear hb1)
    have hfin := two_set (a := .int .i64 0) (b := .slice none 0 0) HR1.out
    refine bodyPost_ret (results_cell2 (p := 2) (u := 3) (ty := 28) rfl _ _ (w.heap.size + 1) 28 _ (0, 0) _ rfl hfin Tryd.underlying28 rfl (by exact info27)) rfl ⟨⟨_, rfl, Own.nil _ _⟩, ?_⟩
    exact (E1.out.setCell (p := ⟨w.heap.size + 1, 0, none⟩) (by simp) _).setCell (p := ⟨w.heap.size + 1, 1, none⟩) (by simp) _

set_option maxHeartbeats 400000 in
theorem specFd_any (n : Int) (v : Value) (zs : List Int) (w : World) (h : Sl w v zs) (hl : zs.length ≤ 9223372036854775807) :
    Calls Tryd.prog 31 #[.agg #[.int .i64 n, v]] w fun e w' => GRes w.heap.size (FdN n zs) (FdL n zs) (FdC n zs) e w' ∧ Below w.heap.size w w' := by
  cases hy : apD n zs with
  | false =>
    have e1 : FdN n zs = 0 := by simp [FdN, hy]
    have e2 : FdL n zs = [] := by simp [FdL, hy]
    have e3 : FdC n zs = if cnC n zs = 0 then 5 else cnC n zs := by simp [FdC, hy]
    rw [e1, e2, e3]
    exact specFd_no n v zs w h hl hy
  | true =>
    have e1 : FdN n zs = fdM zs := by simp [FdN, hy]
    have e2 : FdL n zs = fdR zs := by simp [FdL, hy]
    have e3 : FdC n zs = 0 := by simp [FdC, hy]
    rw [e1, e2, e3]
    obtain ⟨h1, _, h3, _⟩ := isG_parts (apD_parts hy).1
    obtain ⟨b, off, cap, rfl, hb, hc⟩ := sl_some h (by omega)
    obtain rfl : (zs.length : Int) = n := h3
    exact specFd_yes b off cap zs w hb hc hy
end Go.Proofs.YtlodaeoikkjbkaaDoor
