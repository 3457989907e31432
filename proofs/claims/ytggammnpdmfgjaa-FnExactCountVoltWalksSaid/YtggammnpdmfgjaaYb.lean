/-
  spec.CountVoltWalks. (A plain seat of bases.)
-/
import Derived.Test.YtggammnpdmfgjaaYa
namespace Go.Proofs.Ytggammnpdmfgjaa
open Go.RowKit

theorem intsA_set (L : List Int) (j : Nat) (z : Int) : (intsA L).setIfInBounds j (.int .i64 z) = intsA (L.set j z) := by
  unfold intsA
  rw [List.map_set, List.setIfInBounds_toArray]

set_option maxRecDepth 100000 in
set_option maxHeartbeats 6400000 in
theorem specCv_yes (n m k cap K s : Nat) (sa : Option Addr) (fs : List Int) (w : World) (hs : Sa w (.slice sa k cap) k fs) (hg : isB n m k fs = true) (hav : AvOk n m k fs) (h1 : 1 ≤ n ∧ n ≤ 10 ∧ 1 ≤ m ∧ m ≤ 62 ∧ n * m ≤ 62 ∧ k ≤ 16) (hK : K ≤ 14) (hsm : s < m) :
    Calls Try.prog 20 #[.agg #[.int .i64 n, .int .i64 m, .slice sa k cap], .int .i64 K, .int .i64 s] w fun e w' => e = .returned (.tuple #[.int .i64 (wkV m fs k K s n), .int .i64 0]) ∧ Below w.heap.size w w' := by
  obtain ⟨n1, n2, m1, m2, nm, k16⟩ := h1
  have D0 : Below w.heap.size w (w.alloc (.cells #[.int .i64 n, .int .i64 m, .slice sa k cap] 33)) := (Below.refl _ _).alloc (Nat.le_refl _) _
  have his := l03Is_any n m (.slice sa k cap) k fs (w.alloc (.cells #[.int .i64 n, .int .i64 m, .slice sa k cap] 33)) (hs.below D0) (by omega)
  rw [hg] at his
  have HG0 := Lib.hid (World.alloc_heap_new w (.cells #[.int .i64 n, .int .i64 m, .slice sa k cap] 33))
  obtain ⟨W0, hW0⟩ : ∃ W0, W0 = w.alloc (.cells #[.int .i64 n, .int .i64 m, .slice sa k cap] 33) := ⟨_, rfl⟩
  have sz0 : w.heap.size + 1 ≤ W0.heap.size := by rw [hW0]; simp
  rw [← hW0] at HG0 D0 his
  have HIS := Lib.hid his
  have HST : Hid (∀ (W1 : World) (x : Nat), Below w.heap.size w W1 → x < 2 * k → Calls Try.prog 42 #[.agg #[.int .i64 n, .int .i64 m, .slice sa k cap], .int .i64 x] W1 fun e w' => e = .returned (.tuple #[.int .i64 (stA m fs x 0), .int .i64 (stA m fs x 1), .int .i64 (stA m fs x 2)]) ∧ Below W1.heap.size W1 w') := fun W1 x h hx =>
    l03Step_any n m k cap x sa fs W1 (hs.below h) hav ⟨n2, m2, k16⟩ hx
  have HAV := Lib.hid hav
  obtain ⟨NM, hNM⟩ : ∃ NM, NM = n * m := ⟨_, rfl⟩
  have eNM : (n : Int) * (m : Int) = (NM : Int) := by rw [hNM]; push_cast; rfl
  rw [← hNM] at nm
  have HNM := Lib.hid hNM
  have wNM : IntKind.i64.wrap (NM : Int) = (NM : Int) := IntWalk.i64_in _ (by omega)
  have hmk : ∀ W : World, (Instr.makeSlice 26 (.int .i64 NM) (.int .i64 NM)).run Try.prog W = .ok (.slice (some ⟨W.heap.size, 0, none⟩) NM NM) (W.alloc (.cells (intsA (fL (fun _ => 0) NM)) 2)) := fun W => by rw [fL_zero]; exact run_mkInts NM (by omega) W
  obtain ⟨R, hR⟩ : ∃ R, R = wkV m fs k K s := ⟨_, rfl⟩
  have HR := Lib.hid hR
  rw [← hR]
  have l1 : (decide ((0 : Int) ≤ (K : Int)) && decide ((K : Int) ≤ 14)) = true := by simp; omega
  have l2 : (decide ((0 : Int) ≤ (s : Int)) && decide ((s : Int) ≤ (m : Int) - 1)) = true := by simp; omega
  have wm1 : IntKind.i64.wrap ((m : Int) - 1) = (m : Int) - 1 := IntWalk.i64_in _ (by omega)
  have HI1 := Lib.hid fun W : World => in_val (K : Int) 0 14 W true l1
  have HI2 := Lib.hid fun W : World => in_val (s : Int) 0 ((m : Int) - 1) W true l2
  obtain ⟨⟨b0, b1, b2⟩, -⟩ := three_cells HG0.out
  clear hs hg hav his hNM hR l1 l2
  go_enter Try.func20, Try.ntmps20
  go_upto_region 1 with fail
  rw [← hW0]
  clear hW0
  go_wp2_with fail
  refine HIS.out.mono ?_
  rintro e w1 ⟨rfl, hb1⟩
  have HB1 := Lib.hid ((hb1.block w.heap.size (by omega)).trans HG0.out)
  have E1 := D0.trans (hb1.mono (by omega))
  have s1 := hb1.size
  clear HIS hb1 HG0 b0 b1 b2
  obtain ⟨⟨b0, b1, b2⟩, -⟩ := three_cells HB1.out
  go_wp2_with fail
  refine (HI1.out w1).mono ?_
  rintro e w1' ⟨rfl, rfl⟩
  go_wp2_with fail
  refine (HI2.out w1).mono ?_
  rintro e w1' ⟨rfl, rfl⟩
  clear HI1 HI2 wm1
  go_wp2_with fail
  go_quiet (fail)
  generalize hwd' : w1.drewN _ = wd
  have hwd := hwd'.symm
  clear hwd'
  have HBd : Hid (wd.heap[w.heap.size]? = some (.cells #[.int .i64 n, .int .i64 m, .slice sa k cap] 33 (0, 0))) := by rw [hwd]; exact HB1.out
  have hEd : Below w.heap.size w wd := by rw [hwd]; exact drewN_below E1 _
  have wk : IntKind.i64.wrap (2 * (k : Int)) = ((2 * k : Nat) : Int) := by rw [IntWalk.i64_in _ (by omega)]; push_cast; rfl
  obtain ⟨K2, hK2⟩ : ∃ K2, K2 = 2 * k := ⟨_, rfl⟩
  rw [← hK2] at wk HST
  have HK2 := Lib.hid hK2
  have K232 : K2 ≤ 32 := by omega
  clear hwd b0 b1 b2 HB1 E1 s1 hK2
  go_wp2_with fail
  go_loopw [8, 10] (fun tv iv wr => ∃ v : Nat, v ≤ n ∧ iv = .int .i64 v ∧ tv = .int .i64 (wkV m fs k K s v) ∧ Below w.heap.size w wr ∧ Hid (wr.heap[w.heap.size]? = some (.cells #[.int .i64 n, .int .i64 m, .slice sa k cap] 33 (0, 0)))) (fun _ i _ => n - (intOf i).toNat)
  case atStart => exact ⟨0, Nat.zero_le _, rfl, rfl, hEd, HBd⟩
  case round =>
    clear HBd hEd
    obtain ⟨v, hvn, rfl, rfl, hE, HB⟩ := hrel
    obtain ⟨⟨b0, b1, b2⟩, -⟩ := three_cells HB.out
    have hsz : w.heap.size + 1 ≤ wr.heap.size := (Array.getElem?_eq_some_iff.1 HB.out).1
    by_cases hlv : v < n
    · have hlvi : (v : Int) < n := by omega
      have hlm := mul_in hlv (show s < m by omega)
      have hl0 := mul_in hlv (show 0 < m by omega)
      rw [← HNM.out] at hlm hl0
      obtain ⟨T, hT⟩ : ∃ T, T = wkV m fs k K s v := ⟨_, rfl⟩
      have HTN : Hid (wkV m fs k K s (v + 1) = IntKind.i64.wrap (T + wkT m fs k (v * m) K (v * m + s))) := by show _ = _; rw [hT]; rfl
      rw [← hT]
      obtain ⟨q, hq⟩ : ∃ q, q = v * m := ⟨_, rfl⟩
      have eq : (v : Int) * (m : Int) = (q : Int) := by rw [hq]; push_cast; rfl
      rw [← hq] at hlm hl0 HTN
      have g1 : IntKind.i64.wrap (q : Int) = (q : Int) := IntWalk.i64_in _ (by omega)
      have g2 : IntKind.i64.wrap ((q : Int) + (s : Int)) = (q : Int) + (s : Int) := IntWalk.i64_in _ (by omega)
      have g3 : IntKind.i64.wrap ((v : Int) + 1) = (v : Int) + 1 := IntWalk.i64_in _ (by omega)
      have q0 : (0 : Int) ≤ (q : Int) := by omega
      have q1 : (q : Int) < (NM : Int) := by omega
      have q2 : (q : Int) + (s : Int) < (NM : Int) := by omega
      have q3 : (0 : Int) ≤ (q : Int) + (s : Int) := by omega
      have zz := (Blk.new wr (fL (fun _ => 0) NM)).cell (i := q) (by rw [fL_length]; omega)
      have fz := (Blk.new wr (fL (fun _ => 0) NM)).frozen q
      rw [fL_el _ (by omega)] at zz
      clear hT hq
      go_upto_region 11 with fail
      obtain ⟨wa, ha⟩ : ∃ wa, wa = wr.alloc (.cells ((intsA (fL (fun _ => 0) NM)).setIfInBounds q (.int .i64 1)) 2) := ⟨_, rfl⟩
      have HBa : Hid (wa.heap[w.heap.size]? = some (.cells #[.int .i64 n, .int .i64 m, .slice sa k cap] 33 (0, 0))) := by show _ = _; rw [ha]; exact heap_old_at HB.out _
      have hEa : Below w.heap.size w wa := by rw [ha]; exact hE.alloc (by omega) _
      obtain ⟨G, hG⟩ : ∃ G, G = wr.heap.size := ⟨_, rfl⟩
      have HNa : Hid (Blk wa G (fL (wkT m fs k q 0) NM)) := by
        show Blk _ _ _
        rw [ha, hG]
        rw [intsA_set, fL_set]
        exact Blk.new wr _
      rw [← ha, ← hG]
      rw [← hG] at hsz
      clear ha hG b0 b1 b2 zz fz hE HB
      go_wp2_with fail
      go_loopw [11, 12] (fun sv tv wr => ∃ t g : Nat, t ≤ K ∧ tv = .int .i64 t ∧ sv = .slice (some ⟨g, 0, none⟩) NM NM ∧ Hid (Blk wr g (fL (wkT m fs k q t) NM)) ∧ Below w.heap.size w wr ∧ Hid (wr.heap[w.heap.size]? = some (.cells #[.int .i64 n, .int .i64 m, .slice sa k cap] 33 (0, 0))) ∧ w.heap.size + 1 ≤ g) (fun _ i _ => K - (intOf i).toNat)
      case atStart => exact ⟨0, G, Nat.zero_le _, rfl, rfl, HNa, hEa, HBa, hsz⟩
      case round =>
        clear HNa hEa HBa hsz
        obtain ⟨t, G, htK, rfl, rfl, HN, hE, HB, hG⟩ := hrel
        obtain ⟨⟨b0, b1, b2⟩, -⟩ := three_cells HB.out
        have hGl := HN.out.lt
        by_cases hlt : t < K
        · have hlti : (t : Int) < K := by omega
          have g4 : IntKind.i64.wrap ((t : Int) + 1) = (t : Int) + 1 := IntWalk.i64_in _ (by omega)
          obtain ⟨cur, hcur⟩ : ∃ cur, cur = wkT m fs k q t := ⟨_, rfl⟩
          have HCU : Hid (wkT m fs k q (t + 1) = nxS m fs cur K2) := by show _ = _; rw [hcur, HK2.out]; rfl
          rw [← hcur] at HN
          clear hcur
          go_upto_region 15 with fail
          obtain ⟨wb, hwb⟩ : ∃ wb, wb = wr.alloc (.cells (intsA (fL (fun _ => 0) NM)) 2) := ⟨_, rfl⟩
          obtain ⟨X, hX⟩ : ∃ X, X = wr.heap.size := ⟨_, rfl⟩
          have HXb : Hid (Blk wb X (fL (nxS m fs cur 0) NM)) := by show Blk _ _ _; rw [hwb, hX]; exact Blk.new wr _
          have HNb : Hid (Blk wb G (fL cur NM)) := by show Blk _ _ _; rw [hwb]; exact HN.out.alloc _
          have HBb : Hid (wb.heap[w.heap.size]? = some (.cells #[.int .i64 n, .int .i64 m, .slice sa k cap] 33 (0, 0))) := by show _ = _; rw [hwb]; exact heap_old_at HB.out _
          have hEb : Below w.heap.size w wb := by rw [hwb]; exact hE.alloc (by omega) _
          rw [← hX] at hGl
          rw [← hwb, ← hX]
          have hXw : w.heap.size + 1 ≤ X := by omega
          clear hwb hX b0 b1 b2 HN hE HB
          go_wp2_with fail
          go_loopw [14] (fun sv wr => ∃ x : Nat, x ≤ K2 ∧ sv = .int .i64 x ∧ Hid (Blk wr X (fL (nxS m fs cur x) NM)) ∧ Hid (Blk wr G (fL cur NM)) ∧ Below w.heap.size w wr ∧ Hid (wr.heap[w.heap.size]? = some (.cells #[.int .i64 n, .int .i64 m, .slice sa k cap] 33 (0, 0)))) (fun i _ => K2 - (intOf i).toNat)
          case atStart => exact ⟨0, Nat.zero_le _, rfl, HXb, HNb, hEb, HBb⟩
          case round =>
            clear HXb HNb hEb HBb
            obtain ⟨x, hxK, rfl, HX, HN, hE, HB⟩ := hrel
            obtain ⟨⟨b0, b1, b2⟩, -⟩ := three_cells HB.out
            by_cases hlx : x < K2
            · have hlxi : (x : Int) < (K2 : Int) := by omega
              have g5 : IntKind.i64.wrap ((x : Int) + 1) = (x : Int) + 1 := IntWalk.i64_in _ (by omega)
              have hst := HST.out wr x hE hlx
              obtain ⟨nx, hnx⟩ : ∃ nx, nx = nxS m fs cur x := ⟨_, rfl⟩
              obtain ⟨f0, t0, c0⟩ := stA_lt HAV.out (show x < 2 * k by have := HK2.out; omega)
              obtain ⟨f, hf⟩ : ∃ f, f = stA m fs x 0 := ⟨_, rfl⟩
              obtain ⟨u, hu⟩ : ∃ u, u = stA m fs x 1 := ⟨_, rfl⟩
              obtain ⟨c, hc⟩ : ∃ c, c = stA m fs x 2 := ⟨_, rfl⟩
              have HNX : Hid (nxS m fs cur (x + 1) = nxI m f u c cur nx m) := by show _ = _; rw [hnx, hf, hu, hc]; rfl
              rw [← hf, ← hu, ← hc] at hst
              rw [← hf] at f0
              rw [← hu] at t0
              rw [← hc] at c0
              rw [← hnx] at HX
              have HST2 := Lib.hid hst
              clear hf hu hc hnx hst
              go_wp2_with fail
              refine HST2.out.mono ?_
              rintro e w5 ⟨rfl, hb5⟩
              have HX5 : Hid (Blk w5 X (fL (nxI m f u c cur nx 0) NM)) := HX.out.belowAll hb5
              have HN5 : Hid (Blk w5 G (fL cur NM)) := HN.out.belowAll hb5
              have hE5 := hE.trans (hb5.mono hE.size)
              have HB5 := Lib.hid ((hb5.block w.heap.size (Array.getElem?_eq_some_iff.1 HB.out).1).trans HB.out)
              clear HST2 hb5 b0 b1 b2 HX HN hE HB
              obtain ⟨⟨b0, b1, b2⟩, -⟩ := three_cells HB5.out
              go_wp2_with fail
              go_loopw [18] (fun iv wr => ∃ i : Nat, i ≤ m ∧ iv = .int .i64 i ∧ Hid (Blk wr X (fL (nxI m f u c cur nx i) NM)) ∧ Hid (Blk wr G (fL cur NM)) ∧ Below w.heap.size w wr ∧ Hid (wr.heap[w.heap.size]? = some (.cells #[.int .i64 n, .int .i64 m, .slice sa k cap] 33 (0, 0)))) (fun i _ => m - (intOf i).toNat)
              case atStart => exact ⟨0, Nat.zero_le _, rfl, HX5, HN5, hE5, HB5⟩
              case round =>
                clear HX5 HN5 hE5 HB5 b0 b1 b2
                obtain ⟨i, him, rfl, HX, HN, hE, HB⟩ := hrel
                by_cases hli : i < m
                · have hlii : (i : Int) < m := by omega
                  have g6 : IntKind.i64.wrap ((i : Int) + 1) = (i : Int) + 1 := IntWalk.i64_in _ (by omega)
                  obtain ⟨r, hr⟩ : ∃ r, r = (i + c) % m := ⟨_, rfl⟩
                  have rb : r < m := by rw [hr]; exact Nat.mod_lt _ (by omega)
                  have tm : Int.tmod ((i : Int) + (c : Int)) (m : Int) = (r : Int) := by rw [hr]; push_cast; rfl
                  have p1 := mul_in t0 rb
                  have p2 := mul_in f0 hli
                  rw [← HNM.out] at p1 p2
                  obtain ⟨qu, hqu⟩ : ∃ qu, qu = u * m := ⟨_, rfl⟩
                  obtain ⟨qf, hqf⟩ : ∃ qf, qf = f * m := ⟨_, rfl⟩
                  have eu : (u : Int) * (m : Int) = (qu : Int) := by rw [hqu]; push_cast; rfl
                  have ef : (f : Int) * (m : Int) = (qf : Int) := by rw [hqf]; push_cast; rfl
                  rw [← hqu] at p1
                  rw [← hqf] at p2
                  obtain ⟨at', hat⟩ : ∃ at', at' = qu + r := ⟨_, rfl⟩
                  obtain ⟨fr, hfr⟩ : ∃ fr, fr = qf + i := ⟨_, rfl⟩
                  have ea : (qu : Int) + (r : Int) = (at' : Int) := by omega
                  have er : (qf : Int) + (i : Int) = (fr : Int) := by omega
                  have k1 : IntKind.i64.wrap (qu : Int) = (qu : Int) := IntWalk.i64_in _ (by omega)
                  have k2 : IntKind.i64.wrap (qf : Int) = (qf : Int) := IntWalk.i64_in _ (by omega)
                  have k3 : IntKind.i64.wrap ((i : Int) + (c : Int)) = (i : Int) + (c : Int) := IntWalk.i64_in _ (by omega)
                  have k4 : IntKind.i64.wrap (r : Int) = (r : Int) := IntWalk.i64_in _ (by omega)
                  have k5 : IntKind.i64.wrap (at' : Int) = (at' : Int) := IntWalk.i64_in _ (by omega)
                  have k6 : IntKind.i64.wrap (fr : Int) = (fr : Int) := IntWalk.i64_in _ (by omega)
                  have hm0 : ¬ m = 0 := by omega
                  have a1 : (at' : Int) < (NM : Int) := by omega
                  have a2 : (fr : Int) < (NM : Int) := by omega
                  have a3 : (0 : Int) ≤ (at' : Int) := by omega
                  have a4 : (0 : Int) ≤ (fr : Int) := by omega
                  obtain ⟨An, hAn⟩ : ∃ An, An = nxI m f u c cur nx i := ⟨_, rfl⟩
                  have HNI : Hid (nxI m f u c cur nx (i + 1) = upF An at' (IntKind.i64.wrap (An at' + cur fr))) := by show _ = _; rw [hAn, hat, hfr, hqu, hqf, hr]; rfl
                  rw [← hAn] at HX
                  have z0 := HX.out.cell (i := at') (by rw [fL_length]; omega)
                  have z1 := HN.out.cell (i := fr) (by rw [fL_length]; omega)
                  have y0 := HX.out.frozen at'
                  rw [fL_el _ (by omega)] at z0 z1
                  obtain ⟨c0', hc0⟩ : ∃ z, z = An at' := ⟨_, rfl⟩
                  obtain ⟨c1', hc1⟩ : ∃ z, z = cur fr := ⟨_, rfl⟩
                  rw [← hc0] at z0 HNI
                  rw [← hc1] at z1 HNI
                  obtain ⟨zz, hzz⟩ : ∃ zz, zz = IntKind.i64.wrap (c0' + c1') := ⟨_, rfl⟩
                  have hzz' : IntKind.i64.wrap (c0' + c1') = zz := hzz.symm
                  rw [← hzz] at HNI
                  clear hr hqu hqf hat hfr hAn hc0 hc1 hzz
                  go_wp2_with fail
                  go_region
                  obtain ⟨w6, h6⟩ : ∃ w6, w6 = (wr.setCell ⟨X, at', none⟩ (.int .i64 zz)).drew := ⟨_, rfl⟩
                  have HX6 : Hid (Blk w6 X (fL (nxI m f u c cur nx (i + 1)) NM)) := by
                    show Blk _ _ _
                    rw [h6, HNI.out, ← fL_set]
                    exact HX.out.set at' zz
                  have HN6 : Hid (Blk w6 G (fL cur NM)) := by
                    show Blk _ _ _
                    rw [h6]
                    exact HN.out.other (a := ⟨X, at', none⟩) (by simp; omega) _
                  have hE6 : Below w.heap.size w w6 := by rw [h6]; exact (hE.setCell (p := ⟨X, at', none⟩) (by simp; omega) _).drew
                  have HB6 : Hid (w6.heap[w.heap.size]? = some (.cells #[.int .i64 n, .int .i64 m, .slice sa k cap] 33 (0, 0))) := by show _ = _; rw [h6]; exact (Below.heap_setCell wr ⟨X, at', none⟩ _ _ (by simp; omega)).trans HB.out
                  rw [← h6]
                  clear h6 z0 z1 y0 HX HN hE HB
                  go_wp2_with fail
                  first
                    | exact ⟨⟨i + 1, by omega, by push_cast; rfl, HX6, HN6, hE6, HB6⟩, by simp [intOf]; omega⟩
                    | (go_roundw
                       case rel => exact ⟨i + 1, by omega, by go_num, HX6, HN6, hE6, HB6⟩
                       case measure => simp [intOf]; omega)
                · obtain rfl : i = m := by omega
                  have HX2 : Hid (Blk wr X (fL (nxS i fs cur (x + 1)) NM)) := by show Blk _ _ _; rw [HNX.out]; exact HX.out
                  go_wp2_with fail
                  exact ⟨⟨x + 1, by omega, by push_cast; rfl, HX2, HN, hE, HB⟩, by simp [intOf]; omega⟩
            · obtain rfl : x = K2 := by omega
              have HX2 : Hid (Blk wr X (fL (wkT m fs k q (t + 1)) NM)) := by show Blk _ _ _; rw [HCU.out]; exact HX.out
              go_wp2_with fail
              exact ⟨⟨t + 1, X, by omega, by push_cast; rfl, rfl, HX2, hE, HB, by omega⟩, by simp [intOf]; omega⟩
        · obtain rfl : t = K := by omega
          have z0 := HN.out.cell (i := q + s) (by rw [fL_length]; omega)
          rw [fL_el _ (by omega)] at z0
          obtain ⟨zq, hzq⟩ : ∃ z, z = wkT m fs k q t (q + s) := ⟨_, rfl⟩
          rw [← hzq] at z0 HTN
          obtain ⟨TT, hTT⟩ : ∃ TT, TT = IntKind.i64.wrap (T + zq) := ⟨_, rfl⟩
          have hTT' : IntKind.i64.wrap (T + zq) = TT := hTT.symm
          rw [← hTT] at HTN
          clear hzq hTT
          go_wp2_with fail
          refine ⟨⟨v + 1, by omega, by push_cast; rfl, ?_, hE, HB⟩, by simp [intOf]; omega⟩
          rw [HTN.out]
    · obtain rfl : v = n := by omega
      go_wp2_with fail
      go_ret2
      rw [HR.out]
      exact ⟨rfl, hE⟩
end Go.Proofs.Ytggammnpdmfgjaa
