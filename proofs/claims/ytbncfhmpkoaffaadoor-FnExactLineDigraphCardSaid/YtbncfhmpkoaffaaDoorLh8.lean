/-
  LineDigraph: the program.
-/
import Derived.Test.YtbncfhmpkoaffaaDoorLg8
namespace Go.Proofs.YtbncfhmpkoaffaaDoor
set_option maxRecDepth 100000
set_option maxRecDepth 100000
open Go.RowKit

set_option maxHeartbeats 1600000 in
theorem dwa_some (m : Nat) (hm : m ≤ 62) (w : World) :
    Calls Tryd.prog 50 #[.int .i64 m] w fun e w' => (∃ g, e = .returned (.agg #[.int .i64 m, .slice (some ⟨g, 0, none⟩) m m]) ∧ Blk w' g (List.replicate m 0) ∧ w.heap.size ≤ g) ∧ Below w.heap.size w w' := by
  obtain ⟨W, hW⟩ : ∃ W, W = w.alloc (.cells #[.int .i64 0, .slice none 0 0] 29) := ⟨_, rfl⟩
  have D0 : Below w.heap.size w W := by rw [hW]; exact (Below.refl _ _).alloc (Nat.le_refl _) _
  have hsz : W.heap.size = w.heap.size + 1 := by rw [hW]; simp
  have HR : Hid (W.heap[w.heap.size]? = some (.cells #[.int .i64 0, .slice none 0 0] 29 (0, 0))) := by show _ = _; rw [hW]; exact World.alloc_heap_new w _
  have hmk := run_mkInts m (by omega)
  obtain ⟨r0, r1, g0, g1⟩ := two_cells HR.out
  have hnw : ¬ w.heap.size = W.heap.size := by omega
  have HE := Lib.hid D0
  have HS := Lib.hid hsz
  clear D0
  go_enter Tryd.func50, Tryd.ntmps50
  go_upto_region 1 with fail
  rw [← hW]
  clear hW
  go_wp2_with fail
  have hfin := two_set (a := .int .i64 (m : Int)) (b := .slice (some ⟨w.heap.size + 1, 0, none⟩) m m) HR.out
  obtain ⟨W4, hW4⟩ : ∃ W4, W4 = (W.setCell ⟨w.heap.size, 0, none⟩ (.int .i64 (m : Int))).setCell ⟨w.heap.size, 1, none⟩ (.slice (some ⟨w.heap.size + 1, 0, none⟩) m m) := ⟨_, rfl⟩
  have hs4 : W4.heap.size = w.heap.size + 1 := by rw [hW4]; simp; exact HS.out
  have hE4 : Below w.heap.size w W4 := by rw [hW4]; exact (HE.out.setCell (p := ⟨w.heap.size, 0, none⟩) (by simp) _).setCell (p := ⟨w.heap.size, 1, none⟩) (by simp) _
  rw [← hW4] at hfin
  rw [← hW4]
  refine bodyPost_ret (v := .agg #[.int .i64 (m : Int), .slice (some ⟨w.heap.size + 1, 0, none⟩) m m]) (results_cell_row (p := 2) (ty := 29) rfl _ _ w.heap.size 29 _ (0, 0) _ rfl (heap_old_at hfin _) Tryd.underlying29 rfl (by exact infoDg)) rfl ⟨⟨w.heap.size + 1, rfl, ?_, by omega⟩, ?_⟩
  · have h := Blk.new W4 (List.replicate m 0)
    rw [hs4] at h
    exact h
  · exact hE4.alloc hE4.size _

theorem ar_row2 {w : World} {b off : Nat} {P : List (Nat × Nat)} (h : Rows w b off (P.map prI)) {i : Nat} (hi : i < P.length) :
    ∃ g o c, w.cell? ⟨b, off + i, none⟩ = some (.slice (some ⟨g, o, none⟩) 2 c) ∧ g < w.heap.size ∧ w.cell? ⟨g, o, none⟩ = some (.int .i64 (prA P i).1) ∧ w.cell? ⟨g, o + 1, none⟩ = some (.int .i64 (prA P i).2) := by
  obtain ⟨p, c, h1, h2⟩ := h i (by rw [List.length_map]; exact hi)
  have e : elS (P.map prI) i = [((prA P i).1 : Int), ((prA P i).2 : Int)] := by
    unfold elS prA prI
    rw [List.getD_eq_getElem?_getD, List.getD_eq_getElem?_getD, List.getElem?_map, List.getElem?_eq_getElem hi]; rfl
  rw [e] at h1 h2
  rcases h2 with ⟨a, c', h3, h4⟩ | ⟨g, o, c', h3, h4, h5⟩
  · cases h4
  · cases h3
    refine ⟨g, o, c, h1, h4, ?_, ?_⟩
    · have := h5 0 (by simp); rw [Nat.add_zero] at this; exact this
    · exact h5 1 (by simp)

set_option maxHeartbeats 1600000 in
theorem implLd_no (n : Int) (v : Value) (zs : List Int) (w : World) (hs : Sl w v zs) (hl : zs.length ≤ 9223372036854775807) (hT : TabE w) (hd : isD n zs = false) :
    Calls Tryd.prog 22 #[.agg #[.int .i64 n, v]] w fun e w' => GRes w.heap.size 0 [] 1 e w' ∧ Below w.heap.size w w' := by
  obtain ⟨W, hW⟩ : ∃ W, W = (w.alloc (.cells #[.int .i64 n, v] 29)).alloc (.cells #[.int .i64 0, .slice none 0 0] 29) := ⟨_, rfl⟩
  have D0 : Below w.heap.size w W := by rw [hW]; exact ((Below.refl _ _).alloc (Nat.le_refl _) _).alloc (by simp) _
  have his := implAo_any n v zs W (hs.below D0) hl (hT.belowAll D0)
  unfold AoL dC at his
  rw [hd, if_neg (by simp), if_neg (by simp)] at his
  have HR : Hid (W.heap[w.heap.size + 1]? = some (.cells #[.int .i64 0, .slice none 0 0] 29 (0, 0))) := by show _ = _; rw [hW]; exact heap_new_at _ _ _ (by simp)
  have HD := Lib.hid D0
  clear hs hd D0 hT
  go_enter Tryd.func22, Tryd.ntmps22
  go_wp2_with (go_at_call 15; rw [← hW]; refine his.mono ?_; rintro e w1 ⟨⟨u, rfl, hTL⟩, hb1⟩; obtain ⟨pa, pc, rfl⟩ := ss_slice hTL.ts.ss; have HR1 := Lib.hid ((hb1.block (w.heap.size + 1) (Array.getElem?_eq_some_iff.1 HR.out).1).trans HR.out); have HB1 := Lib.hid (HD.out.trans (hb1.mono HD.out.size)); obtain ⟨r0, r1, g0, g1⟩ := two_cells HR1.out; clear hb1)
  have hfin := two_set (a := .int .i64 0) (b := .slice none 0 0) HR1.out
  refine bodyPost_ret (v := .tuple #[.agg #[.int .i64 0, .slice none 0 0], .int .i64 1]) (results_cell2 (p := 2) (u := 3) (ty := 29) rfl _ _ (w.heap.size + 1) 29 _ (0, 0) _ rfl hfin Tryd.underlying29 rfl (by exact infoDg)) rfl ⟨⟨_, rfl, Own.nil _ _⟩, ?_⟩
  exact (HB1.out.setCell (p := ⟨w.heap.size + 1, 0, none⟩) (by simp) _).setCell (p := ⟨w.heap.size + 1, 1, none⟩) (by simp) _

set_option maxHeartbeats 6400000 in
theorem implLd_yes (n : Int) (b off cap : Nat) (zs : List Int) (w : World) (hb : b < w.heap.size) (hc : Cells w b off zs) (hl : zs.length ≤ 9223372036854775807) (hT : TabE w) (hd : isD n zs = true) (P : List (Nat × Nat)) (hP : P = acP zs zs.length) (N : Int) (D : List Int) (C : Int) (HA : Hid (N = lnN n zs ∧ D = lnD n zs ∧ C = lnC n zs)) :
    Calls Tryd.prog 22 #[.agg #[.int .i64 n, .slice (some ⟨b, off, none⟩) zs.length cap]] w fun e w' => GRes w.heap.size N D C e w' ∧ Below w.heap.size w w' := by
  obtain ⟨W, hW⟩ : ∃ W, W = (w.alloc (.cells #[.int .i64 n, .slice (some ⟨b, off, none⟩) zs.length cap] 29)).alloc (.cells #[.int .i64 0, .slice none 0 0] 29) := ⟨_, rfl⟩
  have D0 : Below w.heap.size w W := by rw [hW]; exact ((Below.refl _ _).alloc (Nat.le_refl _) _).alloc (by simp) _
  have hg := dg_ok hd
  obtain rfl : n = (zs.length : Int) := hg.size.symm
  have HR : Hid (W.heap[w.heap.size + 1]? = some (.cells #[.int .i64 0, .slice none 0 0] 29 (0, 0))) := by show _ = _; rw [hW]; exact heap_new_at _ _ _ (by simp)
  have HD := Lib.hid D0
  have HS : Hid (W.heap.size = w.heap.size + 2) := by show _ = _; rw [hW]; simp
  have hPL : P.length ≤ 4000 := by rw [hP]; have := acP_len zs zs.length; have := hg.le; omega
  have harc := implAo_any (zs.length : Int) _ zs W (.inr ⟨b, off, cap, rfl, Nat.lt_of_lt_of_le hb D0.size, hc.below D0 hb⟩) hl (hT.belowAll D0)
  unfold AoL dC ArLL at harc
  rw [hd, if_pos rfl, if_pos rfl, ← hP] at harc
  have HP := Lib.hid hP
  have HDD := Lib.hid hd
  clear hc hd D0 hg hP hT
  go_enter Tryd.func22, Tryd.ntmps22
  go_upto_region 4 with (go_at_call 15; rw [← hW]; refine harc.mono ?_; rintro e w2 ⟨⟨u, rfl, hT⟩, hb2⟩; obtain ⟨pa, pc, hu⟩ := ss_slice hT.ts.ss; rw [List.length_map] at hu; subst hu; have HT := Lib.hid hT; have HB2 := Lib.hid hb2; have HR2 := Lib.hid ((HB2.out.block (w.heap.size + 1) (Array.getElem?_eq_some_iff.1 HR.out).1).trans HR.out); clear hT hb2)
  have HE2 := Lib.hid (HD.out.trans (HB2.out.mono HD.out.size))
  have hws : w.heap.size + 2 ≤ w2.heap.size := by have h1 := HS.out; have h2 := HB2.out.size; omega
  clear hW harc
  by_cases h0 : P.length = 0
  · obtain ⟨r0, r1, g0, g1⟩ := two_cells HR2.out
    have t0 : ((P.length : Int) == 0) = true := by rw [h0]; rfl
    have hN : N = 0 := by rw [HA.out.1]; exact (lnOk_zero HDD.out (by rw [← HP.out]; exact h0)).1
    have hD : D = [] := by rw [HA.out.2.1]; exact (lnOk_zero HDD.out (by rw [← HP.out]; exact h0)).2.1
    have hC : C = 5 := by rw [HA.out.2.2]; exact (lnOk_zero HDD.out (by rw [← HP.out]; exact h0)).2.2
    clear HA
    subst hN hD hC
    go_wp2_with fail
    have hfin := two_set (a := .int .i64 0) (b := .slice none 0 0) HR2.out
    refine bodyPost_ret (v := .tuple #[.agg #[.int .i64 0, .slice none 0 0], .int .i64 5]) (results_cell2 (p := 2) (u := 3) (ty := 29) rfl _ _ (w.heap.size + 1) 29 _ (0, 0) _ rfl hfin Tryd.underlying29 rfl (by exact infoDg)) rfl ⟨⟨_, rfl, Own.nil _ _⟩, ?_⟩
    exact (HE2.out.setCell (p := ⟨w.heap.size + 1, 0, none⟩) (by simp) _).setCell (p := ⟨w.heap.size + 1, 1, none⟩) (by simp) _
  · have t0 : ((P.length : Int) == 0) = false := beq_eq_false_iff_ne.2 (by omega)
    by_cases h1 : 62 < P.length
    · obtain ⟨r0, r1, g0, g1⟩ := two_cells HR2.out
      have t1 : (62 : Int) < (P.length : Int) := by omega
      have hN : N = 0 := by rw [HA.out.1]; exact (lnOk_far HDD.out (by rw [← HP.out]; exact h1)).1
      have hD : D = [] := by rw [HA.out.2.1]; exact (lnOk_far HDD.out (by rw [← HP.out]; exact h1)).2.1
      have hC : C = 3 := by rw [HA.out.2.2]; exact (lnOk_far HDD.out (by rw [← HP.out]; exact h1)).2.2
      clear HA
      subst hN hD hC
      go_wp2_with fail
      have hfin := two_set (a := .int .i64 0) (b := .slice none 0 0) HR2.out
      refine bodyPost_ret (v := .tuple #[.agg #[.int .i64 0, .slice none 0 0], .int .i64 3]) (results_cell2 (p := 2) (u := 3) (ty := 29) rfl _ _ (w.heap.size + 1) 29 _ (0, 0) _ rfl hfin Tryd.underlying29 rfl (by exact infoDg)) rfl ⟨⟨_, rfl, Own.nil _ _⟩, ?_⟩
      exact (HE2.out.setCell (p := ⟨w.heap.size + 1, 0, none⟩) (by simp) _).setCell (p := ⟨w.heap.size + 1, 1, none⟩) (by simp) _
    · have t1 : ¬ (62 : Int) < (P.length : Int) := by omega
      obtain ⟨ga, oa, ca, hua, hgal, hrows⟩ := HT.out.ts.ss.rows (by rw [List.length_map]; omega)
      rw [List.length_map] at hua
      obtain ⟨rfl, rfl⟩ : pa = some ⟨ga, oa, none⟩ ∧ pc = ca := by simpa using hua
      have HROWS := Lib.hid hrows
      have hdw := dwa_some P.length (by omega) w2
      have hN : N = (P.length : Int) := by rw [HA.out.1, HP.out]; exact (lnOk_yes HDD.out (by rw [← HP.out]; omega) (by rw [← HP.out]; omega)).1
      have hD : D = lnR P := by rw [HA.out.2.1, HP.out]; exact (lnOk_yes HDD.out (by rw [← HP.out]; omega) (by rw [← HP.out]; omega)).2.1
      have hC : C = 0 := by rw [HA.out.2.2]; exact (lnOk_yes HDD.out (by rw [← HP.out]; omega) (by rw [← HP.out]; omega)).2.2
      clear HA
      subst hN hD hC
      clear hrows hua h0 h1
      go_upto_region 9 with (go_at_call 50; refine hdw.mono ?_; rintro e w3 ⟨⟨gr, rfl, hBg, hgr⟩, hb3⟩)
      obtain ⟨W3, hW3⟩ : ∃ W3, W3 = w3.alloc (.cells #[.int .i64 P.length, .slice (some ⟨gr, 0, none⟩) P.length P.length] 29) := ⟨_, rfl⟩
      rw [← hW3]
      obtain ⟨gb, hgb⟩ : ∃ gb, gb = w3.heap.size := ⟨_, rfl⟩
      have hgrl := hBg.lt
      have h32 := hb3.size
      have hs3 : W3.heap.size = w3.heap.size + 1 := by rw [hW3]; simp
      have HX : Hid (W3.heap[gb]? = some (.cells #[.int .i64 P.length, .slice (some ⟨gr, 0, none⟩) P.length P.length] 29 (0, 0))) := by show _ = _; rw [hW3, hgb]; exact World.alloc_heap_new w3 _
      have HB : Hid (Blk W3 gr (lnL P 0 0)) := by show Blk _ _ _; rw [lnL_zero, hW3]; exact hBg.alloc _
      have hE3 : Below w2.heap.size w2 W3 := by rw [hW3]; exact hb3.alloc hb3.size _
      have hgb2 : w2.heap.size ≤ gb := by omega
      have hne : ¬ gb = gr := by omega
      rw [← hgb]
      clear hW3 hdw hBg hb3 hs3 hgb hgrl h32
      go_wp2_with fail
      go_loopw [7, 8, 9, 10, 33] (fun _ _ _ _ t wr => ∃ i : Nat, i ≤ P.length ∧ t = .int .i64 i ∧ Hid (Blk wr gr (lnL P i 0)) ∧ Hid (wr.heap[gb]? = W3.heap[gb]?) ∧ Below w2.heap.size w2 wr ∧ W3.heap.size ≤ wr.heap.size) (fun _ _ _ _ t _ => P.length - (intOf t).toNat)
      case atStart => exact ⟨0, Nat.zero_le _, rfl, HB, rfl, hE3, Nat.le_refl _⟩
      case round =>
        clear HB hE3
        obtain ⟨i, hi, rfl, HB, HK, hE, hs⟩ := hrel
        by_cases hlt : i < P.length
        · have hlti : (i : Int) < P.length := by omega
          have hi0 : (0 : Int) ≤ i := by omega
          obtain ⟨gi, oi, ci, p1, pl, p2, p3⟩ := ar_row2 HROWS.out hlt
          have c0 := (hE.cell (p := ⟨ga, oa + i, none⟩) hgal).trans p1
          have HP3 := Lib.hid p3
          clear p1 p2 p3
          obtain ⟨wo, rfl⟩ : ∃ wo : World, wo = wr := ⟨_, rfl⟩
          go_wp2_with fail
          clear c0
          go_loopw [9, 10, 40] (fun _ _ t wr => ∃ j : Nat, j ≤ P.length ∧ t = .int .i64 j ∧ Hid (Blk wr gr (lnL P i j)) ∧ Hid (wr.heap[gb]? = W3.heap[gb]?) ∧ Below w2.heap.size w2 wr ∧ W3.heap.size ≤ wr.heap.size) (fun _ _ t _ => P.length - (intOf t).toNat)
          case atStart => exact ⟨0, Nat.zero_le _, rfl, HB, HK, hE, hs⟩
          case round =>
            clear HB HK hE hs
            obtain ⟨j, hj, rfl, HB, HK, hE, hs⟩ := hrel
            by_cases hltj : j < P.length
            · have hltji : (j : Int) < P.length := by omega
              have hj0 : (0 : Int) ≤ j := by omega
              obtain ⟨gj, oj, cj, q1, ql, q2, q3⟩ := ar_row2 HROWS.out hltj
              have d1 := (hE.cell (p := ⟨gi, oi + 1, none⟩) pl).trans HP3.out
              have d2 := (hE.cell (p := ⟨ga, oa + j, none⟩) hgal).trans q1
              have d3 := (hE.cell (p := ⟨gj, oj, none⟩) ql).trans q2
              obtain ⟨x0, x1, -, -⟩ := two_cells (HK.out.trans HX.out)
              clear q1 q2 q3
              by_cases he : (prA P i).2 = (prA P j).1
              · have HY := Lib.hid (lnF_yes he)
                have te : (((prA P i).2 : Int) == ((prA P j).1 : Int)) = true := by rw [he]; simp
                have HL := Lib.hid (lnF_lt P i j)
                have c1 : wr.cell? ⟨gr, i, none⟩ = some (.int .i64 (lnF P i j : Nat)) := by rw [← lnL_at hlt]; exact HB.out.cell (by rw [lnL_length]; exact hlt)
                have f1 := HB.out.frozen i
                obtain ⟨T, hT⟩ : ∃ T, T = lnF P i j := ⟨_, rfl⟩
                rw [← hT] at c1 HL
                have HTT := Lib.hid hT
                clear he
                generalize (prA P i).2 = A2 at te d1
                generalize (prA P j).1 = B1 at te d3
                have qa := pow_bounds j (by omega)
                have P1 : Hid (bits .or .i64 (T : Int) (2 ^ j) = ((T ||| 2 ^ j : Nat) : Int)) := by
                  show _ = _
                  have h1 : T < 2 ^ 62 := Nat.lt_of_lt_of_le HL.out (Nat.pow_le_pow_right (by decide) (by omega))
                  have h2 : 2 ^ j < 2 ^ 63 := Nat.pow_lt_pow_right (by decide) (by omega)
                  rw [show ((2 : Int) ^ j) = ((2 ^ j : Nat) : Int) by simp, or_i64 _ _ (by omega) h2]
                have HB3 : Hid (∀ m, Blk ((wr.drewN m).setCell ⟨gr, i, none⟩ (.int .i64 ((T ||| 2 ^ j : Nat) : Int))) gr (lnL P i (j + 1))) := fun m => by rw [← lnL_set (x := T ||| 2 ^ j) hlt (by rw [HTT.out, HY.out])]; exact (show Blk (wr.drewN m) gr (lnL P i j) from HB.out).set i _
                have HK3 : Hid (∀ m, ((wr.drewN m).setCell ⟨gr, i, none⟩ (.int .i64 ((T ||| 2 ^ j : Nat) : Int))).heap[gb]? = W3.heap[gb]?) := fun m => (Below.heap_setCell (wr.drewN m) ⟨gr, i, none⟩ _ _ (by simpa using hne)).trans HK.out
                have HE3 : Hid (∀ m, Below w2.heap.size w2 ((wr.drewN m).setCell ⟨gr, i, none⟩ (.int .i64 ((T ||| 2 ^ j : Nat) : Int)))) := fun m => (drewN_below hE m).setCell (p := ⟨gr, i, none⟩) hgr _
                clear hT hE
                go_wp2_with fail
                go_quiet (fail)
                go_wp2_with fail
                go_region
                rw [P1.out]
                clear qa c1 f1 x0 x1 d1 d2 d3
                go_wp2_with fail
                go_roundw
                case rel => exact ⟨j + 1, by omega, by go_num, HB3.out _, HK3.out _, HE3.out _, by simp; omega⟩
                case measure => simp [intOf]; omega
              · have te : (((prA P i).2 : Int) == ((prA P j).1 : Int)) = false := beq_eq_false_iff_ne.2 (by omega)
                have HB3 : Hid (Blk wr gr (lnL P i (j + 1))) := by show Blk _ _ _; rw [lnL_no he]; exact HB.out
                have HE3 := Lib.hid hE
                clear he hE
                generalize (prA P i).2 = A2 at te d1
                generalize (prA P j).1 = B1 at te d3
                go_wp2_with fail
                go_quiet (fail)
                go_wp2_with fail
                go_roundw
                case rel => exact ⟨j + 1, by omega, by go_num, HB3, HK, drewN_below HE3.out _, by simp; omega⟩
                case measure => simp [intOf]; omega
            · obtain rfl : j = P.length := by omega
              have HB2 : Hid (Blk wr gr (lnL P (i + 1) 0)) := by show Blk _ _ _; rw [← lnL_row]; exact HB.out
              go_wp2_with fail
              go_roundw
              case rel => exact ⟨i + 1, by omega, by go_num, HB2, HK, hE, hs⟩
              case measure => simp [intOf]; omega
        · obtain rfl : i = P.length := by omega
          obtain ⟨x0, x1, -, -⟩ := two_cells (HK.out.trans HX.out)
          have HR1 : Hid (wr.heap[w.heap.size + 1]? = some (.cells #[.int .i64 0, .slice none 0 0] 29 (0, 0))) := (hE.block _ (by omega)).trans HR2.out
          obtain ⟨y0, y1, g0, g1⟩ := two_cells HR1.out
          have HEF := Lib.hid (HE2.out.trans (hE.mono (by omega)))
          clear hE
          go_wp2_with fail
          have hfin := two_set (a := .int .i64 (P.length : Int)) (b := .slice (some ⟨gr, 0, none⟩) P.length P.length) HR1.out
          have hfb : Blk ((wr.setCell ⟨w.heap.size + 1, 0, none⟩ (.int .i64 (P.length : Int))).setCell ⟨w.heap.size + 1, 1, none⟩ (.slice (some ⟨gr, 0, none⟩) P.length P.length)) gr (lnR P) := by
            rw [← lnL_all]
            exact (HB.out.other (by simp; omega) _).other (by simp; omega) _
          refine bodyPost_ret (v := .tuple #[.agg #[.int .i64 (P.length : Int), .slice (some ⟨gr, 0, none⟩) P.length P.length], .int .i64 0]) (results_cell2 (p := 2) (u := 3) (ty := 29) rfl _ _ (w.heap.size + 1) 29 _ (0, 0) _ rfl hfin Tryd.underlying29 rfl (by exact infoDg)) rfl ⟨⟨_, rfl, ?_⟩, ?_⟩
          · have h := Own.of_blk (B := w.heap.size) hfb (by omega) (by rw [lnR_length]; unfold maxLen; omega)
            rw [lnR_length] at h
            exact h
          · exact (HEF.out.setCell (p := ⟨w.heap.size + 1, 0, none⟩) (by simp) _).setCell (p := ⟨w.heap.size + 1, 1, none⟩) (by simp) _

theorem implLd_any (n : Int) (v : Value) (zs : List Int) (w : World) (hs : Sl w v zs) (hl : zs.length ≤ 9223372036854775807) (hT : TabE w) :
    Calls Tryd.prog 22 #[.agg #[.int .i64 n, v]] w fun e w' => GRes w.heap.size (lnN n zs) (lnD n zs) (lnC n zs) e w' ∧ Below w.heap.size w w' := by
  cases hd : isD n zs with
  | false => rw [(lnOk_no hd).1, (lnOk_no hd).2.1, (lnOk_no hd).2.2]; exact implLd_no n v zs w hs hl hT hd
  | true =>
    rcases hs with ⟨a, c, rfl, rfl⟩ | ⟨b, off, cap, rfl, hb, hc⟩
    · rw [isD_nil] at hd; exact absurd hd (by simp)
    · exact implLd_yes n b off cap zs w hb hc hl hT hd _ rfl _ _ _ ⟨rfl, rfl, rfl⟩
end Go.Proofs.YtbncfhmpkoaffaaDoor
