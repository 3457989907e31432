/-
  LineDigraph: the model.
-/
import Derived.Test.YtbncfhmpkoaffaaDoorLn8
import Derived.Test.YtbncfhmpkoaffaaDoorRw8
namespace Go.Proofs.YtbncfhmpkoaffaaDoor
set_option maxRecDepth 100000
set_option maxRecDepth 100000
open Go.RowKit

theorem lnOk_no {n : Int} {zs : List Int} (h : isD n zs = false) : lnN n zs = 0 ∧ lnD n zs = [] ∧ lnC n zs = 1 := by
  have e : lnOk n zs = false := by unfold lnOk; rw [h]; rfl
  exact ⟨by unfold lnN; rw [e]; rfl, by unfold lnD; rw [e]; rfl, by unfold lnC; rw [h]; rfl⟩
theorem lnOk_zero {n : Int} {zs : List Int} (h : isD n zs = true) (h0 : (acP zs zs.length).length = 0) : lnN n zs = 0 ∧ lnD n zs = [] ∧ lnC n zs = 5 := by
  have e : lnOk n zs = false := by unfold lnOk; rw [h0]; simp
  exact ⟨by unfold lnN; rw [e]; rfl, by unfold lnD; rw [e]; rfl, by unfold lnC; rw [h, if_pos rfl, if_pos h0]⟩
theorem lnOk_far {n : Int} {zs : List Int} (h : isD n zs = true) (h0 : 62 < (acP zs zs.length).length) : lnN n zs = 0 ∧ lnD n zs = [] ∧ lnC n zs = 3 := by
  have e : lnOk n zs = false := by unfold lnOk; rw [decide_eq_false (Nat.not_le.2 h0)]; simp
  exact ⟨by unfold lnN; rw [e]; rfl, by unfold lnD; rw [e]; rfl, by unfold lnC; rw [h, if_pos rfl, if_neg (by omega), if_pos h0]⟩
theorem lnOk_yes {n : Int} {zs : List Int} (h : isD n zs = true) (h0 : 1 ≤ (acP zs zs.length).length) (h1 : (acP zs zs.length).length ≤ 62) : lnN n zs = ((acP zs zs.length).length : Int) ∧ lnD n zs = lnR (acP zs zs.length) ∧ lnC n zs = 0 := by
  have e : lnOk n zs = true := by unfold lnOk; rw [h, decide_eq_true h0, decide_eq_true h1]; rfl
  exact ⟨by unfold lnN; rw [e]; rfl, by unfold lnD; rw [e]; rfl, by unfold lnC; rw [h, if_pos rfl, if_neg (by omega), if_neg (by omega)]⟩

set_option maxHeartbeats 1600000 in
theorem specLd_no (n : Int) (v : Value) (zs : List Int) (w : World) (hs : Sl w v zs) (hl : zs.length ≤ 9223372036854775807) (hd : isD n zs = false) :
    Calls Tryd.prog 21 #[.agg #[.int .i64 n, v]] w fun e w' => GRes w.heap.size 0 [] 1 e w' ∧ Below w.heap.size w w' := by
  obtain ⟨W, hW⟩ : ∃ W, W = (w.alloc (.cells #[.int .i64 n, v] 29)).alloc (.cells #[.int .i64 0, .slice none 0 0] 29) := ⟨_, rfl⟩
  have D0 : Below w.heap.size w W := by rw [hW]; exact ((Below.refl _ _).alloc (Nat.le_refl _) _).alloc (by simp) _
  have his := l08Is_any n v zs W (hs.below D0) hl
  rw [hd] at his
  have HR : Hid (W.heap[w.heap.size + 1]? = some (.cells #[.int .i64 0, .slice none 0 0] 29 (0, 0))) := by show _ = _; rw [hW]; exact heap_new_at _ _ _ (by simp)
  have HD := Lib.hid D0
  clear hs hd D0
  go_enter Tryd.func21, Tryd.ntmps21
  go_wp2_with (go_at_call 42; rw [← hW]; refine his.mono ?_; rintro e w1 ⟨rfl, hb1⟩; have HR1 := Lib.hid ((hb1.block (w.heap.size + 1) (Array.getElem?_eq_some_iff.1 HR.out).1).trans HR.out); have HB1 := Lib.hid (HD.out.trans (hb1.mono HD.out.size)); obtain ⟨r0, r1, g0, g1⟩ := two_cells HR1.out; clear hb1)
  have hfin := two_set (a := .int .i64 0) (b := .slice none 0 0) HR1.out
  refine bodyPost_ret (v := .tuple #[.agg #[.int .i64 0, .slice none 0 0], .int .i64 1]) (results_cell2 (p := 2) (u := 3) (ty := 29) rfl _ _ (w.heap.size + 1) 29 _ (0, 0) _ rfl hfin Tryd.underlying29 rfl (by exact infoDg)) rfl ⟨⟨_, rfl, Own.nil _ _⟩, ?_⟩
  exact (HB1.out.setCell (p := ⟨w.heap.size + 1, 0, none⟩) (by simp) _).setCell (p := ⟨w.heap.size + 1, 1, none⟩) (by simp) _

set_option maxHeartbeats 6400000 in
theorem specLd_yes (n : Int) (b off cap : Nat) (zs : List Int) (w : World) (hb : b < w.heap.size) (hc : Cells w b off zs) (hl : zs.length ≤ 9223372036854775807) (hd : isD n zs = true) (P : List (Nat × Nat)) (hP : P = acP zs zs.length) (N : Int) (D : List Int) (C : Int) (HA : Hid (N = lnN n zs ∧ D = lnD n zs ∧ C = lnC n zs)) :
    Calls Tryd.prog 21 #[.agg #[.int .i64 n, .slice (some ⟨b, off, none⟩) zs.length cap]] w fun e w' => GRes w.heap.size N D C e w' ∧ Below w.heap.size w w' := by
  obtain ⟨W, hW⟩ : ∃ W, W = (w.alloc (.cells #[.int .i64 n, .slice (some ⟨b, off, none⟩) zs.length cap] 29)).alloc (.cells #[.int .i64 0, .slice none 0 0] 29) := ⟨_, rfl⟩
  have D0 : Below w.heap.size w W := by rw [hW]; exact ((Below.refl _ _).alloc (Nat.le_refl _) _).alloc (by simp) _
  have his := l08Is_some n b off cap zs W (Nat.lt_of_lt_of_le hb D0.size) (hc.below D0 hb) hl
  rw [hd] at his
  have hg := dg_ok hd
  obtain rfl : n = (zs.length : Int) := hg.size.symm
  have HG0 : Hid (GBox W w.heap.size zs.length b off cap zs) := by
    show GBox _ _ _ _ _ _ _
    rw [hW]
    exact (GBox.newD (n := (zs.length : Int)) (cap := cap) hb hc).below ((Below.refl _ _).alloc (by simp) _)
  have HR : Hid (W.heap[w.heap.size + 1]? = some (.cells #[.int .i64 0, .slice none 0 0] 29 (0, 0))) := by show _ = _; rw [hW]; exact heap_new_at _ _ _ (by simp)
  have HD := Lib.hid D0
  have HS : Hid (W.heap.size = w.heap.size + 2) := by show _ = _; rw [hW]; simp
  have hPL : P.length ≤ 4000 := by rw [hP]; have := acP_len zs zs.length; have := hg.le; omega
  have harc : ∀ W1, GBox W1 w.heap.size zs.length b off cap zs → Calls Tryd.prog 43 #[.agg #[.int .i64 zs.length, .slice (some ⟨b, off, none⟩) zs.length cap]] W1 fun e w' => (∃ u, e = .returned u ∧ TS w' W1.heap.size u (P.map prI)) ∧ Below W1.heap.size W1 w' := fun W1 G => by
    rw [hP]; exact l08Arcs_some b off cap zs W1 G.lb G.cells hg
  have HARC := Lib.hid harc
  have HP := Lib.hid hP
  have HDD := Lib.hid hd
  clear hc hd D0 hg harc hP
  go_enter Tryd.func21, Tryd.ntmps21
  go_upto_region 4 with (first
    | (go_at_call 42; rw [← hW]; refine his.mono ?_; rintro e w1 ⟨rfl, hb1⟩; have HB1 := Lib.hid hb1; have HG1 := Lib.hid (HG0.out.below (hb1.mono (by have := HS.out; omega))); have b0 := HG1.out.b0; have b1 := HG1.out.b1; clear hb1)
    | (go_at_call 43; refine (HARC.out _ HG1.out).mono ?_; rintro e w2 ⟨⟨u, rfl, hT⟩, hb2⟩; obtain ⟨pa, pc, hu⟩ := ss_slice hT.ss; rw [List.length_map] at hu; subst hu; have HT := Lib.hid hT; have HB2 := Lib.hid (HB1.out.trans (hb2.mono HB1.out.size)); have HR2 := Lib.hid ((HB2.out.block (w.heap.size + 1) (Array.getElem?_eq_some_iff.1 HR.out).1).trans HR.out); clear hT hb2))
  have HE2 := Lib.hid (HD.out.trans (HB2.out.mono HD.out.size))
  have hws : w.heap.size + 2 ≤ w2.heap.size := by have h1 := HS.out; have h2 := HB2.out.size; omega
  clear his hW HARC b0 b1
  by_cases h0 : P.length = 0
  · obtain ⟨r0, r1, g0, g1⟩ := two_cells HR2.out
    have t0 : ((P.length : Int) == 0) = true := by rw [h0]; rfl
    have hN : N = 0 := by rw [HA.out.1]; exact (lnOk_zero HDD.out (by rw [← HP.out]; exact h0)).1
    have hD : D = [] := by rw [HA.out.2.1]; exact (lnOk_zero HDD.out (by rw [← HP.out]; exact h0)).2.1
    have hC : C = 5 := by rw [HA.out.2.2]; exact (lnOk_zero HDD.out (by rw [← HP.out]; exact h0)).2.2
    clear HA
    subst hN hD hC
    go_wp2_with fail
    have hfin := two_set (a := .int .i64 0) (b := .slice none 0 0) HR2.out
    refine bodyPost_ret (v := .tuple #[.agg #[.int .i64 0, .slice none 0 0], .int .i64 5]) (results_cell2 (p := 2) (u := 3) (ty := 29) rfl _ _ (w.heap.size + 1) 29 _ (0, 0) _ rfl hfin Tryd.underlying29 rfl (by exact infoDg)) rfl ⟨⟨_, rfl, Own.nil _ _⟩, ?_⟩
    exact (HE2.out.setCell (p := ⟨w.heap.size + 1, 0, none⟩) (by simp) _).setCell (p := ⟨w.heap.size + 1, 1, none⟩) (by simp) _
  · have t0 : ((P.length : Int) == 0) = false := beq_eq_false_iff_ne.2 (by omega)
    by_cases h1 : 62 < P.length
    · obtain ⟨r0, r1, g0, g1⟩ := two_cells HR2.out
      have t1 : (62 : Int) < (P.length : Int) := by omega
      have hN : N = 0 := by rw [HA.out.1]; exact (lnOk_far HDD.out (by rw [← HP.out]; exact h1)).1
      have hD : D = [] := by rw [HA.out.2.1]; exact (lnOk_far HDD.out (by rw [← HP.out]; exact h1)).2.1
      have hC : C = 3 := by rw [HA.out.2.2]; exact (lnOk_far HDD.out (by rw [← HP.out]; exact h1)).2.2
      clear HA
      subst hN hD hC
      go_wp2_with fail
      have hfin := two_set (a := .int .i64 0) (b := .slice none 0 0) HR2.out
      refine bodyPost_ret (v := .tuple #[.agg #[.int .i64 0, .slice none 0 0], .int .i64 3]) (results_cell2 (p := 2) (u := 3) (ty := 29) rfl _ _ (w.heap.size + 1) 29 _ (0, 0) _ rfl hfin Tryd.underlying29 rfl (by exact infoDg)) rfl ⟨⟨_, rfl, Own.nil _ _⟩, ?_⟩
      exact (HE2.out.setCell (p := ⟨w.heap.size + 1, 0, none⟩) (by simp) _).setCell (p := ⟨w.heap.size + 1, 1, none⟩) (by simp) _
    · have t1 : ¬ (62 : Int) < (P.length : Int) := by omega
      obtain ⟨ga, oa, ca, hua, hgal, hrows⟩ := HT.out.ss.rows (by rw [List.length_map]; omega)
      rw [List.length_map] at hua
      obtain ⟨rfl, rfl⟩ : pa = some ⟨ga, oa, none⟩ ∧ pc = ca := by simpa using hua
      have HROWS := Lib.hid hrows
      have hmk := run_mkInts P.length (by omega)
      have hN : N = (P.length : Int) := by rw [HA.out.1, HP.out]; exact (lnOk_yes HDD.out (by rw [← HP.out]; omega) (by rw [← HP.out]; omega)).1
      have hD : D = lnR P := by rw [HA.out.2.1, HP.out]; exact (lnOk_yes HDD.out (by rw [← HP.out]; omega) (by rw [← HP.out]; omega)).2.1
      have hC : C = 0 := by rw [HA.out.2.2]; exact (lnOk_yes HDD.out (by rw [← HP.out]; omega) (by rw [← HP.out]; omega)).2.2
      clear HA
      subst hN hD hC
      obtain ⟨W3, hW3⟩ : ∃ W3, W3 = (w2.alloc (.cells (intsA (List.replicate P.length 0)) 2)).alloc (.cells #[.int .i64 P.length, .slice (some ⟨w2.heap.size, 0, none⟩) P.length P.length] 29) := ⟨_, rfl⟩
      have hs3 : W3.heap.size = w2.heap.size + 2 := by rw [hW3]; simp
      have HX : Hid (W3.heap[w2.heap.size + 1]? = some (.cells #[.int .i64 P.length, .slice (some ⟨w2.heap.size, 0, none⟩) P.length P.length] 29 (0, 0))) := by show _ = _; rw [hW3]; exact heap_new_at _ _ _ (by simp)
      have HB : Hid (Blk W3 w2.heap.size (lnL P 0 0)) := by show Blk _ _ _; rw [lnL_zero, hW3]; exact (Blk.new w2 _).alloc _
      have hE3 : Below w2.heap.size w2 W3 := by rw [hW3]; exact ((Below.refl _ _).alloc (Nat.le_refl _) _).alloc (by simp) _
      clear hrows hua h0 h1
      go_wp2_with fail
      rw [← hW3]
      clear hW3 hmk
      go_loopw [6, 7] (fun t _ wr => ∃ i : Nat, i ≤ P.length ∧ t = .int .i64 i ∧ Hid (Blk wr w2.heap.size (lnL P i 0)) ∧ Hid (wr.heap[w2.heap.size + 1]? = W3.heap[w2.heap.size + 1]?) ∧ Below w2.heap.size w2 wr ∧ W3.heap.size ≤ wr.heap.size) (fun t _ _ => P.length - (intOf t).toNat)
      case atStart => exact ⟨0, Nat.zero_le _, rfl, HB, rfl, hE3, Nat.le_refl _⟩
      case round =>
        clear HB hE3
        obtain ⟨i, hi, rfl, HB, HK, hE, hs⟩ := hrel
        by_cases hlt : i < P.length
        · have hlti : (i : Int) < P.length := by omega
          obtain ⟨wo, rfl⟩ : ∃ wo : World, wo = wr := ⟨_, rfl⟩
          go_wp2_with fail
          go_loopw [7] (fun t wr => ∃ j : Nat, j ≤ P.length ∧ t = .int .i64 j ∧ Hid (Blk wr w2.heap.size (lnL P i j)) ∧ Hid (wr.heap[w2.heap.size + 1]? = W3.heap[w2.heap.size + 1]?) ∧ Below w2.heap.size w2 wr ∧ W3.heap.size ≤ wr.heap.size) (fun t _ => P.length - (intOf t).toNat)
          case atStart => exact ⟨0, Nat.zero_le _, rfl, HB, HK, hE, hs⟩
          case round =>
            clear HB HK hE hs
            obtain ⟨j, hj, rfl, HB, HK, hE, hs⟩ := hrel
            have hi0 : (0 : Int) ≤ i := by omega
            by_cases hltj : j < P.length
            · have hltji : (j : Int) < P.length := by omega
              have hj0 : (0 : Int) ≤ j := by omega
              have hRw := HROWS.out.below hgal hE
              obtain ⟨gi, oi, ci, p1, p2, p3⟩ := ar_row hRw hlt
              obtain ⟨gj, oj, cj, q1, q2, q3⟩ := ar_row hRw hltj
              obtain ⟨x0, x1, -, -⟩ := two_cells (HK.out.trans HX.out)
              clear hRw
              by_cases he : (prA P i).2 = (prA P j).1
              · have HY := Lib.hid (lnF_yes he)
                have te : (((prA P i).2 : Int) == ((prA P j).1 : Int)) = true := by rw [he]; simp
                have HL := Lib.hid (lnF_lt P i j)
                have c1 : wr.cell? ⟨w2.heap.size, i, none⟩ = some (.int .i64 (lnF P i j : Nat)) := by rw [← lnL_at hlt]; exact HB.out.cell (by rw [lnL_length]; exact hlt)
                have f1 := HB.out.frozen i
                obtain ⟨T, hT⟩ : ∃ T, T = lnF P i j := ⟨_, rfl⟩
                rw [← hT] at c1 HL
                have HTT := Lib.hid hT
                generalize (prA P i).2 = A2 at *
                generalize (prA P j).1 = B1 at *
                have qa := pow_bounds j (by omega)
                have P1 : Hid (bits .or .i64 (T : Int) (2 ^ j) = ((T ||| 2 ^ j : Nat) : Int)) := by
                  show _ = _
                  have h1 : T < 2 ^ 62 := Nat.lt_of_lt_of_le HL.out (Nat.pow_le_pow_right (by decide) (by omega))
                  have h2 : 2 ^ j < 2 ^ 63 := Nat.pow_lt_pow_right (by decide) (by omega)
                  rw [show ((2 : Int) ^ j) = ((2 ^ j : Nat) : Int) by simp, or_i64 _ _ (by omega) h2]
                have HB3 : Hid (∀ m, Blk ((wr.drewN m).setCell ⟨w2.heap.size, i, none⟩ (.int .i64 ((T ||| 2 ^ j : Nat) : Int))) w2.heap.size (lnL P i (j + 1))) := fun m => by rw [← lnL_set (x := T ||| 2 ^ j) hlt (by rw [HTT.out, HY.out])]; exact (show Blk (wr.drewN m) w2.heap.size (lnL P i j) from HB.out).set i _
                have HK3 : Hid (∀ m, ((wr.drewN m).setCell ⟨w2.heap.size, i, none⟩ (.int .i64 ((T ||| 2 ^ j : Nat) : Int))).heap[w2.heap.size + 1]? = W3.heap[w2.heap.size + 1]?) := fun m => (Below.heap_setCell (wr.drewN m) ⟨w2.heap.size, i, none⟩ _ _ (by simp)).trans HK.out
                have HE3 : Hid (∀ m, Below w2.heap.size w2 ((wr.drewN m).setCell ⟨w2.heap.size, i, none⟩ (.int .i64 ((T ||| 2 ^ j : Nat) : Int)))) := fun m => (drewN_below hE m).setCell (p := ⟨w2.heap.size, i, none⟩) (Nat.le_refl _) _
                clear hT hE
                go_wp2_with fail
                go_quiet (fail)
                go_wp2_with fail
                go_region
                rw [P1.out]
                clear qa c1 f1 x0 x1 p1 p2 p3 q1 q2 q3
                go_wp2_with fail
                go_roundw
                case rel => exact ⟨j + 1, by omega, by go_num, HB3.out _, HK3.out _, HE3.out _, by simp; omega⟩
                case measure => simp [intOf]; omega
              · have te : (((prA P i).2 : Int) == ((prA P j).1 : Int)) = false := beq_eq_false_iff_ne.2 (by omega)
                have HB3 : Hid (Blk wr w2.heap.size (lnL P i (j + 1))) := by show Blk _ _ _; rw [lnL_no he]; exact HB.out
                have HE3 := Lib.hid hE
                generalize (prA P i).2 = A2 at *
                generalize (prA P j).1 = B1 at *
                clear hE
                go_wp2_with fail
                go_quiet (fail)
                go_wp2_with fail
                go_roundw
                case rel => exact ⟨j + 1, by omega, by go_num, HB3, HK, drewN_below HE3.out _, by simp; omega⟩
                case measure => simp [intOf]; omega
            · obtain rfl : j = P.length := by omega
              have HB2 : Hid (Blk wr w2.heap.size (lnL P (i + 1) 0)) := by show Blk _ _ _; rw [← lnL_row]; exact HB.out
              go_wp2_with fail
              go_roundw
              case rel => exact ⟨i + 1, by omega, by go_num, HB2, HK, hE, hs⟩
              case measure => simp [intOf]; omega
        · obtain rfl : i = P.length := by omega
          obtain ⟨x0, x1, -, -⟩ := two_cells (HK.out.trans HX.out)
          have HR1 : Hid (wr.heap[w.heap.size + 1]? = some (.cells #[.int .i64 0, .slice none 0 0] 29 (0, 0))) := (hE.block _ (by omega)).trans HR2.out
          obtain ⟨y0, y1, g0, g1⟩ := two_cells HR1.out
          have HEF := Lib.hid (HE2.out.trans (hE.mono (by omega)))
          clear hE
          go_wp2_with fail
          have hfin := two_set (a := .int .i64 (P.length : Int)) (b := .slice (some ⟨w2.heap.size, 0, none⟩) P.length P.length) HR1.out
          have hfb : Blk ((wr.setCell ⟨w.heap.size + 1, 0, none⟩ (.int .i64 (P.length : Int))).setCell ⟨w.heap.size + 1, 1, none⟩ (.slice (some ⟨w2.heap.size, 0, none⟩) P.length P.length)) w2.heap.size (lnR P) := by
            rw [← lnL_all]
            exact (HB.out.other (by simp; omega) _).other (by simp; omega) _
          refine bodyPost_ret (v := .tuple #[.agg #[.int .i64 (P.length : Int), .slice (some ⟨w2.heap.size, 0, none⟩) P.length P.length], .int .i64 0]) (results_cell2 (p := 2) (u := 3) (ty := 29) rfl _ _ (w.heap.size + 1) 29 _ (0, 0) _ rfl hfin Tryd.underlying29 rfl (by exact infoDg)) rfl ⟨⟨_, rfl, ?_⟩, ?_⟩
          · have h := Own.of_blk (B := w.heap.size) hfb (by omega) (by rw [lnR_length]; unfold maxLen; omega)
            rw [lnR_length] at h
            exact h
          · exact (HEF.out.setCell (p := ⟨w.heap.size + 1, 0, none⟩) (by simp) _).setCell (p := ⟨w.heap.size + 1, 1, none⟩) (by simp) _

theorem specLd_any (n : Int) (v : Value) (zs : List Int) (w : World) (hs : Sl w v zs) (hl : zs.length ≤ 9223372036854775807) :
    Calls Tryd.prog 21 #[.agg #[.int .i64 n, v]] w fun e w' => GRes w.heap.size (lnN n zs) (lnD n zs) (lnC n zs) e w' ∧ Below w.heap.size w w' := by
  cases hd : isD n zs with
  | false => rw [(lnOk_no hd).1, (lnOk_no hd).2.1, (lnOk_no hd).2.2]; exact specLd_no n v zs w hs hl hd
  | true =>
    rcases hs with ⟨a, c, rfl, rfl⟩ | ⟨b, off, cap, rfl, hb, hc⟩
    · rw [isD_nil] at hd; exact absurd hd (by simp)
    · exact specLd_yes n b off cap zs w hb hc hl hd _ rfl _ _ _ ⟨rfl, rfl, rfl⟩
end Go.Proofs.YtbncfhmpkoaffaaDoor
