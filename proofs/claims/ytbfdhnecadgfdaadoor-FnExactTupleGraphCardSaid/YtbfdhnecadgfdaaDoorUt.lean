/-
  spec.TupleGraph.
-/
import Derived.Test.YtbfdhnecadgfdaaDoorUs
import Derived.Deep.DeepCutAuto
namespace Go.Proofs.YtbfdhnecadgfdaaDoor
set_option maxRecDepth 100000
open Go.RowKit

theorem join_three (q : Int) (A B : List Int) (j : Nat) (hj : 2 ≤ j ∧ j ≤ 4) : (jT q A B 0 && (decide (j < 3) || jT q A B 1) && (decide (j < 4) || jT q A B 2)) = joinT q A B (j - 1) := by
  obtain ⟨h1, h2⟩ := hj
  have h : j = 2 ∨ j = 3 ∨ j = 4 := by omega
  have z : joinT q A B 0 = true := rfl
  rcases h with rfl | rfl | rfl
  · rw [show 2 - 1 = 0 + 1 from rfl, joinT_succ, z]; simp
  · rw [show 3 - 1 = 0 + 1 + 1 from rfl, joinT_succ, joinT_succ, z]; simp
  · rw [show 4 - 1 = 0 + 1 + 1 + 1 from rfl, joinT_succ, joinT_succ, joinT_succ, z]; simp

set_option maxHeartbeats 6400000 in
set_option maxRecDepth 100000 in
theorem specTu_yes (K q : Nat) (w : World) (hK : 2 ≤ K ∧ K ≤ 4) (h : q = 2 ∨ q = 3 ∨ q = 5 ∨ q = 7) :
    Calls Tryd.prog 22 #[.int .i64 K, .int .i64 q] w fun e w' => GRes w.heap.size (tuN K q) (tuL K q) (tuC K q) e w' ∧ Below w.heap.size w w' := by
  have hq : 2 ≤ q ∧ q ≤ 7 := by omega
  have HPR := Lib.hid (fun W => l04Prime_yes (q : Int) W (by omega))
  have hin : ∀ W, Calls Tryd.prog 48 #[.int .i64 K, .int .i64 2, .int .i64 4] W fun e w' => e = .returned (.bool true) ∧ W = w' := fun W => by
    have h := in_any (K : Int) 2 4 W
    have e : (decide ((2 : Int) ≤ K) && decide ((K : Int) ≤ 4)) = true := by simp; omega
    rw [e] at h; exact h
  have HIN := Lib.hid hin
  have hfit := fits_iff K q hK h
  have hpw := tups_length q K
  unfold tuN tuL tuC
  obtain ⟨N, hN⟩ : ∃ N, N = (if 31 < (tups q K).length then 0 else ((2 * (tups q K).length : Nat) : Int)) := ⟨_, rfl⟩
  obtain ⟨L, hL⟩ : ∃ L, L = (if 31 < (tups q K).length then [] else rowsF (2 * (tups q K).length) (adjS (whereS (kF (tups q K).length (tuF q K)) (2 * (tups q K).length)))) := ⟨_, rfl⟩
  obtain ⟨c, hc⟩ : ∃ c : Int, c = (if 31 < (tups q K).length then 3 else 0) := ⟨_, rfl⟩
  rw [← hN, ← hL, ← hc]
  have HN := Lib.hid hN; have HL := Lib.hid hL; have HC := Lib.hid hc
  have D0 : Below w.heap.size w (w.alloc (.cells #[.int .i64 0, .slice none 0 0] 34)) := (Below.refl _ _).alloc (Nat.le_refl _) _
  have RB0 := Lib.hid (World.alloc_heap_new w (.cells #[.int .i64 0, .slice none 0 0] 34))
  obtain ⟨W, hW⟩ : ∃ W, W = w.alloc (.cells #[.int .i64 0, .slice none 0 0] 34) := ⟨_, rfl⟩
  have hsz : w.heap.size + 1 ≤ W.heap.size := by rw [hW]; simp
  rw [← hW] at D0 RB0
  have HPW := Lib.hid hpw; have HFIT := Lib.hid hfit
  have HPB : Hid (∀ j, j ≤ K → q ^ j ≤ 2401) := fun j hj => Nat.le_trans (Nat.pow_le_pow_left hq.2 j) (Nat.le_trans (Nat.pow_le_pow_right (by decide) (show j ≤ 4 by omega)) (by decide))
  clear h hfit hpw hin hN hL hc
  go_enter Tryd.func22, Tryd.ntmps22
  go_upto_region 1 with fail
  rw [← hW]
  clear hW
  go_wp2_with (first
    | (go_at_call 42; refine (HPR.out _).mono ?_; rintro e w' ⟨rfl, rfl⟩)
    | (go_at_call 48; refine (HIN.out _).mono ?_; rintro e w' ⟨rfl, rfl⟩))
  go_loopw [6, 7] (fun s i wr => ∃ j : Nat, j ≤ K ∧ i = .int .i64 j ∧ (∃ z : Nat, s = .int .i64 z ∧ Hid (z = q ^ j) ∧ z ≤ 2401) ∧ wr = W) (fun _ i _ => K - (intOf i).toNat)
  case atStart => exact ⟨0, Nat.zero_le _, rfl, ⟨1, rfl, rfl, by omega⟩, rfl⟩
  case round =>
    obtain ⟨j, hj, rfl, ⟨z, rfl, HZ, hz⟩, rfl⟩ := hrel
    by_cases hlt : j < K
    · have hm1 : 0 ≤ (z : Int) * (q : Int) ∧ (z : Int) * (q : Int) ≤ 16807 := by
        refine ⟨Int.mul_nonneg (by omega) (by omega), ?_⟩
        have : (z : Int) * (q : Int) ≤ 2401 * 7 := Int.mul_le_mul (by omega) (by omega) (by omega) (by omega)
        omega
      have HM : Hid ((z : Int) * (q : Int) = ((z * q : Nat) : Int)) := by show _ = _; simp
      have HZ2 : Hid (z * q = q ^ (j + 1)) := by show _ = _; rw [HZ.out, Nat.pow_succ]
      have hz2 : z * q ≤ 2401 := by rw [HZ2.out]; exact HPB.out (j + 1) (by omega)
      go_wp2_with fail
      go_roundw
      case rel => exact ⟨j + 1, by omega, by go_num, ⟨z * q, by rw [HM.out], HZ2, hz2⟩, by first | rfl | trivial⟩
      case measure => simp [intOf]; omega
    · obtain rfl : j = K := by omega
      have HLEN : Hid ((tups q j).length = z) := by show _ = _; rw [HPW.out, HZ.out]
      by_cases hfar : 31 < z
      · have HN2 : Hid (N = 0) := by show _ = _; rw [HN.out, HLEN.out, if_pos hfar]
        have HL2 : Hid (L = []) := by show _ = _; rw [HL.out, HLEN.out, if_pos hfar]
        have HC2 : Hid (c = 3) := by show _ = _; rw [HC.out, HLEN.out, if_pos hfar]
        obtain ⟨r0, r1, g0, g1⟩ := two_cells RB0.out
        go_wp2_with fail
        have hfin := two_set (a := .int .i64 0) (b := .slice none 0 0) RB0.out
        rw [HN2.out, HL2.out, HC2.out]
        refine bodyPost_ret (v := .tuple #[.agg #[.int .i64 0, .slice none 0 0], .int .i64 3]) (results_cell2 (p := 4) (u := 5) (ty := 34) rfl _ _ w.heap.size 34 _ (0, 0) _ rfl hfin Tryd.underlying34 rfl (by exact info27)) rfl ⟨⟨_, rfl, Own.nil _ _⟩, ?_⟩
        exact (D0.setCell (p := ⟨w.heap.size, 0, none⟩) (by simp) _).setCell (p := ⟨w.heap.size, 1, none⟩) (by simp) _
      · have HFT : Hid (fits j q) := HFIT.out.2 (by rw [HLEN.out]; exact hfar)
        have HN2 : Hid (N = ((2 * z : Nat) : Int)) := by show _ = _; rw [HN.out, HLEN.out, if_neg hfar]
        have HL2 : Hid (L = rowsF (2 * z) (adjS (kS (tuF q j) z z))) := by show _ = _; rw [HL.out, HLEN.out, if_neg hfar, kinds_same]
        have HC2 : Hid (c = 0) := by show _ = _; rw [HC.out, HLEN.out, if_neg hfar]
        have hz31 : z ≤ 31 := by omega
        obtain ⟨m, hm⟩ : ∃ m, m = 2 * z := ⟨_, rfl⟩
        have hem := Lib.hid (specEmpty_at (2 * (z : Int)) m wr (by omega) (by rw [hm]; simp))
        have HMN := Lib.hid hm
        have hm62 : m ≤ 62 := by omega
        have hDG : ∀ i, i < z → elS (tups q j) i = digJ j q i j := fun i hi => tups_dig j q HFT.out i (by rw [HLEN.out]; exact hi)
        have hBD : ∀ b i, 0 ≤ el (elS (tups q j) b) i ∧ el (elS (tups q j) b) i ≤ 6 := fun b i => by
          by_cases hj : b < (tups q j).length
          · exact tups_tri q hq.2 j _ (by simp [elS, hj]) i
          · have : elS (tups q j) b = [] := by unfold elS; rw [List.getD_eq_getElem?_getD, List.getElem?_eq_none (by omega)]; rfl
            rw [this]; simp [el]
        have hTL : ∀ i, i < z → (elS (tups q j) i).length = j := fun i hi => tups_el q j i (by rw [HLEN.out]; exact hi)
        obtain ⟨T, hT⟩ : ∃ T, T = tups q j := ⟨_, rfl⟩
        obtain ⟨F, hF⟩ : ∃ F, F = tuF q j := ⟨_, rfl⟩
        have HFV : Hid (∀ v x, F v x = joinT q (elS T v) (elS T x) (j - 1)) := fun v x => by rw [hF, hT]; rfl
        rw [← hF] at HL2
        rw [← hT] at hDG hBD hTL
        have HDG := Lib.hid hDG; have HBD := Lib.hid hBD; have HTL := Lib.hid hTL
        have hr62 : ¬ (62 : Int) < 2 * (z : Int) := by omega
        clear hm hDG hBD hTL hT hF
        obtain ⟨W, rfl⟩ : ∃ W : World, W = wr := ⟨_, rfl⟩
        go_wp2_with (go_at_call 49; refine hem.out.mono ?_; rintro e w2 ⟨rfl, hB2, hb2⟩; have HB2 := Lib.hid hB2; have Hb2 := Lib.hid hb2; clear hB2 hb2)
        have l2 := HB2.out.lt
        obtain ⟨w3, h3w⟩ : ∃ w3, w3 = w2.alloc (.cells #[.int .i64 m, .slice (some ⟨W.heap.size + 1, 0, none⟩) m m] 34) := ⟨_, rfl⟩
        have X3 : Hid (w3.heap[w2.heap.size]? = some (.cells #[.int .i64 m, .slice (some ⟨W.heap.size + 1, 0, none⟩) m m] 34 (0, 0))) := by rw [h3w]; exact World.alloc_heap_new w2 _
        have hb3 : Below w2.heap.size w2 w3 := by rw [h3w]; exact (Below.refl _ _).alloc (Nat.le_refl _) _
        rw [← h3w]
        clear h3w hem
        have HB3 : Hid (Blk w3 (W.heap.size + 1) (rowsF m (adjS (kS F z 0)))) := by show Blk _ _ _; rw [show adjS (kS F z 0) = fun _ _ => false from rfl, rowsF_none]; exact HB2.out.belowAll hb3
        have E3 : Below W.heap.size W w3 := Hb2.out.trans (hb3.mono (by omega))
        have s3 : w2.heap.size + 1 ≤ w3.heap.size := (Array.getElem?_eq_some_iff.1 X3.out).1
        have HGW : Hid (w2.heap.size ≠ W.heap.size + 1) := by show _ ≠ _; omega
        clear hb3 HB2 Hb2
        go_loopw [9] (fun i wr => ∃ v : Nat, v ≤ z ∧ i = .int .i64 v ∧ Hid (Blk wr (W.heap.size + 1) (rowsF m (adjS (kS F z v)))) ∧ Hid (wr.heap[w2.heap.size]? = some (.cells #[.int .i64 m, .slice (some ⟨W.heap.size + 1, 0, none⟩) m m] 34 (0, 0))) ∧ Below W.heap.size W wr ∧ w2.heap.size + 1 ≤ wr.heap.size) (fun i _ => z - (intOf i).toNat)
        case atStart => exact ⟨0, Nat.zero_le _, rfl, HB3, X3, E3, s3⟩
        case round =>
          obtain ⟨v, hv, rfl, HB, HX, hE, hs⟩ := hrel
          by_cases hlt2 : v < z
          · go_wp2_with fail
            obtain ⟨wo, rfl⟩ : ∃ wo : World, wo = wr := ⟨_, rfl⟩
            have HBI : Hid (Blk wo (W.heap.size + 1) (rowsF m (adjS (kS F z v ++ inK F z v 0)))) := by show Blk _ _ _; rw [show kS F z v ++ inK F z v 0 = kS F z v by simp [inK]]; exact HB.out
            go_loopw [10] (fun i wr => ∃ k : Nat, k ≤ z ∧ i = .int .i64 k ∧ Hid (Blk wr (W.heap.size + 1) (rowsF m (adjS (kS F z v ++ inK F z v k)))) ∧ Hid (wr.heap[w2.heap.size]? = some (.cells #[.int .i64 m, .slice (some ⟨W.heap.size + 1, 0, none⟩) m m] 34 (0, 0))) ∧ Below W.heap.size W wr ∧ w2.heap.size + 1 ≤ wr.heap.size) (fun i _ => z - (intOf i).toNat)
            case atStart => exact ⟨0, Nat.zero_le _, rfl, HBI, HX, hE, hs⟩
            case round =>
              obtain ⟨k, hk, rfl, HC3, HY, hF2, ht⟩ := hrel
              by_cases hlk : k < z
              · have ct1 := tuple_any j q v wr (by omega) (by omega) (by omega) (by omega)
                have ct2 := fun W1 => tuple_any j q k W1 (by omega) (by omega) (by omega) (by omega)
                rw [← HDG.out v hlt2] at ct1
                rw [← HDG.out k hlk] at ct2
                have CT1 := Lib.hid ct1; have CT2 := Lib.hid ct2
                clear ct1 ct2
                go_wp2_with fail
                refine CT1.out.mono ?_
                rintro e w4 ⟨rfl, hB4, hb4⟩
                have HB4 := Lib.hid hB4; have Hb4 := Lib.hid hb4
                clear hB4 hb4 CT1
                go_wp2_with fail
                refine (CT2.out _).mono ?_
                rintro e w5 ⟨rfl, hB5, hb5⟩
                have HB5 := Lib.hid hB5; have Hb5 := Lib.hid hb5
                clear hB5 hb5 CT2
                go_upto_region 18 with fail
                have hbv := HBD.out v; have hbk := HBD.out k
                have La := HTL.out v hlt2; have Lb := HTL.out k hlk
                have HFVK := Lib.hid (HFV.out v k)
                obtain ⟨A, hA⟩ : ∃ A, A = elS T v := ⟨_, rfl⟩
                obtain ⟨B, hB⟩ : ∃ B, B = elS T k := ⟨_, rfl⟩
                rw [← hA] at HFVK La hbv HB4; rw [← hB] at HFVK Lb hbk HB5
                have CA := Lib.hid (fun i (hi : i < j) => (HB4.out.belowAll Hb5.out).cell (i := i) (by rw [La]; exact hi))
                have CB' := Lib.hid (fun i (hi : i < j) => HB5.out.cell (i := i) (by rw [Lb]; exact hi))
                have HVB := Lib.hid hbv; have HKB := Lib.hid hbk
                obtain ⟨g1, hg1⟩ : ∃ g, g = jT q A B 0 := ⟨_, rfl⟩
                obtain ⟨g2, hg2⟩ : ∃ g, g = jT q A B 1 := ⟨_, rfl⟩
                obtain ⟨g3, hg3⟩ : ∃ g, g = jT q A B 2 := ⟨_, rfl⟩
                have HG1 := Lib.hid hg1; have HG2 := Lib.hid hg2; have HG3 := Lib.hid hg3
                have hj1 : (1 : Int) < j := by omega
                have hj0 : (0 : Int) < j := by omega
                clear hg1 hg2 hg3 hA hB La Lb hbv hbk
                go_cut [13] (fun t wx => t = .bool g1 ∧ ∃ i, wx = w5.drewN i)
                case first =>
                  have a0 := CA.out 0 (by omega); have a1 := CA.out 1 (by omega); have b0 := CB'.out 0 (by omega); have b1 := CB'.out 1 (by omega)
                  obtain ⟨u1, u2⟩ := prod_bd (HVB.out 0).1 (HVB.out 0).2 (HKB.out 0).1 (HKB.out 0).2
                  obtain ⟨v1, v2⟩ := HVB.out 1; obtain ⟨t1, t2⟩ := HKB.out 1
                  have E : Hid (g1 = (Int.tmod (el A 1 + el B 1 - el A 0 * el B 0) q == 0)) := by show _ = _; rw [HG1.out]; rfl
                  obtain ⟨x0, ex0⟩ : ∃ x, x = el A 0 := ⟨_, rfl⟩
                  obtain ⟨x1, ex1⟩ : ∃ x, x = el A 1 := ⟨_, rfl⟩
                  obtain ⟨y0, ey0⟩ : ∃ x, x = el B 0 := ⟨_, rfl⟩
                  obtain ⟨y1, ey1⟩ : ∃ x, x = el B 1 := ⟨_, rfl⟩
                  rw [← ex0] at a0 u1 u2 E; rw [← ex1] at a1 v1 v2 E; rw [← ey0] at b0 u1 u2 E; rw [← ey1] at b1 t1 t2 E
                  clear ex0 ex1 ey0 ey1
                  have V1 : IntKind.i64.wrap (x1 + y1) = x1 + y1 := IntWalk.i64_in _ (by omega)
                  have V2 : IntKind.i64.wrap (x0 * y0) = x0 * y0 := IntWalk.i64_in _ (by clear V1; omega)
                  have V3 : IntKind.i64.wrap (x1 + y1 - x0 * y0) = x1 + y1 - x0 * y0 := IntWalk.i64_in _ (by clear V1 V2; omega)
                  go_quiet (fail)
                  clear V1 V2 V3
                  go_wp2_with fail
                  go_meet
                  exact ⟨by rw [E.out], _, rfl⟩
                case rest =>
                obtain ⟨rfl, i1, rfl⟩ := hcut
                go_upto_region 19 with fail
                go_cut [13] (fun t wx => t = .bool (g1 && (decide (j < 3) || g2)) ∧ ∃ i, wx = w5.drewN i)
                case first =>
                  cases g1 with
                  | false =>
                    go_quiet (fail)
                    go_wp2_with fail
                    go_meet
                    exact ⟨by rfl, _, by first | rfl | (rw [World.drewN_drewN])⟩
                  | true =>
                    by_cases h3 : j < 3
                    · have h3i : (j : Int) < 3 := by omega
                      go_quiet (fail)
                      go_wp2_with fail
                      go_meet
                      exact ⟨by rw [decide_eq_true h3]; rfl, _, by first | rfl | (rw [World.drewN_drewN])⟩
                    · have hd : decide ((j : Int) < 3) = false := by rw [decide_eq_false_iff_not]; omega
                      have a0 := CA.out 2 (by omega); have a1 := CA.out 0 (by omega); have b0 := CB'.out 2 (by omega); have b1 := CB'.out 1 (by omega)
                      obtain ⟨u1, u2⟩ := prod_bd (HVB.out 0).1 (HVB.out 0).2 (HKB.out 1).1 (HKB.out 1).2
                      obtain ⟨v1, v2⟩ := HVB.out 2; obtain ⟨t1, t2⟩ := HKB.out 2
                      have E : Hid (g2 = (Int.tmod (el A 2 + el B 2 - el A 0 * el B 1) q == 0)) := by show _ = _; rw [HG2.out]; rfl
                      have hji : (2 : Int) < j := by omega
                      obtain ⟨x0, ex0⟩ : ∃ x, x = el A 2 := ⟨_, rfl⟩
                      obtain ⟨x1, ex1⟩ : ∃ x, x = el A 0 := ⟨_, rfl⟩
                      obtain ⟨y0, ey0⟩ : ∃ x, x = el B 2 := ⟨_, rfl⟩
                      obtain ⟨y1, ey1⟩ : ∃ x, x = el B 1 := ⟨_, rfl⟩
                      rw [← ex0] at a0 v1 v2 E; rw [← ex1] at a1 u1 u2 E; rw [← ey0] at b0 t1 t2 E; rw [← ey1] at b1 u1 u2 E
                      clear ex0 ex1 ey0 ey1
                      have V1 : IntKind.i64.wrap (x0 + y0) = x0 + y0 := IntWalk.i64_in _ (by omega)
                      have V2 : IntKind.i64.wrap (x1 * y1) = x1 * y1 := IntWalk.i64_in _ (by clear V1; omega)
                      have V3 : IntKind.i64.wrap (x0 + y0 - x1 * y1) = x0 + y0 - x1 * y1 := IntWalk.i64_in _ (by clear V1 V2; omega)
                      go_quiet (fail)
                      clear V1 V2 V3
                      go_wp2_with fail
                      go_meet
                      exact ⟨by rw [decide_eq_false h3, E.out]; rfl, _, by first | rfl | (rw [World.drewN_drewN])⟩
                case rest =>
                obtain ⟨rfl, i2, rfl⟩ := hcut
                obtain ⟨G, hG⟩ : ∃ G, G = (g1 && (decide (j < 3) || g2)) := ⟨_, rfl⟩
                rw [← hG]
                have HGG := Lib.hid hG
                clear hG
                go_upto_region 20 with fail
                go_cut [13] (fun t wx => t = .bool (G && (decide (j < 4) || g3)) ∧ ∃ i, wx = w5.drewN i)
                case first =>
                  cases G with
                  | false =>
                    go_quiet (fail)
                    go_wp2_with fail
                    go_meet
                    exact ⟨by rfl, _, by first | rfl | (rw [World.drewN_drewN])⟩
                  | true =>
                    by_cases h3 : j < 4
                    · have h3i : (j : Int) < 4 := by omega
                      go_quiet (fail)
                      go_wp2_with fail
                      go_meet
                      exact ⟨by rw [decide_eq_true h3]; rfl, _, by first | rfl | (rw [World.drewN_drewN])⟩
                    · have hd : decide ((j : Int) < 4) = false := by rw [decide_eq_false_iff_not]; omega
                      have a0 := CA.out 3 (by omega); have a1 := CA.out 1 (by omega); have b0 := CB'.out 3 (by omega); have b1 := CB'.out 0 (by omega)
                      obtain ⟨u1, u2⟩ := prod_bd (HVB.out 1).1 (HVB.out 1).2 (HKB.out 0).1 (HKB.out 0).2
                      obtain ⟨v1, v2⟩ := HVB.out 3; obtain ⟨t1, t2⟩ := HKB.out 3
                      have E : Hid (g3 = (Int.tmod (el A 3 + el B 3 - el A 1 * el B 0) q == 0)) := by show _ = _; rw [HG3.out]; rfl
                      have hji : (3 : Int) < j := by omega
                      obtain ⟨x0, ex0⟩ : ∃ x, x = el A 3 := ⟨_, rfl⟩
                      obtain ⟨x1, ex1⟩ : ∃ x, x = el A 1 := ⟨_, rfl⟩
                      obtain ⟨y0, ey0⟩ : ∃ x, x = el B 3 := ⟨_, rfl⟩
                      obtain ⟨y1, ey1⟩ : ∃ x, x = el B 0 := ⟨_, rfl⟩
                      rw [← ex0] at a0 v1 v2 E; rw [← ex1] at a1 u1 u2 E; rw [← ey0] at b0 t1 t2 E; rw [← ey1] at b1 u1 u2 E
                      clear ex0 ex1 ey0 ey1
                      have V1 : IntKind.i64.wrap (x0 + y0) = x0 + y0 := IntWalk.i64_in _ (by omega)
                      have V2 : IntKind.i64.wrap (x1 * y1) = x1 * y1 := IntWalk.i64_in _ (by clear V1; omega)
                      have V3 : IntKind.i64.wrap (x0 + y0 - x1 * y1) = x0 + y0 - x1 * y1 := IntWalk.i64_in _ (by clear V1 V2; omega)
                      go_quiet (fail)
                      clear V1 V2 V3
                      go_wp2_with fail
                      go_meet
                      exact ⟨by rw [decide_eq_false h3, E.out]; rfl, _, by first | rfl | (rw [World.drewN_drewN])⟩
                case rest =>
                obtain ⟨rfl, i3, rfl⟩ := hcut
                have hfin : (G && (decide (j < 4) || g3)) = F v k := by
                  rw [HGG.out, HG1.out, HG2.out, HG3.out, HFVK.out]
                  exact join_three q A B j hK
                rw [hfin]
                clear hfin
                generalize hw6 : w5.drewN i3 = w6
                have hbb : Below wr.heap.size wr w6 := by rw [← hw6]; exact drewN_below (Hb4.out.trans (Hb5.out.mono Hb4.out.size)) _
                have HB6 := Lib.hid (HC3.out.belowAll hbb)
                have HX6 := Lib.hid ((hbb.block w2.heap.size (by omega)).trans HY.out)
                have hE6 : Below W.heap.size W w6 := hF2.trans (hbb.mono hF2.size)
                have t6 : w2.heap.size + 1 ≤ w6.heap.size := Nat.le_trans ht hbb.size
                clear hw6 hbb HC3 HY hF2 ht Hb4 Hb5 HB4 HB5 CA CB'
                cases hr : F v k with
                | true =>
                  have HKN : Hid (kS F z v ++ inK F z v (k + 1) = (kS F z v ++ inK F z v k) ++ [(v, z + k)]) := by show _ = _; rw [inK_yes hr, ← List.append_assoc]
                  have HJ := Lib.hid (fun W1 h => with_at m (W.heap.size + 1) m (kS F z v ++ inK F z v k) v (z + k) (v : Int) ((z : Int) + (k : Int)) W1 h (by rw [HMN.out]; omega) (by rw [HMN.out]; omega) hm62 rfl (by simp))
                  clear hr
                  obtain ⟨x0, x1, y0, y1⟩ := two_cells HX6.out
                  go_wp2_with fail
                  refine (HJ.out _ HB6.out).mono ?_
                  rintro e w7 ⟨rfl, hB7, hg7⟩
                  have HB7 := Lib.hid hB7
                  have HX7 := Lib.hid ((hg7.block w2.heap.size (by omega) (by simp; exact HGW.out)).trans HX6.out)
                  have hE7 := hE6.grown hg7 (by omega) (fun j e => by cases e; omega)
                  have t7 : w2.heap.size + 1 ≤ w7.heap.size := Nat.le_trans t6 hg7.size
                  clear x0 x1 y0 y1 hB7 hg7 HX6 HB6 hE6 t6 HJ
                  obtain ⟨x0, x1, y0, y1⟩ := two_cells HX7.out
                  go_wp2_with fail
                  obtain ⟨w8, h8⟩ : ∃ x, x = (w7.setCell ⟨w2.heap.size, 0, none⟩ (.int .i64 m)).setCell ⟨w2.heap.size, 1, none⟩ (.slice (some ⟨W.heap.size + 1, 0, none⟩) m m) := ⟨_, rfl⟩
                  have HX8 : Hid (w8.heap[w2.heap.size]? = some (.cells #[.int .i64 m, .slice (some ⟨W.heap.size + 1, 0, none⟩) m m] 34 (0, 0))) := by rw [h8]; exact two_set HX7.out
                  have HB8 : Hid (Blk w8 (W.heap.size + 1) (rowsF m (adjS (kS F z v ++ inK F z v (k + 1))))) := by rw [h8, HKN.out]; exact (HB7.out.other (by simp; exact HGW.out.symm) _).other (by simp; exact HGW.out.symm) _
                  have hE8 : Below W.heap.size W w8 := by rw [h8]; exact (hE7.setCell (p := ⟨w2.heap.size, 0, none⟩) (by simp; omega) _).setCell (p := ⟨w2.heap.size, 1, none⟩) (by simp; omega) _
                  have t8 : w2.heap.size + 1 ≤ w8.heap.size := by rw [h8]; simpa using t7
                  rw [← h8]
                  clear h8 HX7 HB7 hE7 t7 x0 x1 y0 y1
                  go_roundw
                  case rel => exact ⟨k + 1, by omega, by go_num, HB8, HX8, hE8, t8⟩
                  case measure => simp [intOf]; omega
                | false =>
                  have HB8 : Hid (Blk w6 (W.heap.size + 1) (rowsF m (adjS (kS F z v ++ inK F z v (k + 1))))) := by
                    show Blk _ _ _
                    rw [inK_no hr]; exact HB6.out
                  clear hr
                  go_wp2_with fail
                  go_roundw
                  case rel => exact ⟨k + 1, by omega, by go_num, HB8, HX6, hE6, t6⟩
                  case measure => simp [intOf]; omega
              · obtain rfl : k = z := by omega
                have HC1 : Hid (Blk wr (W.heap.size + 1) (rowsF m (adjS (kS F k (v + 1))))) := HC3.out
                go_wp2_with fail
                go_roundw
                case rel => exact ⟨v + 1, by omega, by go_num, HC1, HY, hF2, ht⟩
                case measure => simp [intOf]; omega
          · obtain rfl : v = z := by omega
            have RB := Lib.hid ((hE.block w.heap.size (by omega)).trans RB0.out)
            obtain ⟨r0, r1, g0, g1⟩ := two_cells RB.out
            obtain ⟨x0, x1, -, -⟩ := two_cells HX.out
            go_wp2_with fail
            have hfin := two_set (a := .int .i64 m) (b := .slice (some ⟨W.heap.size + 1, 0, none⟩) m m) RB.out
            rw [HN2.out, HL2.out, HC2.out, ← HMN.out]
            refine bodyPost_ret (v := .tuple #[.agg #[.int .i64 m, .slice (some ⟨W.heap.size + 1, 0, none⟩) m m], .int .i64 0]) (results_cell2 (p := 4) (u := 5) (ty := 34) rfl _ _ w.heap.size 34 _ (0, 0) _ rfl hfin Tryd.underlying34 rfl (by exact info27)) rfl ⟨⟨_, rfl, ?_⟩, ?_⟩
            · have h := Own.of_blk ((HB.out.other (a := ⟨w.heap.size, 0, none⟩) (by simp; omega) (.int .i64 m)).other (a := ⟨w.heap.size, 1, none⟩) (by simp; omega) (.slice (some ⟨W.heap.size + 1, 0, none⟩) m m)) (B := w.heap.size) (by omega) (by rw [rowsF_length]; unfold maxLen; omega)
              rw [rowsF_length] at h
              exact h
            · exact ((D0.trans (hE.mono D0.size)).setCell (p := ⟨w.heap.size, 0, none⟩) (by simp) _).setCell (p := ⟨w.heap.size, 1, none⟩) (by simp) _
end Go.Proofs.YtbfdhnecadgfdaaDoor
