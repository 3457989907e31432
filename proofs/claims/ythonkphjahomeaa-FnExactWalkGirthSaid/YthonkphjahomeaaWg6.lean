/-
  spec.l03Levels. (A plain seat of bases.)
-/
import Derived.Test.YthonkphjahomeaaWg5
import Derived.BigQuiet
import Derived.Deep.QuietTactic
import Derived.Deep.RegionHeld3
namespace Go.Proofs.Ythonkphjahomeaa
set_option maxRecDepth 100000
open Go.RowKit

set_option maxHeartbeats 25600000 in
theorem levels_any (n m k cap : Nat) (sa : Option Addr) (fs : List Int) (w : World) (hs : Sa w (.slice sa k cap) k fs) (hav : AvOk n m k fs) (h1 : n ≤ 10 ∧ m ≤ 62 ∧ k ≤ 16) (hm1 : 1 ≤ m) :
    Calls Try.prog 11 #[.agg #[.int .i64 n, .int .i64 m, .slice sa k cap]] w fun e w' => e = .returned (.int .i64 (bsN m fs (2 * k) (2 * k) : Nat)) ∧ Below w.heap.size w w' := by
  obtain ⟨n2, m2, k16⟩ := h1
  have D0 : Below w.heap.size w (w.alloc (.cells #[.int .i64 n, .int .i64 m, .slice sa k cap] 30)) := (Below.refl _ _).alloc (Nat.le_refl _) _
  have HG0 := Lib.hid (World.alloc_heap_new w (.cells #[.int .i64 n, .int .i64 m, .slice sa k cap] 30))
  obtain ⟨W0, hW0⟩ : ∃ W0, W0 = w.alloc (.cells #[.int .i64 n, .int .i64 m, .slice sa k cap] 30) := ⟨_, rfl⟩
  have sz0 : w.heap.size + 1 ≤ W0.heap.size := by rw [hW0]; simp
  rw [← hW0] at HG0 D0
  obtain ⟨K, hK⟩ : ∃ K, K = 2 * k := ⟨_, rfl⟩
  have HSTEP : Hid (∀ (W : World) (x : Nat), Below W0.heap.size W0 W → x < K → Calls Try.prog 18 #[.agg #[.int .i64 n, .int .i64 m, .slice sa k cap], .int .i64 x] W fun e w' => e = .returned (.tuple #[.int .i64 (stA m fs x 0), .int .i64 (stA m fs x 1), .int .i64 (stA m fs x 2)]) ∧ Below W.heap.size W w') := fun W x h hx =>
    l03Step_any n m k cap x sa fs W (hs.below (D0.trans (h.mono D0.size))) hav ⟨n2, m2, k16⟩ (by omega)
  have HLT : Hid (∀ i, i < K → stA m fs i 0 < n ∧ stA m fs i 1 < n ∧ stA m fs i 2 < m) := fun i hi => stA_lt hav (by omega)
  have HBX : Hid (∀ W, Below W0.heap.size W0 W → W.cell? ⟨w.heap.size, 0, none⟩ = some (.int .i64 n) ∧ W.cell? ⟨w.heap.size, 1, none⟩ = some (.int .i64 m) ∧ W.cell? ⟨w.heap.size, 2, none⟩ = some (.slice sa k cap)) := fun W h => (three_cells ((h.block w.heap.size (by omega)).trans HG0.out)).1
  have HD := Lib.hid D0
  have K32 : K ≤ 32 := by omega
  have kk : IntKind.i64.wrap (2 * (k : Int)) = (K : Int) := by rw [IntWalk.i64_in _ (by omega)]; omega
  obtain ⟨N, hN⟩ : ∃ N, N = K * m := ⟨_, rfl⟩
  have hN2 : N ≤ 32 * 62 := by rw [hN]; exact Nat.mul_le_mul K32 m2
  have HNN := Lib.hid hN
  have kN : (K : Int) * (m : Int) = (N : Int) := by rw [hN]; push_cast; rfl
  have kw : IntKind.i64.wrap (N : Int) = (N : Int) := IntWalk.i64_in _ (by omega)
  have hmk := run_mkBools N (by omega)
  obtain ⟨b0, b1, b2⟩ := HBX.out W0 (Below.refl _ _)
  have hm0 : ¬ m = 0 := by omega
  rw [← hK]
  clear hs hav D0 HG0 hK hN
  go_enter Try.func11, Try.ntmps11
  go_upto_region 1 with fail
  rw [← hW0]
  clear hW0
  go_wp2_with fail
  go_quiet (fail)
  go_wp2_with fail
  obtain ⟨W1, hW1⟩ : ∃ W1, W1 = W0.drewN nq := ⟨_, rfl⟩
  have E1 : Below W0.heap.size W0 W1 := by rw [hW1]; exact drewN_below (Below.refl _ _) nq
  rw [← hW1]
  clear hW1 b0 b1 b2
  go_loopw [5, 6, 7, 8, 9, 10, 11, 12, 13, 14, 15, 16, 17, 18, 19, 20, 21, 22, 23, 24] (fun bv fv _ _ _ _ _ _ _ _ _ _ _ _ _ _ _ _ _ _ wr => ∃ f B : Nat, f ≤ K ∧ fv = .int .i64 f ∧ bv = .int .i64 B ∧ Hid (B = bsN m fs K f) ∧ Below W0.heap.size W0 wr) (fun _ fv _ _ _ _ _ _ _ _ _ _ _ _ _ _ _ _ _ _ _ => K - (intOf fv).toNat)
  case atStart => exact ⟨0, 0, Nat.zero_le _, rfl, rfl, rfl, E1⟩
  case round =>
    clear E1
    obtain ⟨f, B, hf, rfl, rfl, HBS, hE⟩ := hrel
    have hs := hE.size
    obtain ⟨wo, rfl⟩ : ∃ wo : World, wo = wr := ⟨_, rfl⟩
    by_cases hfl : f < K
    · have hfli : (f : Int) < K := by omega
      have hf0 : (0 : Int) ≤ f := by omega
      have gf : IntKind.i64.wrap ((f : Int) + 1) = (f : Int) + 1 := IntWalk.i64_in _ (by omega)
      have hst := Lib.hid (HSTEP.out wo f hE hfl)
      obtain ⟨-, -, hfm⟩ := HLT.out f hfl
      have HFM := Lib.hid hfm
      have HFS : Hid (f = f) := rfl
      obtain ⟨a0, ha0⟩ : ∃ a, a = stA m fs f 0 := ⟨_, rfl⟩
      obtain ⟨a1, ha1⟩ : ∃ a, a = stA m fs f 1 := ⟨_, rfl⟩
      obtain ⟨a2, ha2⟩ : ∃ a, a = stA m fs f 2 := ⟨_, rfl⟩
      rw [← ha0, ← ha1, ← ha2] at hst
      rw [← ha2] at hfm
      have HA0 := Lib.hid ha0; have HA2 := Lib.hid ha2
      obtain ⟨b0, b1, b2⟩ := HBX.out wo hE
      clear ha0 ha1 ha2
      go_wp2_with fail
      refine hst.out.mono ?_
      rintro e w1 ⟨rfl, hb1⟩
      have E1 := hE.trans (hb1.mono hs)
      have s1 := E1.size
      obtain ⟨P, hP⟩ : ∃ P, P = f * m := ⟨_, rfl⟩
      have hPN : P + m ≤ N := by
        rw [hP, HNN.out]
        have : (f + 1) * m ≤ K * m := Nat.mul_le_mul_right _ hfl
        rw [Nat.add_mul] at this; omega
      have kP : (f : Int) * (m : Int) = (P : Int) := by rw [hP]; push_cast; rfl
      have kPw : IntKind.i64.wrap (P : Int) = (P : Int) := IntWalk.i64_in _ (by omega)
      have kPc : IntKind.i64.wrap ((P : Int) + a2) = ((P + a2 : Nat) : Int) := by rw [IntWalk.i64_in _ (by omega)]; push_cast; rfl
      have hx0 : ((P + a2 : Nat) : Int) < N := by omega
      have hx1 : (0 : Int) ≤ ((P + a2 : Nat) : Int) := by omega
      have HP := Lib.hid hP
      clear hst hb1 b0 b1 b2 hP
      go_upto_region 7 with fail
      obtain ⟨w2, h2⟩ : ∃ w2, w2 = w1.alloc (.cells (boolsA (List.replicate N false)) 4) := ⟨_, rfl⟩
      have HB2 : Hid (BBlk w2 w1.heap.size (boolsF N (fun _ => false))) := by show BBlk _ _ _; rw [boolsF_none, h2]; exact BBlk.new w1 _
      have E2 : Below W0.heap.size W0 w2 := by rw [h2]; exact E1.alloc s1 _
      rw [← h2]
      clear h2
      have zo : w2.cell? ⟨w1.heap.size, P + a2, none⟩ = some (.bool false) := by rw [HB2.out.cell (by rw [boolsF_length]; omega), eb_boolsF _ _ _ (by omega)]
      have zf : w2.frozen? ⟨w1.heap.size, P + a2, none⟩ = false := HB2.out.frozen _
      have HB3 : Hid (BBlk (w2.setCell ⟨w1.heap.size, P + a2, none⟩ (.bool true)) w1.heap.size (boolsF N (nwF m fs K f 0))) := by
        show BBlk _ _ _
        rw [← nw_start HFM.out, ← HP.out, ← HA2.out]
        exact HB2.out.set _ _
      have E3 := E2.setCell (p := ⟨w1.heap.size, P + a2, none⟩) s1 (.bool true)
      go_upto_region 8 with fail
      obtain ⟨w3, h3⟩ : ∃ w3, w3 = w2.setCell ⟨w1.heap.size, P + a2, none⟩ (.bool true) := ⟨_, rfl⟩
      rw [← h3] at HB3 E3 ⊢
      clear h3 zo zf HB2 E2 kP kPw kPc hx0 hx1
      obtain ⟨g0, hg0⟩ : ∃ g0, g0 = w1.heap.size := ⟨_, rfl⟩
      rw [← hg0] at HB3 s1 ⊢
      clear hg0 E1
      go_wp2_with fail
      go_loopw [5, 10, 11, 12, 13, 14, 15, 16, 17, 18, 19, 20, 21, 22, 23, 24] (fun bv nv kv _ _ _ _ _ _ _ _ _ _ _ _ _ wr => ∃ (t g : Nat), t ≤ 14 ∧ kv = .int .i64 ((t : Int) + 1) ∧ nv = .slice (some ⟨g, 0, none⟩) N N ∧ bv = .int .i64 B ∧ Hid (BBlk wr g (boolsF N (nwF m fs K f t))) ∧ Hid (∀ t', t' < t → fdB m fs K f t' = false) ∧ Below W0.heap.size W0 wr) (fun _ _ kv _ _ _ _ _ _ _ _ _ _ _ _ _ _ => 16 - (intOf kv).toNat)
      case atStart => exact ⟨0, g0, by omega, rfl, rfl, rfl, HB3, fun t' h => absurd h (by omega), E3⟩
      case round =>
        clear HB3 E3
        obtain ⟨t, g, ht, rfl, rfl, rfl, HNOW0, HNO, hE2⟩ := hrel
        have s2 := hE2.size
        obtain ⟨w9, rfl⟩ : ∃ w9 : World, w9 = wr := ⟨_, rfl⟩
        by_cases htl : t < 14
        · have htli : (t : Int) + 1 ≤ 14 := by omega
          have gt : IntKind.i64.wrap ((t : Int) + 1 + 1) = (t : Int) + 1 + 1 := IntWalk.i64_in _ (by omega)
          have gt1 : IntKind.i64.wrap ((t : Int) + 1) = (t : Int) + 1 := IntWalk.i64_in _ (by omega)
          by_cases hgo : B = 0 ∨ t + 1 < B
          · have HGO := Lib.hid hgo
            obtain ⟨x0, hx0⟩ : ∃ x0, ((B : Int) == 0) = x0 := ⟨_, rfl⟩
            obtain ⟨x1, hx1⟩ : ∃ x1, decide ((t : Int) + 1 < (B : Int)) = x1 := ⟨_, rfl⟩
            have hx : x0 = true ∨ (x0 = false ∧ x1 = true) := by
              by_cases h : B = 0
              · left; rw [← hx0, beq_iff_eq]; omega
              · right; exact ⟨by rw [← hx0, beq_eq_false_iff_ne]; omega, by rw [← hx1, decide_eq_true_eq]; omega⟩
            rcases hx with rfl | ⟨rfl, rfl⟩
            · clear hx1 hgo
              go_upto_region 12 with fail
              obtain ⟨gn, hgn0⟩ : ∃ gn, gn = w9.heap.size := ⟨_, rfl⟩
              obtain ⟨w4, h4⟩ : ∃ w4, w4 = w9.alloc (.cells (boolsA (List.replicate N false)) 4) := ⟨_, rfl⟩
              have HNS4 : Hid (BBlk w4 gn (boolsF N (nsF m fs K f t 0))) := by show BBlk _ _ _; rw [← ns_zero, boolsF_none, h4, hgn0]; exact BBlk.new w9 _
              have HNOW4 : Hid (BBlk w4 g (boolsF N (nwF m fs K f t))) := by rw [h4]; exact HNOW0.out.alloc _
              have E4 : Below W0.heap.size W0 w4 := by rw [h4]; exact hE2.alloc s2 _
              have hgn : W0.heap.size ≤ gn := by rw [hgn0]; exact s2
              have hggn : g < gn := by rw [hgn0]; exact HNOW0.out.lt
              rw [← h4, ← hgn0]
              clear h4 hgn0 HNOW0 hE2
              go_wp2_with fail
              go_loopw [13, 14, 15, 16, 17, 18, 19, 20, 21, 22, 23, 24] (fun fv sv _ _ _ _ _ _ _ _ _ _ wr => ∃ (S : Nat) (F : Bool), S ≤ N ∧ sv = .int .i64 S ∧ fv = .bool F ∧ Hid (F = fdS m fs K f t S) ∧ Hid (BBlk wr g (boolsF N (nwF m fs K f t))) ∧ Hid (BBlk wr gn (boolsF N (nsF m fs K f t S))) ∧ Below W0.heap.size W0 wr) (fun _ sv _ _ _ _ _ _ _ _ _ _ _ => N - (intOf sv).toNat)
              case atStart => exact ⟨0, false, Nat.zero_le _, rfl, rfl, rfl, HNOW4, HNS4, E4⟩
              case round =>
                clear HNOW4 HNS4 E4
                obtain ⟨S, F, hS, rfl, rfl, HF, HNOW, HNX, hE⟩ := hrel
                obtain ⟨b0, b1, b2⟩ := HBX.out wr hE
                by_cases hsl : S < N
                · have hsli : (S : Int) < N := by omega
                  have hs00 : (0 : Int) ≤ S := by omega
                  have gs : IntKind.i64.wrap ((S : Int) + 1) = (S : Int) + 1 := IntWalk.i64_in _ (by omega)
                  obtain ⟨b, hb⟩ : ∃ b, b = nwF m fs K f t S := ⟨_, rfl⟩
                  have zb : wr.cell? ⟨g, S, none⟩ = some (.bool b) := by rw [HNOW.out.cell (by rw [boolsF_length]; omega), eb_boolsF _ _ _ hsl, hb]
                  cases b with
                  | false =>
                    have HNX' : Hid (BBlk wr gn (boolsF N (nsF m fs K f t (S + 1)))) := by show BBlk _ _ _; rw [← ns_skip hb.symm]; exact HNX.out
                    have HF' : Hid (F = fdS m fs K f t (S + 1)) := by show _ = _; rw [fd_skip hb.symm]; exact HF.out
                    clear HNX HF hb
                    go_wp2_with fail
                    exact ⟨⟨S + 1, F, by omega, by push_cast; rfl, rfl, HF', HNOW, HNX', hE⟩, by simp [intOf]; omega⟩
                  | true =>
                    have HNS := Lib.hid hb.symm
                    obtain ⟨i, hi⟩ : ∃ i, i = S / m := ⟨_, rfl⟩
                    obtain ⟨q, hq⟩ : ∃ q, q = S % m := ⟨_, rfl⟩
                    have hik : i < K := by rw [hi]; exact (st_lt (by rw [← HNN.out]; exact hsl)).1
                    have hqm : q < m := by rw [hq]; exact Nat.mod_lt _ hm1
                    have kd : Int.tdiv (S : Int) (m : Int) = (i : Int) := by rw [hi]; rfl
                    have kdw : IntKind.i64.wrap (i : Int) = (i : Int) := IntWalk.i64_in _ (by omega)
                    have km : Int.tmod (S : Int) (m : Int) = (q : Int) := by rw [hq]; rfl
                    have kmw : IntKind.i64.wrap (q : Int) = (q : Int) := IntWalk.i64_in _ (by omega)
                    have HIS := Lib.hid hi; have HQS := Lib.hid hq
                    obtain ⟨d0, hd0⟩ : ∃ a, a = stA m fs i 0 := ⟨_, rfl⟩
                    obtain ⟨d1, hd1⟩ : ∃ a, a = stA m fs i 1 := ⟨_, rfl⟩
                    obtain ⟨d2, hd2⟩ : ∃ a, a = stA m fs i 2 := ⟨_, rfl⟩
                    obtain ⟨e, he⟩ : ∃ e, e = flp i := ⟨_, rfl⟩
                    have HD1 := Lib.hid hd1; have HE := Lib.hid he
                    have hFN : fdS m fs K f t (S + 1) = (F || ((d1 == a0) && (q == 0) && (e != f))) := by rw [fd_next hb.symm hi hq, ← HF.out, hd1, he, HA0.out]
                    obtain ⟨p2, hp2⟩ : ∃ p, p = i % 2 := ⟨_, rfl⟩
                    have k1 : Int.tmod (i : Int) 2 = (p2 : Int) := by rw [hp2]; rfl
                    have k2 : IntKind.i64.wrap (p2 : Int) = (p2 : Int) := IntWalk.i64_in _ (by omega)
                    have k3 : IntKind.i64.wrap (2 * (p2 : Int)) = 2 * (p2 : Int) := IntWalk.i64_in _ (by omega)
                    have k4 : IntKind.i64.wrap ((i : Int) + 1) = (i : Int) + 1 := IntWalk.i64_in _ (by omega)
                    have k5 : IntKind.i64.wrap ((i : Int) + 1 - 2 * (p2 : Int)) = (e : Int) := by rw [IntWalk.i64_in _ (by omega), hp2, he]; exact flp_int i
                    have HST4 : Hid (∀ W, Below W0.heap.size W0 W → Calls Try.prog 18 #[.agg #[.int .i64 n, .int .i64 m, .slice sa k cap], .int .i64 i] W fun e w' => e = .returned (.tuple #[.int .i64 d0, .int .i64 d1, .int .i64 d2]) ∧ Below W.heap.size W w') := fun W h => by rw [hd0, hd1, hd2]; exact HSTEP.out W i h hik
                    clear hi hq hd0 hd1 hd2 he hp2 hb
                    go_wp2_with fail
                    go_quiet (fail)
                    have hEd := fun x => drewN_below hE x
                    obtain ⟨w5, h5⟩ : ∃ w5, w5 = wr.drewN nq := ⟨_, rfl⟩
                    have E5 : Below W0.heap.size W0 w5 := by rw [h5]; exact hEd nq
                    have HNOW5 : Hid (BBlk w5 g (boolsF N (nwF m fs K f t))) := by rw [h5]; exact HNOW.out
                    have HNX5 : Hid (BBlk w5 gn (boolsF N (nsF m fs K f t S))) := by rw [h5]; exact HNX.out
                    rw [← h5]
                    clear h5 hEd hE HNOW HNX zb b0 b1 b2
                    obtain ⟨b0, b1, b2⟩ := HBX.out w5 E5
                    have hst := Lib.hid (HST4.out w5 E5)
                    clear HST4 kd kdw km
                    go_wp2_with fail
                    refine hst.out.mono ?_
                    rintro _ w6 ⟨rfl, hb6⟩
                    have E6 := E5.trans (hb6.mono E5.size)
                    have HNOW6 := Lib.hid (HNOW5.out.belowAll hb6)
                    have HNJ6 : Hid (BBlk w6 gn (boolsF N (njF m fs K f t S 0))) := by show BBlk _ _ _; rw [← nj_zero]; exact HNX5.out.belowAll hb6
                    clear hst hb6 E5 HNOW5 HNX5 b0 b1 b2 HF
                    have hcase : ∃ F' : Bool, Hid (F' = fdS m fs K f t (S + 1)) ∧ ((F = true ∧ F' = true) ∨ (F = false ∧ F' = false ∧ ¬ d1 = a0) ∨ (F = false ∧ F' = false ∧ d1 = a0 ∧ ¬ q = 0) ∨ (F = false ∧ d1 = a0 ∧ q = 0 ∧ F' = (e != f))) := by
                      refine ⟨_, hFN.symm, ?_⟩
                      cases F with
                      | true => exact .inl ⟨rfl, rfl⟩
                      | false =>
                        refine .inr ?_
                        by_cases e1 : d1 = a0
                        · refine .inr ?_
                          by_cases e2 : q = 0
                          · exact .inr ⟨rfl, e1, e2, by rw [beq_iff_eq.2 e1, beq_iff_eq.2 e2]; rfl⟩
                          · exact .inl ⟨rfl, by rw [beq_eq_false_iff_ne.2 e2]; simp, e1, e2⟩
                        · exact .inl ⟨rfl, by rw [beq_eq_false_iff_ne.2 e1]; simp, e1⟩
                    obtain ⟨F', HF', hcase⟩ := hcase
                    clear hFN
                    rcases hcase with ⟨rfl, hFe⟩ | ⟨rfl, hFe, h1⟩ | ⟨rfl, hFe, h1, h2⟩ | ⟨rfl, h1, h2, hFe⟩
                    · subst hFe
                      go_wp2_with fail
                      go_loopw [21, 22, 23, 24] (fun jv _ _ _ wr => ∃ j : Nat, j ≤ K ∧ jv = .int .i64 j ∧ Hid (BBlk wr g (boolsF N (nwF m fs K f t))) ∧ Hid (BBlk wr gn (boolsF N (njF m fs K f t S j))) ∧ Below W0.heap.size W0 wr) (fun jv _ _ _ _ => K - (intOf jv).toNat)
                      case atStart => exact ⟨0, Nat.zero_le _, rfl, HNOW6, HNJ6, E6⟩
                      case round =>
                        clear HNOW6 HNJ6 E6
                        obtain ⟨j, hj, rfl, HNOW, HNJ, hE⟩ := hrel
                        obtain ⟨b0, b1, b2⟩ := HBX.out wr hE
                        by_cases hjl : j < K
                        · have hjli : (j : Int) < K := by omega
                          have hj0 : (0 : Int) ≤ j := by omega
                          have gj : IntKind.i64.wrap ((j : Int) + 1) = (j : Int) + 1 := IntWalk.i64_in _ (by omega)
                          have hst := Lib.hid (HSTEP.out wr j hE hjl)
                          obtain ⟨-, -, hcm⟩ := HLT.out j hjl
                          obtain ⟨c0, hc0⟩ : ∃ a, a = stA m fs j 0 := ⟨_, rfl⟩
                          obtain ⟨c1, hc1⟩ : ∃ a, a = stA m fs j 1 := ⟨_, rfl⟩
                          obtain ⟨c2, hc2⟩ : ∃ a, a = stA m fs j 2 := ⟨_, rfl⟩
                          rw [← hc0, ← hc1, ← hc2] at hst
                          rw [← hc2] at hcm
                          obtain ⟨r, hr⟩ : ∃ r, r = pcB m fs i j := ⟨_, rfl⟩
                          have hr2 : r = ((c0 == d1) && (j != e)) := by rw [hr, pc_sym, hc0, HD1.out, HE.out]
                          have HR := Lib.hid hr
                          have HC2 := Lib.hid hc2
                          clear hc0 hc1 hc2 hr
                          go_wp2_with fail
                          refine hst.out.mono ?_
                          rintro _ w7 ⟨rfl, hb7⟩
                          have E7 := hE.trans (hb7.mono hE.size)
                          have HNOW7 := Lib.hid (HNOW.out.belowAll hb7)
                          have HNJ7 := Lib.hid (HNJ.out.belowAll hb7)
                          clear hst hb7 HNOW HNJ hE b0 b1 b2
                          cases r with
                          | true =>
                            have hh := hr2.symm
                            rw [Bool.and_eq_true, beq_iff_eq, bne_iff_ne] at hh
                            have hcd : d1 = c0 := hh.1.symm
                            have q5 : ¬ ((j : Int) = (e : Int)) := by omega
                            obtain ⟨Q, hQ⟩ : ∃ Q, Q = j * m := ⟨_, rfl⟩
                            obtain ⟨R, hRR⟩ : ∃ R, R = (q + c2) % m := ⟨_, rfl⟩
                            have hRm : R < m := by rw [hRR]; exact Nat.mod_lt _ hm1
                            have hQN : Q + m ≤ N := by
                              rw [hQ, HNN.out]
                              have : (j + 1) * m ≤ K * m := Nat.mul_le_mul_right _ hjl
                              rw [Nat.add_mul] at this; omega
                            have kQ : (j : Int) * (m : Int) = (Q : Int) := by rw [hQ]; push_cast; rfl
                            have kQw : IntKind.i64.wrap (Q : Int) = (Q : Int) := IntWalk.i64_in _ (by omega)
                            have kR : Int.tmod ((q : Int) + c2) (m : Int) = (R : Int) := by rw [hRR]; rfl
                            have kRs : IntKind.i64.wrap ((q : Int) + c2) = (q : Int) + c2 := IntWalk.i64_in _ (by omega)
                            have kRw : IntKind.i64.wrap (R : Int) = (R : Int) := IntWalk.i64_in _ (by omega)
                            have kQR : IntKind.i64.wrap ((Q : Int) + R) = ((Q + R : Nat) : Int) := by rw [IntWalk.i64_in _ (by omega)]; push_cast; rfl
                            have hy0 : ((Q + R : Nat) : Int) < N := by omega
                            have hy1 : (0 : Int) ≤ ((Q + R : Nat) : Int) := by omega
                            obtain ⟨vb, hvb⟩ : ∃ vb, vb = njF m fs K f t S j (Q + R) := ⟨_, rfl⟩
                            have zo : w7.cell? ⟨gn, Q + R, none⟩ = some (.bool vb) := by rw [HNJ7.out.cell (by rw [boolsF_length]; omega), eb_boolsF _ _ _ (by omega), hvb]
                            have zf : w7.frozen? ⟨gn, Q + R, none⟩ = false := HNJ7.out.frozen _
                            have HNJ8 : Hid (BBlk (w7.setCell ⟨gn, Q + R, none⟩ (.bool true)) gn (boolsF N (njF m fs K f t S (j + 1)))) := by
                              show BBlk _ _ _
                              rw [← nj_yes hm1 HNS.out HIS.out HQS.out HR.out.symm, ← HC2.out, ← hQ, ← hRR]
                              exact HNJ7.out.set _ _
                            have HNOW8 : Hid (BBlk (w7.setCell ⟨gn, Q + R, none⟩ (.bool true)) g (boolsF N (nwF m fs K f t))) := (Below.heap_setCell w7 _ _ _ (by simp; omega)).trans HNOW7.out
                            have E8 := E7.setCell (p := ⟨gn, Q + R, none⟩) hgn (.bool true)
                            clear hh hr2 hQ hRR hvb HNJ7 HNOW7
                            subst hcd
                            go_wp2_with fail
                            exact ⟨⟨j + 1, by omega, by push_cast; rfl, HNOW8, HNJ8, E8⟩, by simp [intOf]; omega⟩
                          | false =>
                            have HNJ8 : Hid (BBlk w7 gn (boolsF N (njF m fs K f t S (j + 1)))) := by
                              show BBlk _ _ _
                              rw [← nj_no HIS.out HR.out.symm]
                              exact HNJ7.out
                            clear HNJ7
                            by_cases q4' : d1 = c0
                            · have q5 : j = e := by
                                rw [beq_iff_eq.2 q4'.symm] at hr2
                                by_cases e5 : j = e
                                · exact e5
                                · rw [bne_iff_ne.2 e5] at hr2; cases hr2
                              clear hr2
                              subst q4'
                              subst q5
                              go_wp2_with fail
                              exact ⟨⟨j + 1, by omega, by push_cast; rfl, HNOW7, HNJ8, E7⟩, by simp [intOf]; omega⟩
                            · have q4 : ¬ ((c0 : Int) = (d1 : Int)) := by omega
                              clear q4' hr2
                              go_wp2_with fail
                              exact ⟨⟨j + 1, by omega, by push_cast; rfl, HNOW7, HNJ8, E7⟩, by simp [intOf]; omega⟩
                        · obtain rfl : j = K := by omega
                          have HNS8 : Hid (BBlk wr gn (boolsF N (nsF m fs j f t (S + 1)))) := by
                            show BBlk _ _ _
                            have h := HNJ.out
                            rw [HNN.out, nj_all, ← HNN.out] at h
                            exact h
                          clear HNJ b0 b1 b2
                          go_wp2_with fail
                          exact ⟨⟨S + 1, _, by omega, by push_cast; rfl, rfl, HF', HNOW, HNS8, hE⟩, by simp [intOf]; omega⟩
                    · subst hFe
                      have y1 : ¬ ((d1 : Int) = (a0 : Int)) := by omega
                      clear h1
                      go_wp2_with fail
                      clear y1
                      go_loopw [21, 22, 23, 24] (fun jv _ _ _ wr => ∃ j : Nat, j ≤ K ∧ jv = .int .i64 j ∧ Hid (BBlk wr g (boolsF N (nwF m fs K f t))) ∧ Hid (BBlk wr gn (boolsF N (njF m fs K f t S j))) ∧ Below W0.heap.size W0 wr) (fun jv _ _ _ _ => K - (intOf jv).toNat)
                      case atStart => exact ⟨0, Nat.zero_le _, rfl, HNOW6, HNJ6, E6⟩
                      case round =>
                        clear HNOW6 HNJ6 E6
                        obtain ⟨j, hj, rfl, HNOW, HNJ, hE⟩ := hrel
                        obtain ⟨b0, b1, b2⟩ := HBX.out wr hE
                        by_cases hjl : j < K
                        · have hjli : (j : Int) < K := by omega
                          have hj0 : (0 : Int) ≤ j := by omega
                          have gj : IntKind.i64.wrap ((j : Int) + 1) = (j : Int) + 1 := IntWalk.i64_in _ (by omega)
                          have hst := Lib.hid (HSTEP.out wr j hE hjl)
                          obtain ⟨-, -, hcm⟩ := HLT.out j hjl
                          obtain ⟨c0, hc0⟩ : ∃ a, a = stA m fs j 0 := ⟨_, rfl⟩
                          obtain ⟨c1, hc1⟩ : ∃ a, a = stA m fs j 1 := ⟨_, rfl⟩
                          obtain ⟨c2, hc2⟩ : ∃ a, a = stA m fs j 2 := ⟨_, rfl⟩
                          rw [← hc0, ← hc1, ← hc2] at hst
                          rw [← hc2] at hcm
                          obtain ⟨r, hr⟩ : ∃ r, r = pcB m fs i j := ⟨_, rfl⟩
                          have hr2 : r = ((c0 == d1) && (j != e)) := by rw [hr, pc_sym, hc0, HD1.out, HE.out]
                          have HR := Lib.hid hr
                          have HC2 := Lib.hid hc2
                          clear hc0 hc1 hc2 hr
                          go_wp2_with fail
                          refine hst.out.mono ?_
                          rintro _ w7 ⟨rfl, hb7⟩
                          have E7 := hE.trans (hb7.mono hE.size)
                          have HNOW7 := Lib.hid (HNOW.out.belowAll hb7)
                          have HNJ7 := Lib.hid (HNJ.out.belowAll hb7)
                          clear hst hb7 HNOW HNJ hE b0 b1 b2
                          cases r with
                          | true =>
                            have hh := hr2.symm
                            rw [Bool.and_eq_true, beq_iff_eq, bne_iff_ne] at hh
                            have hcd : d1 = c0 := hh.1.symm
                            have q5 : ¬ ((j : Int) = (e : Int)) := by omega
                            obtain ⟨Q, hQ⟩ : ∃ Q, Q = j * m := ⟨_, rfl⟩
                            obtain ⟨R, hRR⟩ : ∃ R, R = (q + c2) % m := ⟨_, rfl⟩
                            have hRm : R < m := by rw [hRR]; exact Nat.mod_lt _ hm1
                            have hQN : Q + m ≤ N := by
                              rw [hQ, HNN.out]
                              have : (j + 1) * m ≤ K * m := Nat.mul_le_mul_right _ hjl
                              rw [Nat.add_mul] at this; omega
                            have kQ : (j : Int) * (m : Int) = (Q : Int) := by rw [hQ]; push_cast; rfl
                            have kQw : IntKind.i64.wrap (Q : Int) = (Q : Int) := IntWalk.i64_in _ (by omega)
                            have kR : Int.tmod ((q : Int) + c2) (m : Int) = (R : Int) := by rw [hRR]; rfl
                            have kRs : IntKind.i64.wrap ((q : Int) + c2) = (q : Int) + c2 := IntWalk.i64_in _ (by omega)
                            have kRw : IntKind.i64.wrap (R : Int) = (R : Int) := IntWalk.i64_in _ (by omega)
                            have kQR : IntKind.i64.wrap ((Q : Int) + R) = ((Q + R : Nat) : Int) := by rw [IntWalk.i64_in _ (by omega)]; push_cast; rfl
                            have hy0 : ((Q + R : Nat) : Int) < N := by omega
                            have hy1 : (0 : Int) ≤ ((Q + R : Nat) : Int) := by omega
                            obtain ⟨vb, hvb⟩ : ∃ vb, vb = njF m fs K f t S j (Q + R) := ⟨_, rfl⟩
                            have zo : w7.cell? ⟨gn, Q + R, none⟩ = some (.bool vb) := by rw [HNJ7.out.cell (by rw [boolsF_length]; omega), eb_boolsF _ _ _ (by omega), hvb]
                            have zf : w7.frozen? ⟨gn, Q + R, none⟩ = false := HNJ7.out.frozen _
                            have HNJ8 : Hid (BBlk (w7.setCell ⟨gn, Q + R, none⟩ (.bool true)) gn (boolsF N (njF m fs K f t S (j + 1)))) := by
                              show BBlk _ _ _
                              rw [← nj_yes hm1 HNS.out HIS.out HQS.out HR.out.symm, ← HC2.out, ← hQ, ← hRR]
                              exact HNJ7.out.set _ _
                            have HNOW8 : Hid (BBlk (w7.setCell ⟨gn, Q + R, none⟩ (.bool true)) g (boolsF N (nwF m fs K f t))) := (Below.heap_setCell w7 _ _ _ (by simp; omega)).trans HNOW7.out
                            have E8 := E7.setCell (p := ⟨gn, Q + R, none⟩) hgn (.bool true)
                            clear hh hr2 hQ hRR hvb HNJ7 HNOW7
                            subst hcd
                            go_wp2_with fail
                            exact ⟨⟨j + 1, by omega, by push_cast; rfl, HNOW8, HNJ8, E8⟩, by simp [intOf]; omega⟩
                          | false =>
                            have HNJ8 : Hid (BBlk w7 gn (boolsF N (njF m fs K f t S (j + 1)))) := by
                              show BBlk _ _ _
                              rw [← nj_no HIS.out HR.out.symm]
                              exact HNJ7.out
                            clear HNJ7
                            by_cases q4' : d1 = c0
                            · have q5 : j = e := by
                                rw [beq_iff_eq.2 q4'.symm] at hr2
                                by_cases e5 : j = e
                                · exact e5
                                · rw [bne_iff_ne.2 e5] at hr2; cases hr2
                              clear hr2
                              subst q4'
                              subst q5
                              go_wp2_with fail
                              exact ⟨⟨j + 1, by omega, by push_cast; rfl, HNOW7, HNJ8, E7⟩, by simp [intOf]; omega⟩
                            · have q4 : ¬ ((c0 : Int) = (d1 : Int)) := by omega
                              clear q4' hr2
                              go_wp2_with fail
                              exact ⟨⟨j + 1, by omega, by push_cast; rfl, HNOW7, HNJ8, E7⟩, by simp [intOf]; omega⟩
                        · obtain rfl : j = K := by omega
                          have HNS8 : Hid (BBlk wr gn (boolsF N (nsF m fs j f t (S + 1)))) := by
                            show BBlk _ _ _
                            have h := HNJ.out
                            rw [HNN.out, nj_all, ← HNN.out] at h
                            exact h
                          clear HNJ b0 b1 b2
                          go_wp2_with fail
                          exact ⟨⟨S + 1, _, by omega, by push_cast; rfl, rfl, HF', HNOW, HNS8, hE⟩, by simp [intOf]; omega⟩
                    · subst hFe
                      have y2 : ¬ ((q : Int) = 0) := by omega
                      subst h1
                      clear h2
                      go_wp2_with fail
                      clear y2
                      go_loopw [21, 22, 23, 24] (fun jv _ _ _ wr => ∃ j : Nat, j ≤ K ∧ jv = .int .i64 j ∧ Hid (BBlk wr g (boolsF N (nwF m fs K f t))) ∧ Hid (BBlk wr gn (boolsF N (njF m fs K f t S j))) ∧ Below W0.heap.size W0 wr) (fun jv _ _ _ _ => K - (intOf jv).toNat)
                      case atStart => exact ⟨0, Nat.zero_le _, rfl, HNOW6, HNJ6, E6⟩
                      case round =>
                        clear HNOW6 HNJ6 E6
                        obtain ⟨j, hj, rfl, HNOW, HNJ, hE⟩ := hrel
                        obtain ⟨b0, b1, b2⟩ := HBX.out wr hE
                        by_cases hjl : j < K
                        · have hjli : (j : Int) < K := by omega
                          have hj0 : (0 : Int) ≤ j := by omega
                          have gj : IntKind.i64.wrap ((j : Int) + 1) = (j : Int) + 1 := IntWalk.i64_in _ (by omega)
                          have hst := Lib.hid (HSTEP.out wr j hE hjl)
                          obtain ⟨-, -, hcm⟩ := HLT.out j hjl
                          obtain ⟨c0, hc0⟩ : ∃ a, a = stA m fs j 0 := ⟨_, rfl⟩
                          obtain ⟨c1, hc1⟩ : ∃ a, a = stA m fs j 1 := ⟨_, rfl⟩
                          obtain ⟨c2, hc2⟩ : ∃ a, a = stA m fs j 2 := ⟨_, rfl⟩
                          rw [← hc0, ← hc1, ← hc2] at hst
                          rw [← hc2] at hcm
                          obtain ⟨r, hr⟩ : ∃ r, r = pcB m fs i j := ⟨_, rfl⟩
                          have hr2 : r = ((c0 == d1) && (j != e)) := by rw [hr, pc_sym, hc0, HD1.out, HE.out]
                          have HR := Lib.hid hr
                          have HC2 := Lib.hid hc2
                          clear hc0 hc1 hc2 hr
                          go_wp2_with fail
                          refine hst.out.mono ?_
                          rintro _ w7 ⟨rfl, hb7⟩
                          have E7 := hE.trans (hb7.mono hE.size)
                          have HNOW7 := Lib.hid (HNOW.out.belowAll hb7)
                          have HNJ7 := Lib.hid (HNJ.out.belowAll hb7)
                          clear hst hb7 HNOW HNJ hE b0 b1 b2
                          cases r with
                          | true =>
                            have hh := hr2.symm
                            rw [Bool.and_eq_true, beq_iff_eq, bne_iff_ne] at hh
                            have hcd : d1 = c0 := hh.1.symm
                            have q5 : ¬ ((j : Int) = (e : Int)) := by omega
                            obtain ⟨Q, hQ⟩ : ∃ Q, Q = j * m := ⟨_, rfl⟩
                            obtain ⟨R, hRR⟩ : ∃ R, R = (q + c2) % m := ⟨_, rfl⟩
                            have hRm : R < m := by rw [hRR]; exact Nat.mod_lt _ hm1
                            have hQN : Q + m ≤ N := by
                              rw [hQ, HNN.out]
                              have : (j + 1) * m ≤ K * m := Nat.mul_le_mul_right _ hjl
                              rw [Nat.add_mul] at this; omega
                            have kQ : (j : Int) * (m : Int) = (Q : Int) := by rw [hQ]; push_cast; rfl
                            have kQw : IntKind.i64.wrap (Q : Int) = (Q : Int) := IntWalk.i64_in _ (by omega)
                            have kR : Int.tmod ((q : Int) + c2) (m : Int) = (R : Int) := by rw [hRR]; rfl
                            have kRs : IntKind.i64.wrap ((q : Int) + c2) = (q : Int) + c2 := IntWalk.i64_in _ (by omega)
                            have kRw : IntKind.i64.wrap (R : Int) = (R : Int) := IntWalk.i64_in _ (by omega)
                            have kQR : IntKind.i64.wrap ((Q : Int) + R) = ((Q + R : Nat) : Int) := by rw [IntWalk.i64_in _ (by omega)]; push_cast; rfl
                            have hy0 : ((Q + R : Nat) : Int) < N := by omega
                            have hy1 : (0 : Int) ≤ ((Q + R : Nat) : Int) := by omega
                            obtain ⟨vb, hvb⟩ : ∃ vb, vb = njF m fs K f t S j (Q + R) := ⟨_, rfl⟩
                            have zo : w7.cell? ⟨gn, Q + R, none⟩ = some (.bool vb) := by rw [HNJ7.out.cell (by rw [boolsF_length]; omega), eb_boolsF _ _ _ (by omega), hvb]
                            have zf : w7.frozen? ⟨gn, Q + R, none⟩ = false := HNJ7.out.frozen _
                            have HNJ8 : Hid (BBlk (w7.setCell ⟨gn, Q + R, none⟩ (.bool true)) gn (boolsF N (njF m fs K f t S (j + 1)))) := by
                              show BBlk _ _ _
                              rw [← nj_yes hm1 HNS.out HIS.out HQS.out HR.out.symm, ← HC2.out, ← hQ, ← hRR]
                              exact HNJ7.out.set _ _
                            have HNOW8 : Hid (BBlk (w7.setCell ⟨gn, Q + R, none⟩ (.bool true)) g (boolsF N (nwF m fs K f t))) := (Below.heap_setCell w7 _ _ _ (by simp; omega)).trans HNOW7.out
                            have E8 := E7.setCell (p := ⟨gn, Q + R, none⟩) hgn (.bool true)
                            clear hh hr2 hQ hRR hvb HNJ7 HNOW7
                            subst hcd
                            go_wp2_with fail
                            exact ⟨⟨j + 1, by omega, by push_cast; rfl, HNOW8, HNJ8, E8⟩, by simp [intOf]; omega⟩
                          | false =>
                            have HNJ8 : Hid (BBlk w7 gn (boolsF N (njF m fs K f t S (j + 1)))) := by
                              show BBlk _ _ _
                              rw [← nj_no HIS.out HR.out.symm]
                              exact HNJ7.out
                            clear HNJ7
                            by_cases q4' : d1 = c0
                            · have q5 : j = e := by
                                rw [beq_iff_eq.2 q4'.symm] at hr2
                                by_cases e5 : j = e
                                · exact e5
                                · rw [bne_iff_ne.2 e5] at hr2; cases hr2
                              clear hr2
                              subst q4'
                              subst q5
                              go_wp2_with fail
                              exact ⟨⟨j + 1, by omega, by push_cast; rfl, HNOW7, HNJ8, E7⟩, by simp [intOf]; omega⟩
                            · have q4 : ¬ ((c0 : Int) = (d1 : Int)) := by omega
                              clear q4' hr2
                              go_wp2_with fail
                              exact ⟨⟨j + 1, by omega, by push_cast; rfl, HNOW7, HNJ8, E7⟩, by simp [intOf]; omega⟩
                        · obtain rfl : j = K := by omega
                          have HNS8 : Hid (BBlk wr gn (boolsF N (nsF m fs j f t (S + 1)))) := by
                            show BBlk _ _ _
                            have h := HNJ.out
                            rw [HNN.out, nj_all, ← HNN.out] at h
                            exact h
                          clear HNJ b0 b1 b2
                          go_wp2_with fail
                          exact ⟨⟨S + 1, _, by omega, by push_cast; rfl, rfl, HF', HNOW, HNS8, hE⟩, by simp [intOf]; omega⟩
                    · have y3 : ((e : Int) != (f : Int)) = F' := by
                        rw [hFe]
                        by_cases e5 : e = f
                        · rw [e5]; simp
                        · rw [bne_iff_ne.2 e5, bne_iff_ne]; omega
                      subst h1
                      subst h2
                      clear hFe
                      go_wp2_with fail
                      clear y3
                      go_loopw [21, 22, 23, 24] (fun jv _ _ _ wr => ∃ j : Nat, j ≤ K ∧ jv = .int .i64 j ∧ Hid (BBlk wr g (boolsF N (nwF m fs K f t))) ∧ Hid (BBlk wr gn (boolsF N (njF m fs K f t S j))) ∧ Below W0.heap.size W0 wr) (fun jv _ _ _ _ => K - (intOf jv).toNat)
                      case atStart => exact ⟨0, Nat.zero_le _, rfl, HNOW6, HNJ6, E6⟩
                      case round =>
                        clear HNOW6 HNJ6 E6
                        obtain ⟨j, hj, rfl, HNOW, HNJ, hE⟩ := hrel
                        obtain ⟨b0, b1, b2⟩ := HBX.out wr hE
                        by_cases hjl : j < K
                        · have hjli : (j : Int) < K := by omega
                          have hj0 : (0 : Int) ≤ j := by omega
                          have gj : IntKind.i64.wrap ((j : Int) + 1) = (j : Int) + 1 := IntWalk.i64_in _ (by omega)
                          have hst := Lib.hid (HSTEP.out wr j hE hjl)
                          obtain ⟨-, -, hcm⟩ := HLT.out j hjl
                          obtain ⟨c0, hc0⟩ : ∃ a, a = stA m fs j 0 := ⟨_, rfl⟩
                          obtain ⟨c1, hc1⟩ : ∃ a, a = stA m fs j 1 := ⟨_, rfl⟩
                          obtain ⟨c2, hc2⟩ : ∃ a, a = stA m fs j 2 := ⟨_, rfl⟩
                          rw [← hc0, ← hc1, ← hc2] at hst
                          rw [← hc2] at hcm
                          obtain ⟨r, hr⟩ : ∃ r, r = pcB m fs i j := ⟨_, rfl⟩
                          have hr2 : r = ((c0 == d1) && (j != e)) := by rw [hr, pc_sym, hc0, HD1.out, HE.out]
                          have HR := Lib.hid hr
                          have HC2 := Lib.hid hc2
                          clear hc0 hc1 hc2 hr
                          go_wp2_with fail
                          refine hst.out.mono ?_
                          rintro _ w7 ⟨rfl, hb7⟩
                          have E7 := hE.trans (hb7.mono hE.size)
                          have HNOW7 := Lib.hid (HNOW.out.belowAll hb7)
                          have HNJ7 := Lib.hid (HNJ.out.belowAll hb7)
                          clear hst hb7 HNOW HNJ hE b0 b1 b2
                          cases r with
                          | true =>
                            have hh := hr2.symm
                            rw [Bool.and_eq_true, beq_iff_eq, bne_iff_ne] at hh
                            have hcd : d1 = c0 := hh.1.symm
                            have q5 : ¬ ((j : Int) = (e : Int)) := by omega
                            obtain ⟨Q, hQ⟩ : ∃ Q, Q = j * m := ⟨_, rfl⟩
                            obtain ⟨R, hRR⟩ : ∃ R, R = (0 + c2) % m := ⟨_, rfl⟩
                            have hRm : R < m := by rw [hRR]; exact Nat.mod_lt _ hm1
                            have hQN : Q + m ≤ N := by
                              rw [hQ, HNN.out]
                              have : (j + 1) * m ≤ K * m := Nat.mul_le_mul_right _ hjl
                              rw [Nat.add_mul] at this; omega
                            have kQ : (j : Int) * (m : Int) = (Q : Int) := by rw [hQ]; push_cast; rfl
                            have kQw : IntKind.i64.wrap (Q : Int) = (Q : Int) := IntWalk.i64_in _ (by omega)
                            have kR : Int.tmod (c2 : Int) (m : Int) = (R : Int) := by rw [hRR, Nat.zero_add]; rfl
                            have kRs : IntKind.i64.wrap (c2 : Int) = (c2 : Int) := IntWalk.i64_in _ (by omega)
                            have kRw : IntKind.i64.wrap (R : Int) = (R : Int) := IntWalk.i64_in _ (by omega)
                            have kQR : IntKind.i64.wrap ((Q : Int) + R) = ((Q + R : Nat) : Int) := by rw [IntWalk.i64_in _ (by omega)]; push_cast; rfl
                            have hy0 : ((Q + R : Nat) : Int) < N := by omega
                            have hy1 : (0 : Int) ≤ ((Q + R : Nat) : Int) := by omega
                            obtain ⟨vb, hvb⟩ : ∃ vb, vb = njF m fs K f t S j (Q + R) := ⟨_, rfl⟩
                            have zo : w7.cell? ⟨gn, Q + R, none⟩ = some (.bool vb) := by rw [HNJ7.out.cell (by rw [boolsF_length]; omega), eb_boolsF _ _ _ (by omega), hvb]
                            have zf : w7.frozen? ⟨gn, Q + R, none⟩ = false := HNJ7.out.frozen _
                            have HNJ8 : Hid (BBlk (w7.setCell ⟨gn, Q + R, none⟩ (.bool true)) gn (boolsF N (njF m fs K f t S (j + 1)))) := by
                              show BBlk _ _ _
                              rw [← nj_yes hm1 HNS.out HIS.out HQS.out HR.out.symm, ← HC2.out, ← hQ, ← hRR]
                              exact HNJ7.out.set _ _
                            have HNOW8 : Hid (BBlk (w7.setCell ⟨gn, Q + R, none⟩ (.bool true)) g (boolsF N (nwF m fs K f t))) := (Below.heap_setCell w7 _ _ _ (by simp; omega)).trans HNOW7.out
                            have E8 := E7.setCell (p := ⟨gn, Q + R, none⟩) hgn (.bool true)
                            clear hh hr2 hQ hRR hvb HNJ7 HNOW7
                            subst hcd
                            go_wp2_with fail
                            exact ⟨⟨j + 1, by omega, by push_cast; rfl, HNOW8, HNJ8, E8⟩, by simp [intOf]; omega⟩
                          | false =>
                            have HNJ8 : Hid (BBlk w7 gn (boolsF N (njF m fs K f t S (j + 1)))) := by
                              show BBlk _ _ _
                              rw [← nj_no HIS.out HR.out.symm]
                              exact HNJ7.out
                            clear HNJ7
                            by_cases q4' : d1 = c0
                            · have q5 : j = e := by
                                rw [beq_iff_eq.2 q4'.symm] at hr2
                                by_cases e5 : j = e
                                · exact e5
                                · rw [bne_iff_ne.2 e5] at hr2; cases hr2
                              clear hr2
                              subst q4'
                              subst q5
                              go_wp2_with fail
                              exact ⟨⟨j + 1, by omega, by push_cast; rfl, HNOW7, HNJ8, E7⟩, by simp [intOf]; omega⟩
                            · have q4 : ¬ ((c0 : Int) = (d1 : Int)) := by omega
                              clear q4' hr2
                              go_wp2_with fail
                              exact ⟨⟨j + 1, by omega, by push_cast; rfl, HNOW7, HNJ8, E7⟩, by simp [intOf]; omega⟩
                        · obtain rfl : j = K := by omega
                          have HNS8 : Hid (BBlk wr gn (boolsF N (nsF m fs j f t (S + 1)))) := by
                            show BBlk _ _ _
                            have h := HNJ.out
                            rw [HNN.out, nj_all, ← HNN.out] at h
                            exact h
                          clear HNJ b0 b1 b2
                          go_wp2_with fail
                          exact ⟨⟨S + 1, _, by omega, by push_cast; rfl, rfl, HF', HNOW, HNS8, hE⟩, by simp [intOf]; omega⟩
                · obtain rfl : S = N := by omega
                  have hfin : F = fdB m fs K f t := by rw [HF.out, HNN.out]; exact fd_eq hm1
                  have HNX' : Hid (BBlk wr gn (boolsF S (nwF m fs K f (t + 1)))) := by
                    show BBlk _ _ _
                    have h := HNX.out
                    rw [HNN.out, ns_all HFM.out (fun j hj => (HLT.out j hj).2.2), ← HNN.out] at h
                    exact h
                  clear HNX HNOW HF b0 b1 b2
                  cases F with
                  | true =>
                    have HNB : Hid (t + 1 = bsN m fs K (f + 1)) := (bs_found HBS.out HGO.out htl HNO.out hfin.symm).symm
                    clear hfin HNX' HNO HBS
                    go_wp2_with fail
                    exact ⟨⟨f + 1, t + 1, by omega, by push_cast; rfl, by push_cast; rfl, HNB, hE⟩, by simp [intOf]; omega⟩
                  | false =>
                    have HNO' : Hid (∀ t', t' < t + 1 → fdB m fs K f t' = false) := fun t' h => by
                      by_cases e : t' = t
                      · rw [e]; exact hfin.symm
                      · exact HNO.out t' (by omega)
                    clear hfin HNO
                    go_wp2_with fail
                    exact ⟨⟨t + 1, gn, by omega, by push_cast; rfl, rfl, rfl, HNX', HNO', hE⟩, by simp [intOf]; omega⟩
            · clear hgo
              go_upto_region 12 with fail
              obtain ⟨gn, hgn0⟩ : ∃ gn, gn = w9.heap.size := ⟨_, rfl⟩
              obtain ⟨w4, h4⟩ : ∃ w4, w4 = w9.alloc (.cells (boolsA (List.replicate N false)) 4) := ⟨_, rfl⟩
              have HNS4 : Hid (BBlk w4 gn (boolsF N (nsF m fs K f t 0))) := by show BBlk _ _ _; rw [← ns_zero, boolsF_none, h4, hgn0]; exact BBlk.new w9 _
              have HNOW4 : Hid (BBlk w4 g (boolsF N (nwF m fs K f t))) := by rw [h4]; exact HNOW0.out.alloc _
              have E4 : Below W0.heap.size W0 w4 := by rw [h4]; exact hE2.alloc s2 _
              have hgn : W0.heap.size ≤ gn := by rw [hgn0]; exact s2
              have hggn : g < gn := by rw [hgn0]; exact HNOW0.out.lt
              rw [← h4, ← hgn0]
              clear h4 hgn0 HNOW0 hE2
              go_wp2_with fail
              go_loopw [13, 14, 15, 16, 17, 18, 19, 20, 21, 22, 23, 24] (fun fv sv _ _ _ _ _ _ _ _ _ _ wr => ∃ (S : Nat) (F : Bool), S ≤ N ∧ sv = .int .i64 S ∧ fv = .bool F ∧ Hid (F = fdS m fs K f t S) ∧ Hid (BBlk wr g (boolsF N (nwF m fs K f t))) ∧ Hid (BBlk wr gn (boolsF N (nsF m fs K f t S))) ∧ Below W0.heap.size W0 wr) (fun _ sv _ _ _ _ _ _ _ _ _ _ _ => N - (intOf sv).toNat)
              case atStart => exact ⟨0, false, Nat.zero_le _, rfl, rfl, rfl, HNOW4, HNS4, E4⟩
              case round =>
                clear HNOW4 HNS4 E4
                obtain ⟨S, F, hS, rfl, rfl, HF, HNOW, HNX, hE⟩ := hrel
                obtain ⟨b0, b1, b2⟩ := HBX.out wr hE
                by_cases hsl : S < N
                · have hsli : (S : Int) < N := by omega
                  have hs00 : (0 : Int) ≤ S := by omega
                  have gs : IntKind.i64.wrap ((S : Int) + 1) = (S : Int) + 1 := IntWalk.i64_in _ (by omega)
                  obtain ⟨b, hb⟩ : ∃ b, b = nwF m fs K f t S := ⟨_, rfl⟩
                  have zb : wr.cell? ⟨g, S, none⟩ = some (.bool b) := by rw [HNOW.out.cell (by rw [boolsF_length]; omega), eb_boolsF _ _ _ hsl, hb]
                  cases b with
                  | false =>
                    have HNX' : Hid (BBlk wr gn (boolsF N (nsF m fs K f t (S + 1)))) := by show BBlk _ _ _; rw [← ns_skip hb.symm]; exact HNX.out
                    have HF' : Hid (F = fdS m fs K f t (S + 1)) := by show _ = _; rw [fd_skip hb.symm]; exact HF.out
                    clear HNX HF hb
                    go_wp2_with fail
                    exact ⟨⟨S + 1, F, by omega, by push_cast; rfl, rfl, HF', HNOW, HNX', hE⟩, by simp [intOf]; omega⟩
                  | true =>
                    have HNS := Lib.hid hb.symm
                    obtain ⟨i, hi⟩ : ∃ i, i = S / m := ⟨_, rfl⟩
                    obtain ⟨q, hq⟩ : ∃ q, q = S % m := ⟨_, rfl⟩
                    have hik : i < K := by rw [hi]; exact (st_lt (by rw [← HNN.out]; exact hsl)).1
                    have hqm : q < m := by rw [hq]; exact Nat.mod_lt _ hm1
                    have kd : Int.tdiv (S : Int) (m : Int) = (i : Int) := by rw [hi]; rfl
                    have kdw : IntKind.i64.wrap (i : Int) = (i : Int) := IntWalk.i64_in _ (by omega)
                    have km : Int.tmod (S : Int) (m : Int) = (q : Int) := by rw [hq]; rfl
                    have kmw : IntKind.i64.wrap (q : Int) = (q : Int) := IntWalk.i64_in _ (by omega)
                    have HIS := Lib.hid hi; have HQS := Lib.hid hq
                    obtain ⟨d0, hd0⟩ : ∃ a, a = stA m fs i 0 := ⟨_, rfl⟩
                    obtain ⟨d1, hd1⟩ : ∃ a, a = stA m fs i 1 := ⟨_, rfl⟩
                    obtain ⟨d2, hd2⟩ : ∃ a, a = stA m fs i 2 := ⟨_, rfl⟩
                    obtain ⟨e, he⟩ : ∃ e, e = flp i := ⟨_, rfl⟩
                    have HD1 := Lib.hid hd1; have HE := Lib.hid he
                    have hFN : fdS m fs K f t (S + 1) = (F || ((d1 == a0) && (q == 0) && (e != f))) := by rw [fd_next hb.symm hi hq, ← HF.out, hd1, he, HA0.out]
                    obtain ⟨p2, hp2⟩ : ∃ p, p = i % 2 := ⟨_, rfl⟩
                    have k1 : Int.tmod (i : Int) 2 = (p2 : Int) := by rw [hp2]; rfl
                    have k2 : IntKind.i64.wrap (p2 : Int) = (p2 : Int) := IntWalk.i64_in _ (by omega)
                    have k3 : IntKind.i64.wrap (2 * (p2 : Int)) = 2 * (p2 : Int) := IntWalk.i64_in _ (by omega)
                    have k4 : IntKind.i64.wrap ((i : Int) + 1) = (i : Int) + 1 := IntWalk.i64_in _ (by omega)
                    have k5 : IntKind.i64.wrap ((i : Int) + 1 - 2 * (p2 : Int)) = (e : Int) := by rw [IntWalk.i64_in _ (by omega), hp2, he]; exact flp_int i
                    have HST4 : Hid (∀ W, Below W0.heap.size W0 W → Calls Try.prog 18 #[.agg #[.int .i64 n, .int .i64 m, .slice sa k cap], .int .i64 i] W fun e w' => e = .returned (.tuple #[.int .i64 d0, .int .i64 d1, .int .i64 d2]) ∧ Below W.heap.size W w') := fun W h => by rw [hd0, hd1, hd2]; exact HSTEP.out W i h hik
                    clear hi hq hd0 hd1 hd2 he hp2 hb
                    go_wp2_with fail
                    go_quiet (fail)
                    have hEd := fun x => drewN_below hE x
                    obtain ⟨w5, h5⟩ : ∃ w5, w5 = wr.drewN nq := ⟨_, rfl⟩
                    have E5 : Below W0.heap.size W0 w5 := by rw [h5]; exact hEd nq
                    have HNOW5 : Hid (BBlk w5 g (boolsF N (nwF m fs K f t))) := by rw [h5]; exact HNOW.out
                    have HNX5 : Hid (BBlk w5 gn (boolsF N (nsF m fs K f t S))) := by rw [h5]; exact HNX.out
                    rw [← h5]
                    clear h5 hEd hE HNOW HNX zb b0 b1 b2
                    obtain ⟨b0, b1, b2⟩ := HBX.out w5 E5
                    have hst := Lib.hid (HST4.out w5 E5)
                    clear HST4 kd kdw km
                    go_wp2_with fail
                    refine hst.out.mono ?_
                    rintro _ w6 ⟨rfl, hb6⟩
                    have E6 := E5.trans (hb6.mono E5.size)
                    have HNOW6 := Lib.hid (HNOW5.out.belowAll hb6)
                    have HNJ6 : Hid (BBlk w6 gn (boolsF N (njF m fs K f t S 0))) := by show BBlk _ _ _; rw [← nj_zero]; exact HNX5.out.belowAll hb6
                    clear hst hb6 E5 HNOW5 HNX5 b0 b1 b2 HF
                    have hcase : ∃ F' : Bool, Hid (F' = fdS m fs K f t (S + 1)) ∧ ((F = true ∧ F' = true) ∨ (F = false ∧ F' = false ∧ ¬ d1 = a0) ∨ (F = false ∧ F' = false ∧ d1 = a0 ∧ ¬ q = 0) ∨ (F = false ∧ d1 = a0 ∧ q = 0 ∧ F' = (e != f))) := by
                      refine ⟨_, hFN.symm, ?_⟩
                      cases F with
                      | true => exact .inl ⟨rfl, rfl⟩
                      | false =>
                        refine .inr ?_
                        by_cases e1 : d1 = a0
                        · refine .inr ?_
                          by_cases e2 : q = 0
                          · exact .inr ⟨rfl, e1, e2, by rw [beq_iff_eq.2 e1, beq_iff_eq.2 e2]; rfl⟩
                          · exact .inl ⟨rfl, by rw [beq_eq_false_iff_ne.2 e2]; simp, e1, e2⟩
                        · exact .inl ⟨rfl, by rw [beq_eq_false_iff_ne.2 e1]; simp, e1⟩
                    obtain ⟨F', HF', hcase⟩ := hcase
                    clear hFN
                    rcases hcase with ⟨rfl, hFe⟩ | ⟨rfl, hFe, h1⟩ | ⟨rfl, hFe, h1, h2⟩ | ⟨rfl, h1, h2, hFe⟩
                    · subst hFe
                      go_wp2_with fail
                      go_loopw [21, 22, 23, 24] (fun jv _ _ _ wr => ∃ j : Nat, j ≤ K ∧ jv = .int .i64 j ∧ Hid (BBlk wr g (boolsF N (nwF m fs K f t))) ∧ Hid (BBlk wr gn (boolsF N (njF m fs K f t S j))) ∧ Below W0.heap.size W0 wr) (fun jv _ _ _ _ => K - (intOf jv).toNat)
                      case atStart => exact ⟨0, Nat.zero_le _, rfl, HNOW6, HNJ6, E6⟩
                      case round =>
                        clear HNOW6 HNJ6 E6
                        obtain ⟨j, hj, rfl, HNOW, HNJ, hE⟩ := hrel
                        obtain ⟨b0, b1, b2⟩ := HBX.out wr hE
                        by_cases hjl : j < K
                        · have hjli : (j : Int) < K := by omega
                          have hj0 : (0 : Int) ≤ j := by omega
                          have gj : IntKind.i64.wrap ((j : Int) + 1) = (j : Int) + 1 := IntWalk.i64_in _ (by omega)
                          have hst := Lib.hid (HSTEP.out wr j hE hjl)
                          obtain ⟨-, -, hcm⟩ := HLT.out j hjl
                          obtain ⟨c0, hc0⟩ : ∃ a, a = stA m fs j 0 := ⟨_, rfl⟩
                          obtain ⟨c1, hc1⟩ : ∃ a, a = stA m fs j 1 := ⟨_, rfl⟩
                          obtain ⟨c2, hc2⟩ : ∃ a, a = stA m fs j 2 := ⟨_, rfl⟩
                          rw [← hc0, ← hc1, ← hc2] at hst
                          rw [← hc2] at hcm
                          obtain ⟨r, hr⟩ : ∃ r, r = pcB m fs i j := ⟨_, rfl⟩
                          have hr2 : r = ((c0 == d1) && (j != e)) := by rw [hr, pc_sym, hc0, HD1.out, HE.out]
                          have HR := Lib.hid hr
                          have HC2 := Lib.hid hc2
                          clear hc0 hc1 hc2 hr
                          go_wp2_with fail
                          refine hst.out.mono ?_
                          rintro _ w7 ⟨rfl, hb7⟩
                          have E7 := hE.trans (hb7.mono hE.size)
                          have HNOW7 := Lib.hid (HNOW.out.belowAll hb7)
                          have HNJ7 := Lib.hid (HNJ.out.belowAll hb7)
                          clear hst hb7 HNOW HNJ hE b0 b1 b2
                          cases r with
                          | true =>
                            have hh := hr2.symm
                            rw [Bool.and_eq_true, beq_iff_eq, bne_iff_ne] at hh
                            have hcd : d1 = c0 := hh.1.symm
                            have q5 : ¬ ((j : Int) = (e : Int)) := by omega
                            obtain ⟨Q, hQ⟩ : ∃ Q, Q = j * m := ⟨_, rfl⟩
                            obtain ⟨R, hRR⟩ : ∃ R, R = (q + c2) % m := ⟨_, rfl⟩
                            have hRm : R < m := by rw [hRR]; exact Nat.mod_lt _ hm1
                            have hQN : Q + m ≤ N := by
                              rw [hQ, HNN.out]
                              have : (j + 1) * m ≤ K * m := Nat.mul_le_mul_right _ hjl
                              rw [Nat.add_mul] at this; omega
                            have kQ : (j : Int) * (m : Int) = (Q : Int) := by rw [hQ]; push_cast; rfl
                            have kQw : IntKind.i64.wrap (Q : Int) = (Q : Int) := IntWalk.i64_in _ (by omega)
                            have kR : Int.tmod ((q : Int) + c2) (m : Int) = (R : Int) := by rw [hRR]; rfl
                            have kRs : IntKind.i64.wrap ((q : Int) + c2) = (q : Int) + c2 := IntWalk.i64_in _ (by omega)
                            have kRw : IntKind.i64.wrap (R : Int) = (R : Int) := IntWalk.i64_in _ (by omega)
                            have kQR : IntKind.i64.wrap ((Q : Int) + R) = ((Q + R : Nat) : Int) := by rw [IntWalk.i64_in _ (by omega)]; push_cast; rfl
                            have hy0 : ((Q + R : Nat) : Int) < N := by omega
                            have hy1 : (0 : Int) ≤ ((Q + R : Nat) : Int) := by omega
                            obtain ⟨vb, hvb⟩ : ∃ vb, vb = njF m fs K f t S j (Q + R) := ⟨_, rfl⟩
                            have zo : w7.cell? ⟨gn, Q + R, none⟩ = some (.bool vb) := by rw [HNJ7.out.cell (by rw [boolsF_length]; omega), eb_boolsF _ _ _ (by omega), hvb]
                            have zf : w7.frozen? ⟨gn, Q + R, none⟩ = false := HNJ7.out.frozen _
                            have HNJ8 : Hid (BBlk (w7.setCell ⟨gn, Q + R, none⟩ (.bool true)) gn (boolsF N (njF m fs K f t S (j + 1)))) := by
                              show BBlk _ _ _
                              rw [← nj_yes hm1 HNS.out HIS.out HQS.out HR.out.symm, ← HC2.out, ← hQ, ← hRR]
                              exact HNJ7.out.set _ _
                            have HNOW8 : Hid (BBlk (w7.setCell ⟨gn, Q + R, none⟩ (.bool true)) g (boolsF N (nwF m fs K f t))) := (Below.heap_setCell w7 _ _ _ (by simp; omega)).trans HNOW7.out
                            have E8 := E7.setCell (p := ⟨gn, Q + R, none⟩) hgn (.bool true)
                            clear hh hr2 hQ hRR hvb HNJ7 HNOW7
                            subst hcd
                            go_wp2_with fail
                            exact ⟨⟨j + 1, by omega, by push_cast; rfl, HNOW8, HNJ8, E8⟩, by simp [intOf]; omega⟩
                          | false =>
                            have HNJ8 : Hid (BBlk w7 gn (boolsF N (njF m fs K f t S (j + 1)))) := by
                              show BBlk _ _ _
                              rw [← nj_no HIS.out HR.out.symm]
                              exact HNJ7.out
                            clear HNJ7
                            by_cases q4' : d1 = c0
                            · have q5 : j = e := by
                                rw [beq_iff_eq.2 q4'.symm] at hr2
                                by_cases e5 : j = e
                                · exact e5
                                · rw [bne_iff_ne.2 e5] at hr2; cases hr2
                              clear hr2
                              subst q4'
                              subst q5
                              go_wp2_with fail
                              exact ⟨⟨j + 1, by omega, by push_cast; rfl, HNOW7, HNJ8, E7⟩, by simp [intOf]; omega⟩
                            · have q4 : ¬ ((c0 : Int) = (d1 : Int)) := by omega
                              clear q4' hr2
                              go_wp2_with fail
                              exact ⟨⟨j + 1, by omega, by push_cast; rfl, HNOW7, HNJ8, E7⟩, by simp [intOf]; omega⟩
                        · obtain rfl : j = K := by omega
                          have HNS8 : Hid (BBlk wr gn (boolsF N (nsF m fs j f t (S + 1)))) := by
                            show BBlk _ _ _
                            have h := HNJ.out
                            rw [HNN.out, nj_all, ← HNN.out] at h
                            exact h
                          clear HNJ b0 b1 b2
                          go_wp2_with fail
                          exact ⟨⟨S + 1, _, by omega, by push_cast; rfl, rfl, HF', HNOW, HNS8, hE⟩, by simp [intOf]; omega⟩
                    · subst hFe
                      have y1 : ¬ ((d1 : Int) = (a0 : Int)) := by omega
                      clear h1
                      go_wp2_with fail
                      clear y1
                      go_loopw [21, 22, 23, 24] (fun jv _ _ _ wr => ∃ j : Nat, j ≤ K ∧ jv = .int .i64 j ∧ Hid (BBlk wr g (boolsF N (nwF m fs K f t))) ∧ Hid (BBlk wr gn (boolsF N (njF m fs K f t S j))) ∧ Below W0.heap.size W0 wr) (fun jv _ _ _ _ => K - (intOf jv).toNat)
                      case atStart => exact ⟨0, Nat.zero_le _, rfl, HNOW6, HNJ6, E6⟩
                      case round =>
                        clear HNOW6 HNJ6 E6
                        obtain ⟨j, hj, rfl, HNOW, HNJ, hE⟩ := hrel
                        obtain ⟨b0, b1, b2⟩ := HBX.out wr hE
                        by_cases hjl : j < K
                        · have hjli : (j : Int) < K := by omega
                          have hj0 : (0 : Int) ≤ j := by omega
                          have gj : IntKind.i64.wrap ((j : Int) + 1) = (j : Int) + 1 := IntWalk.i64_in _ (by omega)
                          have hst := Lib.hid (HSTEP.out wr j hE hjl)
                          obtain ⟨-, -, hcm⟩ := HLT.out j hjl
                          obtain ⟨c0, hc0⟩ : ∃ a, a = stA m fs j 0 := ⟨_, rfl⟩
                          obtain ⟨c1, hc1⟩ : ∃ a, a = stA m fs j 1 := ⟨_, rfl⟩
                          obtain ⟨c2, hc2⟩ : ∃ a, a = stA m fs j 2 := ⟨_, rfl⟩
                          rw [← hc0, ← hc1, ← hc2] at hst
                          rw [← hc2] at hcm
                          obtain ⟨r, hr⟩ : ∃ r, r = pcB m fs i j := ⟨_, rfl⟩
                          have hr2 : r = ((c0 == d1) && (j != e)) := by rw [hr, pc_sym, hc0, HD1.out, HE.out]
                          have HR := Lib.hid hr
                          have HC2 := Lib.hid hc2
                          clear hc0 hc1 hc2 hr
                          go_wp2_with fail
                          refine hst.out.mono ?_
                          rintro _ w7 ⟨rfl, hb7⟩
                          have E7 := hE.trans (hb7.mono hE.size)
                          have HNOW7 := Lib.hid (HNOW.out.belowAll hb7)
                          have HNJ7 := Lib.hid (HNJ.out.belowAll hb7)
                          clear hst hb7 HNOW HNJ hE b0 b1 b2
                          cases r with
                          | true =>
                            have hh := hr2.symm
                            rw [Bool.and_eq_true, beq_iff_eq, bne_iff_ne] at hh
                            have hcd : d1 = c0 := hh.1.symm
                            have q5 : ¬ ((j : Int) = (e : Int)) := by omega
                            obtain ⟨Q, hQ⟩ : ∃ Q, Q = j * m := ⟨_, rfl⟩
                            obtain ⟨R, hRR⟩ : ∃ R, R = (q + c2) % m := ⟨_, rfl⟩
                            have hRm : R < m := by rw [hRR]; exact Nat.mod_lt _ hm1
                            have hQN : Q + m ≤ N := by
                              rw [hQ, HNN.out]
                              have : (j + 1) * m ≤ K * m := Nat.mul_le_mul_right _ hjl
                              rw [Nat.add_mul] at this; omega
                            have kQ : (j : Int) * (m : Int) = (Q : Int) := by rw [hQ]; push_cast; rfl
                            have kQw : IntKind.i64.wrap (Q : Int) = (Q : Int) := IntWalk.i64_in _ (by omega)
                            have kR : Int.tmod ((q : Int) + c2) (m : Int) = (R : Int) := by rw [hRR]; rfl
                            have kRs : IntKind.i64.wrap ((q : Int) + c2) = (q : Int) + c2 := IntWalk.i64_in _ (by omega)
                            have kRw : IntKind.i64.wrap (R : Int) = (R : Int) := IntWalk.i64_in _ (by omega)
                            have kQR : IntKind.i64.wrap ((Q : Int) + R) = ((Q + R : Nat) : Int) := by rw [IntWalk.i64_in _ (by omega)]; push_cast; rfl
                            have hy0 : ((Q + R : Nat) : Int) < N := by omega
                            have hy1 : (0 : Int) ≤ ((Q + R : Nat) : Int) := by omega
                            obtain ⟨vb, hvb⟩ : ∃ vb, vb = njF m fs K f t S j (Q + R) := ⟨_, rfl⟩
                            have zo : w7.cell? ⟨gn, Q + R, none⟩ = some (.bool vb) := by rw [HNJ7.out.cell (by rw [boolsF_length]; omega), eb_boolsF _ _ _ (by omega), hvb]
                            have zf : w7.frozen? ⟨gn, Q + R, none⟩ = false := HNJ7.out.frozen _
                            have HNJ8 : Hid (BBlk (w7.setCell ⟨gn, Q + R, none⟩ (.bool true)) gn (boolsF N (njF m fs K f t S (j + 1)))) := by
                              show BBlk _ _ _
                              rw [← nj_yes hm1 HNS.out HIS.out HQS.out HR.out.symm, ← HC2.out, ← hQ, ← hRR]
                              exact HNJ7.out.set _ _
                            have HNOW8 : Hid (BBlk (w7.setCell ⟨gn, Q + R, none⟩ (.bool true)) g (boolsF N (nwF m fs K f t))) := (Below.heap_setCell w7 _ _ _ (by simp; omega)).trans HNOW7.out
                            have E8 := E7.setCell (p := ⟨gn, Q + R, none⟩) hgn (.bool true)
                            clear hh hr2 hQ hRR hvb HNJ7 HNOW7
                            subst hcd
                            go_wp2_with fail
                            exact ⟨⟨j + 1, by omega, by push_cast; rfl, HNOW8, HNJ8, E8⟩, by simp [intOf]; omega⟩
                          | false =>
                            have HNJ8 : Hid (BBlk w7 gn (boolsF N (njF m fs K f t S (j + 1)))) := by
                              show BBlk _ _ _
                              rw [← nj_no HIS.out HR.out.symm]
                              exact HNJ7.out
                            clear HNJ7
                            by_cases q4' : d1 = c0
                            · have q5 : j = e := by
                                rw [beq_iff_eq.2 q4'.symm] at hr2
                                by_cases e5 : j = e
                                · exact e5
                                · rw [bne_iff_ne.2 e5] at hr2; cases hr2
                              clear hr2
                              subst q4'
                              subst q5
                              go_wp2_with fail
                              exact ⟨⟨j + 1, by omega, by push_cast; rfl, HNOW7, HNJ8, E7⟩, by simp [intOf]; omega⟩
                            · have q4 : ¬ ((c0 : Int) = (d1 : Int)) := by omega
                              clear q4' hr2
                              go_wp2_with fail
                              exact ⟨⟨j + 1, by omega, by push_cast; rfl, HNOW7, HNJ8, E7⟩, by simp [intOf]; omega⟩
                        · obtain rfl : j = K := by omega
                          have HNS8 : Hid (BBlk wr gn (boolsF N (nsF m fs j f t (S + 1)))) := by
                            show BBlk _ _ _
                            have h := HNJ.out
                            rw [HNN.out, nj_all, ← HNN.out] at h
                            exact h
                          clear HNJ b0 b1 b2
                          go_wp2_with fail
                          exact ⟨⟨S + 1, _, by omega, by push_cast; rfl, rfl, HF', HNOW, HNS8, hE⟩, by simp [intOf]; omega⟩
                    · subst hFe
                      have y2 : ¬ ((q : Int) = 0) := by omega
                      subst h1
                      clear h2
                      go_wp2_with fail
                      clear y2
                      go_loopw [21, 22, 23, 24] (fun jv _ _ _ wr => ∃ j : Nat, j ≤ K ∧ jv = .int .i64 j ∧ Hid (BBlk wr g (boolsF N (nwF m fs K f t))) ∧ Hid (BBlk wr gn (boolsF N (njF m fs K f t S j))) ∧ Below W0.heap.size W0 wr) (fun jv _ _ _ _ => K - (intOf jv).toNat)
                      case atStart => exact ⟨0, Nat.zero_le _, rfl, HNOW6, HNJ6, E6⟩
                      case round =>
                        clear HNOW6 HNJ6 E6
                        obtain ⟨j, hj, rfl, HNOW, HNJ, hE⟩ := hrel
                        obtain ⟨b0, b1, b2⟩ := HBX.out wr hE
                        by_cases hjl : j < K
                        · have hjli : (j : Int) < K := by omega
                          have hj0 : (0 : Int) ≤ j := by omega
                          have gj : IntKind.i64.wrap ((j : Int) + 1) = (j : Int) + 1 := IntWalk.i64_in _ (by omega)
                          have hst := Lib.hid (HSTEP.out wr j hE hjl)
                          obtain ⟨-, -, hcm⟩ := HLT.out j hjl
                          obtain ⟨c0, hc0⟩ : ∃ a, a = stA m fs j 0 := ⟨_, rfl⟩
                          obtain ⟨c1, hc1⟩ : ∃ a, a = stA m fs j 1 := ⟨_, rfl⟩
                          obtain ⟨c2, hc2⟩ : ∃ a, a = stA m fs j 2 := ⟨_, rfl⟩
                          rw [← hc0, ← hc1, ← hc2] at hst
                          rw [← hc2] at hcm
                          obtain ⟨r, hr⟩ : ∃ r, r = pcB m fs i j := ⟨_, rfl⟩
                          have hr2 : r = ((c0 == d1) && (j != e)) := by rw [hr, pc_sym, hc0, HD1.out, HE.out]
                          have HR := Lib.hid hr
                          have HC2 := Lib.hid hc2
                          clear hc0 hc1 hc2 hr
                          go_wp2_with fail
                          refine hst.out.mono ?_
                          rintro _ w7 ⟨rfl, hb7⟩
                          have E7 := hE.trans (hb7.mono hE.size)
                          have HNOW7 := Lib.hid (HNOW.out.belowAll hb7)
                          have HNJ7 := Lib.hid (HNJ.out.belowAll hb7)
                          clear hst hb7 HNOW HNJ hE b0 b1 b2
                          cases r with
                          | true =>
                            have hh := hr2.symm
                            rw [Bool.and_eq_true, beq_iff_eq, bne_iff_ne] at hh
                            have hcd : d1 = c0 := hh.1.symm
                            have q5 : ¬ ((j : Int) = (e : Int)) := by omega
                            obtain ⟨Q, hQ⟩ : ∃ Q, Q = j * m := ⟨_, rfl⟩
                            obtain ⟨R, hRR⟩ : ∃ R, R = (q + c2) % m := ⟨_, rfl⟩
                            have hRm : R < m := by rw [hRR]; exact Nat.mod_lt _ hm1
                            have hQN : Q + m ≤ N := by
                              rw [hQ, HNN.out]
                              have : (j + 1) * m ≤ K * m := Nat.mul_le_mul_right _ hjl
                              rw [Nat.add_mul] at this; omega
                            have kQ : (j : Int) * (m : Int) = (Q : Int) := by rw [hQ]; push_cast; rfl
                            have kQw : IntKind.i64.wrap (Q : Int) = (Q : Int) := IntWalk.i64_in _ (by omega)
                            have kR : Int.tmod ((q : Int) + c2) (m : Int) = (R : Int) := by rw [hRR]; rfl
                            have kRs : IntKind.i64.wrap ((q : Int) + c2) = (q : Int) + c2 := IntWalk.i64_in _ (by omega)
                            have kRw : IntKind.i64.wrap (R : Int) = (R : Int) := IntWalk.i64_in _ (by omega)
                            have kQR : IntKind.i64.wrap ((Q : Int) + R) = ((Q + R : Nat) : Int) := by rw [IntWalk.i64_in _ (by omega)]; push_cast; rfl
                            have hy0 : ((Q + R : Nat) : Int) < N := by omega
                            have hy1 : (0 : Int) ≤ ((Q + R : Nat) : Int) := by omega
                            obtain ⟨vb, hvb⟩ : ∃ vb, vb = njF m fs K f t S j (Q + R) := ⟨_, rfl⟩
                            have zo : w7.cell? ⟨gn, Q + R, none⟩ = some (.bool vb) := by rw [HNJ7.out.cell (by rw [boolsF_length]; omega), eb_boolsF _ _ _ (by omega), hvb]
                            have zf : w7.frozen? ⟨gn, Q + R, none⟩ = false := HNJ7.out.frozen _
                            have HNJ8 : Hid (BBlk (w7.setCell ⟨gn, Q + R, none⟩ (.bool true)) gn (boolsF N (njF m fs K f t S (j + 1)))) := by
                              show BBlk _ _ _
                              rw [← nj_yes hm1 HNS.out HIS.out HQS.out HR.out.symm, ← HC2.out, ← hQ, ← hRR]
                              exact HNJ7.out.set _ _
                            have HNOW8 : Hid (BBlk (w7.setCell ⟨gn, Q + R, none⟩ (.bool true)) g (boolsF N (nwF m fs K f t))) := (Below.heap_setCell w7 _ _ _ (by simp; omega)).trans HNOW7.out
                            have E8 := E7.setCell (p := ⟨gn, Q + R, none⟩) hgn (.bool true)
                            clear hh hr2 hQ hRR hvb HNJ7 HNOW7
                            subst hcd
                            go_wp2_with fail
                            exact ⟨⟨j + 1, by omega, by push_cast; rfl, HNOW8, HNJ8, E8⟩, by simp [intOf]; omega⟩
                          | false =>
                            have HNJ8 : Hid (BBlk w7 gn (boolsF N (njF m fs K f t S (j + 1)))) := by
                              show BBlk _ _ _
                              rw [← nj_no HIS.out HR.out.symm]
                              exact HNJ7.out
                            clear HNJ7
                            by_cases q4' : d1 = c0
                            · have q5 : j = e := by
                                rw [beq_iff_eq.2 q4'.symm] at hr2
                                by_cases e5 : j = e
                                · exact e5
                                · rw [bne_iff_ne.2 e5] at hr2; cases hr2
                              clear hr2
                              subst q4'
                              subst q5
                              go_wp2_with fail
                              exact ⟨⟨j + 1, by omega, by push_cast; rfl, HNOW7, HNJ8, E7⟩, by simp [intOf]; omega⟩
                            · have q4 : ¬ ((c0 : Int) = (d1 : Int)) := by omega
                              clear q4' hr2
                              go_wp2_with fail
                              exact ⟨⟨j + 1, by omega, by push_cast; rfl, HNOW7, HNJ8, E7⟩, by simp [intOf]; omega⟩
                        · obtain rfl : j = K := by omega
                          have HNS8 : Hid (BBlk wr gn (boolsF N (nsF m fs j f t (S + 1)))) := by
                            show BBlk _ _ _
                            have h := HNJ.out
                            rw [HNN.out, nj_all, ← HNN.out] at h
                            exact h
                          clear HNJ b0 b1 b2
                          go_wp2_with fail
                          exact ⟨⟨S + 1, _, by omega, by push_cast; rfl, rfl, HF', HNOW, HNS8, hE⟩, by simp [intOf]; omega⟩
                    · have y3 : ((e : Int) != (f : Int)) = F' := by
                        rw [hFe]
                        by_cases e5 : e = f
                        · rw [e5]; simp
                        · rw [bne_iff_ne.2 e5, bne_iff_ne]; omega
                      subst h1
                      subst h2
                      clear hFe
                      go_wp2_with fail
                      clear y3
                      go_loopw [21, 22, 23, 24] (fun jv _ _ _ wr => ∃ j : Nat, j ≤ K ∧ jv = .int .i64 j ∧ Hid (BBlk wr g (boolsF N (nwF m fs K f t))) ∧ Hid (BBlk wr gn (boolsF N (njF m fs K f t S j))) ∧ Below W0.heap.size W0 wr) (fun jv _ _ _ _ => K - (intOf jv).toNat)
                      case atStart => exact ⟨0, Nat.zero_le _, rfl, HNOW6, HNJ6, E6⟩
                      case round =>
                        clear HNOW6 HNJ6 E6
                        obtain ⟨j, hj, rfl, HNOW, HNJ, hE⟩ := hrel
                        obtain ⟨b0, b1, b2⟩ := HBX.out wr hE
                        by_cases hjl : j < K
                        · have hjli : (j : Int) < K := by omega
                          have hj0 : (0 : Int) ≤ j := by omega
                          have gj : IntKind.i64.wrap ((j : Int) + 1) = (j : Int) + 1 := IntWalk.i64_in _ (by omega)
                          have hst := Lib.hid (HSTEP.out wr j hE hjl)
                          obtain ⟨-, -, hcm⟩ := HLT.out j hjl
                          obtain ⟨c0, hc0⟩ : ∃ a, a = stA m fs j 0 := ⟨_, rfl⟩
                          obtain ⟨c1, hc1⟩ : ∃ a, a = stA m fs j 1 := ⟨_, rfl⟩
                          obtain ⟨c2, hc2⟩ : ∃ a, a = stA m fs j 2 := ⟨_, rfl⟩
                          rw [← hc0, ← hc1, ← hc2] at hst
                          rw [← hc2] at hcm
                          obtain ⟨r, hr⟩ : ∃ r, r = pcB m fs i j := ⟨_, rfl⟩
                          have hr2 : r = ((c0 == d1) && (j != e)) := by rw [hr, pc_sym, hc0, HD1.out, HE.out]
                          have HR := Lib.hid hr
                          have HC2 := Lib.hid hc2
                          clear hc0 hc1 hc2 hr
                          go_wp2_with fail
                          refine hst.out.mono ?_
                          rintro _ w7 ⟨rfl, hb7⟩
                          have E7 := hE.trans (hb7.mono hE.size)
                          have HNOW7 := Lib.hid (HNOW.out.belowAll hb7)
                          have HNJ7 := Lib.hid (HNJ.out.belowAll hb7)
                          clear hst hb7 HNOW HNJ hE b0 b1 b2
                          cases r with
                          | true =>
                            have hh := hr2.symm
                            rw [Bool.and_eq_true, beq_iff_eq, bne_iff_ne] at hh
                            have hcd : d1 = c0 := hh.1.symm
                            have q5 : ¬ ((j : Int) = (e : Int)) := by omega
                            obtain ⟨Q, hQ⟩ : ∃ Q, Q = j * m := ⟨_, rfl⟩
                            obtain ⟨R, hRR⟩ : ∃ R, R = (0 + c2) % m := ⟨_, rfl⟩
                            have hRm : R < m := by rw [hRR]; exact Nat.mod_lt _ hm1
                            have hQN : Q + m ≤ N := by
                              rw [hQ, HNN.out]
                              have : (j + 1) * m ≤ K * m := Nat.mul_le_mul_right _ hjl
                              rw [Nat.add_mul] at this; omega
                            have kQ : (j : Int) * (m : Int) = (Q : Int) := by rw [hQ]; push_cast; rfl
                            have kQw : IntKind.i64.wrap (Q : Int) = (Q : Int) := IntWalk.i64_in _ (by omega)
                            have kR : Int.tmod (c2 : Int) (m : Int) = (R : Int) := by rw [hRR, Nat.zero_add]; rfl
                            have kRs : IntKind.i64.wrap (c2 : Int) = (c2 : Int) := IntWalk.i64_in _ (by omega)
                            have kRw : IntKind.i64.wrap (R : Int) = (R : Int) := IntWalk.i64_in _ (by omega)
                            have kQR : IntKind.i64.wrap ((Q : Int) + R) = ((Q + R : Nat) : Int) := by rw [IntWalk.i64_in _ (by omega)]; push_cast; rfl
                            have hy0 : ((Q + R : Nat) : Int) < N := by omega
                            have hy1 : (0 : Int) ≤ ((Q + R : Nat) : Int) := by omega
                            obtain ⟨vb, hvb⟩ : ∃ vb, vb = njF m fs K f t S j (Q + R) := ⟨_, rfl⟩
                            have zo : w7.cell? ⟨gn, Q + R, none⟩ = some (.bool vb) := by rw [HNJ7.out.cell (by rw [boolsF_length]; omega), eb_boolsF _ _ _ (by omega), hvb]
                            have zf : w7.frozen? ⟨gn, Q + R, none⟩ = false := HNJ7.out.frozen _
                            have HNJ8 : Hid (BBlk (w7.setCell ⟨gn, Q + R, none⟩ (.bool true)) gn (boolsF N (njF m fs K f t S (j + 1)))) := by
                              show BBlk _ _ _
                              rw [← nj_yes hm1 HNS.out HIS.out HQS.out HR.out.symm, ← HC2.out, ← hQ, ← hRR]
                              exact HNJ7.out.set _ _
                            have HNOW8 : Hid (BBlk (w7.setCell ⟨gn, Q + R, none⟩ (.bool true)) g (boolsF N (nwF m fs K f t))) := (Below.heap_setCell w7 _ _ _ (by simp; omega)).trans HNOW7.out
                            have E8 := E7.setCell (p := ⟨gn, Q + R, none⟩) hgn (.bool true)
                            clear hh hr2 hQ hRR hvb HNJ7 HNOW7
                            subst hcd
                            go_wp2_with fail
                            exact ⟨⟨j + 1, by omega, by push_cast; rfl, HNOW8, HNJ8, E8⟩, by simp [intOf]; omega⟩
                          | false =>
                            have HNJ8 : Hid (BBlk w7 gn (boolsF N (njF m fs K f t S (j + 1)))) := by
                              show BBlk _ _ _
                              rw [← nj_no HIS.out HR.out.symm]
                              exact HNJ7.out
                            clear HNJ7
                            by_cases q4' : d1 = c0
                            · have q5 : j = e := by
                                rw [beq_iff_eq.2 q4'.symm] at hr2
                                by_cases e5 : j = e
                                · exact e5
                                · rw [bne_iff_ne.2 e5] at hr2; cases hr2
                              clear hr2
                              subst q4'
                              subst q5
                              go_wp2_with fail
                              exact ⟨⟨j + 1, by omega, by push_cast; rfl, HNOW7, HNJ8, E7⟩, by simp [intOf]; omega⟩
                            · have q4 : ¬ ((c0 : Int) = (d1 : Int)) := by omega
                              clear q4' hr2
                              go_wp2_with fail
                              exact ⟨⟨j + 1, by omega, by push_cast; rfl, HNOW7, HNJ8, E7⟩, by simp [intOf]; omega⟩
                        · obtain rfl : j = K := by omega
                          have HNS8 : Hid (BBlk wr gn (boolsF N (nsF m fs j f t (S + 1)))) := by
                            show BBlk _ _ _
                            have h := HNJ.out
                            rw [HNN.out, nj_all, ← HNN.out] at h
                            exact h
                          clear HNJ b0 b1 b2
                          go_wp2_with fail
                          exact ⟨⟨S + 1, _, by omega, by push_cast; rfl, rfl, HF', HNOW, HNS8, hE⟩, by simp [intOf]; omega⟩
                · obtain rfl : S = N := by omega
                  have hfin : F = fdB m fs K f t := by rw [HF.out, HNN.out]; exact fd_eq hm1
                  have HNX' : Hid (BBlk wr gn (boolsF S (nwF m fs K f (t + 1)))) := by
                    show BBlk _ _ _
                    have h := HNX.out
                    rw [HNN.out, ns_all HFM.out (fun j hj => (HLT.out j hj).2.2), ← HNN.out] at h
                    exact h
                  clear HNX HNOW HF b0 b1 b2
                  cases F with
                  | true =>
                    have HNB : Hid (t + 1 = bsN m fs K (f + 1)) := (bs_found HBS.out HGO.out htl HNO.out hfin.symm).symm
                    clear hfin HNX' HNO HBS
                    go_wp2_with fail
                    exact ⟨⟨f + 1, t + 1, by omega, by push_cast; rfl, by push_cast; rfl, HNB, hE⟩, by simp [intOf]; omega⟩
                  | false =>
                    have HNO' : Hid (∀ t', t' < t + 1 → fdB m fs K f t' = false) := fun t' h => by
                      by_cases e : t' = t
                      · rw [e]; exact hfin.symm
                      · exact HNO.out t' (by omega)
                    clear hfin HNO
                    go_wp2_with fail
                    exact ⟨⟨t + 1, gn, by omega, by push_cast; rfl, rfl, rfl, HNX', HNO', hE⟩, by simp [intOf]; omega⟩
          · have hB0 : ((B : Int) == 0) = false := by rw [beq_eq_false_iff_ne]; omega
            have hBt : ¬ ((t : Int) + 1 < (B : Int)) := by omega
            have HNB : Hid (B = bsN m fs K (f + 1)) := (bs_stop HBS.out (by omega) (by omega) (by omega) HNO.out).symm
            clear hgo HBS HNO HNOW0
            go_wp2_with fail
            exact ⟨⟨f + 1, B, by omega, by push_cast; rfl, rfl, HNB, hE2⟩, by simp [intOf]; omega⟩
        · obtain rfl : t = 14 := by omega
          have HNB : Hid (B = bsN m fs K (f + 1)) := by show _ = _; rw [bs_none HNO.out]; exact HBS.out
          clear HNO HNOW0 HBS
          go_wp2_with fail
          exact ⟨⟨f + 1, B, by omega, by push_cast; rfl, rfl, HNB, hE2⟩, by simp [intOf]; omega⟩
    · obtain rfl : f = K := by omega
      go_wp2_with fail
      go_ret
      rw [HBS.out]
      exact ⟨rfl, HD.out.trans (hE.mono HD.out.size)⟩
end Go.Proofs.Ythonkphjahomeaa
