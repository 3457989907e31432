/-
  Word digraphs: impl.bruijnSteps, impl.wordDigraph.
-/
import Derived.Test.YtkflcjhoghiffaaDoorKz5
import Derived.Test.YtkflcjhoghiffaaDoorBj1
import Derived.Test.YtkflcjhoghiffaaDoorBj2
namespace Go.Proofs.YtkflcjhoghiffaaDoor
set_option maxRecDepth 100000
set_option maxRecDepth 100000
open Go.RowKit

/-- The steps of words. -/
def StR (w : World) (kz : Bool) (v : Value) (c : Nat) : Prop := ∃ g cap, v = .slice (some ⟨g, 0, none⟩) c cap ∧ c ≤ cap ∧ g < w.heap.size ∧ ∀ j, j < c → w.cell? ⟨g, j, none⟩ = some (stepV (fJ kz j))

set_option maxHeartbeats 6400000 in
theorem wordDig_any (kz : Bool) (m k : Nat) (a : Int) (v : Value) (w : World) (hm : 1 ≤ m) (hm62 : m ≤ 62) (hz : kz = true → 2 ≤ m) (ha : a = ((2 ^ m - 1 : Nat) : Int)) (hk1 : 1 ≤ k) (hk : k ≤ 10) (hS : StR w kz v (k + 1))
    (hlen : ∀ j, j ≤ k → (kwL kz m j).length ≤ 62) (hT : Tab w) :
    Calls Tryd.prog 32 #[.int .i64 a, v] w fun e w' => (∃ r, e = .returned (.agg #[.int .i64 (kwL kz m k).length, .slice (some ⟨r, 0, none⟩) (kwL kz m k).length (kwL kz m k).length]) ∧ Blk w' r (rowsF (kwL kz m k).length (arcF kz (kwL kz m k))) ∧ w.heap.size ≤ r) ∧ Below w.heap.size w w' := by
  obtain ⟨gs, cs, rfl, hcs, hgs, hst⟩ := hS
  obtain ⟨W0, hW0⟩ : ∃ W0, W0 = w.alloc (.cells #[.int .i64 0, .slice none 0 0] 25) := ⟨_, rfl⟩
  have D0 : Below w.heap.size w W0 := by rw [hW0]; exact (Below.refl _ _).alloc (Nat.le_refl _) _
  have s0 : W0.heap.size = w.heap.size + 1 := by rw [hW0]; simp
  have HR0 : Hid (W0.heap[w.heap.size]? = some (.cells #[.int .i64 0, .slice none 0 0] 25 (0, 0))) := by show _ = _; rw [hW0]; exact World.alloc_heap_new w _
  have HST : Hid (∀ (j : Nat) (W : World), j < k + 1 → Below w.heap.size w W → W.cell? ⟨gs, j, none⟩ = some (stepV (fJ kz j))) := fun j W hj hb => (hb.cell (p := ⟨gs, j, none⟩) hgs).trans (hst j hj)
  have HTab := Lib.hid hT
  have HW1 := Lib.hid (wordsBy_any kz m k a (.slice (some ⟨gs, 0, none⟩) k cs) W0 hm hm62 hz ha (by omega) ⟨gs, cs, rfl, by omega, fun j hj => HST.out j W0 (by omega) D0⟩ (fun j hj => Nat.le_trans (hlen j (by omega)) (by decide)) (hT.belowAll D0))
  have HW2 : Hid (∀ W : World, Below w.heap.size w W → Calls Tryd.prog 51 #[.int .i64 a, .slice (some ⟨gs, 0, none⟩) (k + 1) cs] W fun e w' => TLRet W.heap.size (kwL kz m (k + 1)) e w' ∧ Below W.heap.size W w') := fun W hb =>
    wordsBy_any kz m (k + 1) a (.slice (some ⟨gs, 0, none⟩) (k + 1) cs) W hm hm62 hz ha (by omega) ⟨gs, cs, rfl, Nat.lt_of_lt_of_le hgs hb.size, fun j hj => HST.out j W hj hb⟩ (fun j hj => Nat.le_trans (hlen j (by omega)) (by decide)) (HTab.out.belowAll hb)
  obtain ⟨k', hk'⟩ : ∃ k', k = k' + 1 := ⟨k - 1, by omega⟩
  have hpr := prF_all kz m k'
  rw [← hk'] at hpr
  have hN62 := hlen k (Nat.le_refl _)
  have hposT : 0 < (kwL kz m k).length := by rw [← sp_all]; exact sp_pos kz m hm hz k []
  have hposU : 0 < (kwL kz m (k + 1)).length := by rw [← sp_all]; exact sp_pos kz m hm hz (k + 1) []
  have HSRT : Hid (Srt (kwL kz m k)) := kw_srt kz m k
  have HTL : Hid (∀ i, i < (kwL kz m k).length → (elS (kwL kz m k) i).length = k) := fun i hi => (kw_mem (elS_mem hi)).1
  have HUL : Hid (∀ x, x < (kwL kz m (k + 1)).length → (elS (kwL kz m (k + 1)) x).length = k + 1 ∧ (∃ i, i < (kwL kz m k).length ∧ (elS (kwL kz m (k + 1)) x).take k = elS (kwL kz m k) i) ∧ (∃ j, j < (kwL kz m k).length ∧ (elS (kwL kz m (k + 1)) x).drop 1 = elS (kwL kz m k) j)) := fun x hx => by
    have hmem := elS_mem hx
    refine ⟨(kw_mem hmem).1, ?_, ?_⟩
    · obtain ⟨i, hi, e⟩ := mem_el (kw_take hmem); exact ⟨i, hi, e.symm⟩
    · have hmem' : elS (kwL kz m (k + 1)) x ∈ kwL kz m (k' + 1 + 1) := by rw [← hk']; exact hmem
      have hd := kw_drop hmem'
      rw [← hk'] at hd
      obtain ⟨j, hj, e⟩ := mem_el hd; exact ⟨j, hj, e.symm⟩
  have hM4 : (kwL kz m (k + 1)).length ≤ 1048576 := by
    rw [kwL]
    have : ∀ T : List (List Int), (T.flatMap (extK kz m)).length ≤ T.length * 62 := fun T => by
      induction T with
      | nil => simp
      | cons t T ih =>
        rw [List.flatMap_cons, List.length_append, List.length_cons, Nat.add_mul]
        have : (extK kz m t).length ≤ 62 := by
          unfold extK nxt
          rw [List.length_map]
          exact Nat.le_trans (List.length_filter_le _ _) (by simpa using hm62)
        omega
    have := this (kwL kz m k)
    omega
  obtain ⟨T, hTT⟩ : ∃ T, T = kwL kz m k := ⟨_, rfl⟩
  obtain ⟨U, hUU⟩ : ∃ U, U = kwL kz m (k + 1) := ⟨_, rfl⟩
  rw [← hTT] at HW1 hpr hN62 hposT HSRT HTL HUL
  rw [← hUU] at HW2 hpr hposU HUL hM4
  rw [← hTT]
  obtain ⟨N, HN⟩ : ∃ N, Hid (N = T.length) := ⟨_, rfl⟩
  obtain ⟨M, HM⟩ : ∃ M, Hid (M = U.length) := ⟨_, rfl⟩
  obtain ⟨S, HS⟩ : ∃ S, Hid (S = k + 1) := ⟨_, rfl⟩
  rw [← HN.out] at hN62 hposT hpr
  rw [← HM.out] at hposU hM4 hpr
  rw [← HS.out] at HW2 hcs
  rw [← HN.out, ← HS.out]
  have HPR := Lib.hid hpr
  have hSk : (S : Int) - 1 = (k : Int) := by rw [HS.out]; omega
  have hSc : (k : Int) ≤ (cs : Int) := by have := HS.out; omega
  have hk0 : (0 : Int) ≤ k := by omega
  have hS11 : (S : Int) ≤ 11 := by rw [HS.out]; omega
  clear hTT hUU hpr hst hT hk' hlen ha
  go_enter Tryd.func32, Tryd.ntmps32
  go_wp2_with fail
  rw [← hW0]
  clear hW0
  refine HW1.out.mono ?_
  rintro e w1 ⟨⟨vT, rfl, hT1⟩, hb1⟩
  clear HW1
  have s1 := hb1.size
  have E1 : Below w.heap.size w w1 := D0.trans (hb1.mono (by omega))
  have HR1 : Hid (w1.heap[w.heap.size]? = some (.cells #[.int .i64 0, .slice none 0 0] 25 (0, 0))) := (hb1.block _ (by omega)).trans HR0.out
  obtain ⟨gT, cT, rfl, hgT1, hgT2, hRT⟩ : ∃ gT cT, vT = .slice (some ⟨gT, 0, none⟩) N cT ∧ W0.heap.size ≤ gT ∧ gT < w1.heap.size ∧ Rows w1 gT 0 T := by
    rcases hT1.ts.form with ⟨_, h0⟩ | ⟨g, cap, e, e1, e2⟩
    · have := HN.out; rw [h0] at this; simp at this; omega
    · subst e
      exact ⟨g, cap, by rw [HN.out], e1, e2, TS.rows hT1.ts⟩
  have HRT := Lib.hid hRT
  have hdw := dwa_some N hN62 w1
  clear hT1 hb1 hRT HR0 D0
  go_wp2_with fail
  refine hdw.mono ?_
  rintro e w2 ⟨⟨gr, rfl, hBg, hgr⟩, hb2⟩
  clear hdw
  have hgrl := hBg.lt
  have s2 := hb2.size
  have HBg : Hid (Blk w2 gr (rowsF N (prF k T U 0))) := by show Blk _ _ _; rw [prF_zero]; exact hBg
  clear hBg
  obtain ⟨W3, hW3⟩ : ∃ W3, W3 = w2.alloc (.cells #[.int .i64 N, .slice (some ⟨gr, 0, none⟩) N N] 25) := ⟨_, rfl⟩
  have hb3 : Below w2.heap.size w2 W3 := by rw [hW3]; exact (Below.refl _ _).alloc (Nat.le_refl _) _
  have s3 : W3.heap.size = w2.heap.size + 1 := by rw [hW3]; simp
  have HX3 : Hid (W3.heap[w2.heap.size]? = some (.cells #[.int .i64 N, .slice (some ⟨gr, 0, none⟩) N N] 25 (0, 0))) := by show _ = _; rw [hW3]; exact World.alloc_heap_new w2 _
  have HB3 := Lib.hid (HBg.out.belowAll hb3)
  have F3 : Below w1.heap.size w1 W3 := hb2.trans (hb3.mono s2)
  have hw2 := HW2.out W3 (E1.trans (F3.mono (by omega)))
  have hS1 : (1 : Int) ≤ S := by rw [HS.out]; omega
  clear HW2 hb2 hb3 HBg
  go_wp2_with fail
  rw [← hW3]
  clear hW3
  refine hw2.mono ?_
  rintro e w4 ⟨⟨vU, rfl, hU⟩, hb4⟩
  clear hw2
  have s4 := hb4.size
  obtain ⟨gU, cU, rfl⟩ : ∃ gU cU, vU = .slice (some ⟨gU, 0, none⟩) M cU := by
    rcases hU.ts.form with ⟨_, h0⟩ | ⟨g, cap, e, _⟩
    · have := HM.out; rw [h0] at this; simp at this; omega
    · exact ⟨g, cap, by rw [HM.out]; exact e⟩
  have HU4 := Lib.hid hU
  have HB4 := Lib.hid (HB3.out.belowAll hb4)
  have HX4 := Lib.hid ((hb4.block _ (by omega)).trans HX3.out)
  have F4 : Below w1.heap.size w1 w4 := F3.trans (hb4.mono F3.size)
  have hg3 : gr < W3.heap.size := by omega
  have hne : ¬ w2.heap.size = gr := by omega
  have hne' : ¬ gr = w2.heap.size := by omega
  clear hU hb4 HB3 HX3 F3
  go_wp2_with fail
  go_loopw [25] (fun xv wr => ∃ x : Nat, x ≤ M ∧ xv = .int .i64 x ∧ Hid (Blk wr gr (rowsF N (prF k T U x))) ∧ Hid (wr.heap[w2.heap.size]? = some (.cells #[.int .i64 N, .slice (some ⟨gr, 0, none⟩) N N] 25 (0, 0))) ∧ Hid (TL wr W3.heap.size (.slice (some ⟨gU, 0, none⟩) M cU) U) ∧ Below w1.heap.size w1 wr) (fun xv _ => M - (intOf xv).toNat)
  case atStart => exact ⟨0, Nat.zero_le _, rfl, HB4, HX4, HU4, F4⟩
  case round =>
    clear HB4 HX4 HU4 F4
    obtain ⟨x, hx, rfl, HB, HX, HU, hF⟩ := hrel
    by_cases hlt : (x : Int) < M
    · have hxM : x < M := by omega
      have hxU : x < U.length := by rw [← HM.out]; exact hxM
      have hx0 : (0 : Int) ≤ x := by omega
      obtain ⟨hul, ⟨i, hi, hti⟩, ⟨j, hj, htj⟩⟩ := HUL.out x hxU
      have hiN : i < N := by rw [HN.out]; exact hi
      have hjN : j < N := by rw [HN.out]; exact hj
      obtain ⟨b, c, hcw, hkc, hcx⟩ : ∃ b c, wr.cell? ⟨gU, x, none⟩ = some (.slice (some ⟨b, 0, none⟩) S c) ∧ S ≤ c ∧ Cells wr b 0 (elS U x) := by
        obtain ⟨cs', hc, hd⟩ := HU.out
        obtain ⟨u, h1, h2, _, _⟩ := hc.2.2 x hxU
        have hc1 := hc.1
        rw [← HM.out] at hc1
        have h3 := (World.ownsRow.cellAt hc1 x (by omega)).trans h1
        rcases h2.2 with ⟨_, h0⟩ | ⟨b, cap, cur, e, _, _, h4, _⟩
        · omega
        · refine ⟨b, cap, by rw [h3, e, hul, HS.out], by rw [HS.out, ← hul]; exact h4, ?_⟩
          rcases h2.sl with ⟨_, _, _, h0⟩ | ⟨b', off, cap', e', _, hcc⟩
          · rw [h0] at hul; simp at hul
          · rw [e] at e'
            injection e' with e1 e2 e3
            injection e1 with e1
            injection e1 with e1 e4 e5
            subst e1; subst e4
            exact hcc
      have hRr : Rows wr gT 0 T := fun y hy => by
        obtain ⟨q, cc, h1, h2⟩ := HRT.out y hy
        exact ⟨q, cc, (hF.cell (p := ⟨gT, 0 + y, none⟩) hgT2).trans h1, h2.below hF⟩
      have hp1 := place_any gT cT k i b 0 c T wr.drew hRr HSRT.out HTL.out hk1 (by omega) (by rw [← HN.out]; exact hN62) hi (by
        rw [← hti]
        exact fun y hy => by
          rw [List.length_take] at hy
          have h := hcx y (by omega)
          rw [el_lt (by rw [List.length_take]; omega), List.getElem_take, ← el_lt (by omega)]
          exact h)
      have hp2 := place_any gT cT k j b 1 (c - 1) T wr.drew hRr HSRT.out HTL.out hk1 (by omega) (by rw [← HN.out]; exact hN62) hj (by
        rw [← htj]
        exact fun y hy => by
          rw [List.length_drop] at hy
          have h := hcx (1 + y) (by omega)
          rw [Nat.zero_add] at h
          rw [el_lt (by rw [List.length_drop]; omega), List.getElem_drop, ← el_lt (by omega)]
          exact h)
      rw [← HN.out] at hp1 hp2
      have hSk2 : k = S - 1 := by rw [HS.out]; rfl
      have hp2' : Calls Tryd.prog 53 #[.slice (some ⟨gT, 0, none⟩) N cT, .slice (some ⟨b, 1, none⟩) (S - 1) (c - 1)] wr.drew fun e w' => e = .returned (.int .i64 j) ∧ wr.drew = w' := by rw [← hSk2]; exact hp2
      have HP1 := Lib.hid hp1
      have HP2 := Lib.hid hp2'
      have HY := Lib.hid (prF_step (x := x) HSRT.out hi hj hti htj)
      rw [← HN.out] at HY
      obtain ⟨t, ht⟩ : ∃ t : Nat, (t : Int) = el (rowsF N (prF k T U x)) i ∧ t < 2 ^ 62 := ⟨bitsN (prF k T U x i) N, by rw [el_rowsF _ _ _ hiN], Nat.lt_of_lt_of_le (bitsN_lt _ _) (Nat.pow_le_pow_right (by decide) hN62)⟩
      have c1 : wr.cell? ⟨gr, i, none⟩ = some (.int .i64 (t : Int)) := by rw [ht.1]; exact HB.out.cell (by rw [rowsF_length]; exact hiN)
      have f1 := HB.out.frozen i
      have qa := pow_bounds j (by omega)
      have P1 : bits .or .i64 (t : Int) (2 ^ j) = ((t ||| 2 ^ j : Nat) : Int) := by
        have h2 : 2 ^ j < 2 ^ 63 := Nat.pow_lt_pow_right (by decide) (by omega)
        rw [show ((2 : Int) ^ j) = ((2 ^ j : Nat) : Int) by simp, or_i64 _ _ (by have := ht.2; omega) h2]
      have HP := Lib.hid P1
      have HB3 : Hid (Blk ((wr.setCell ⟨gr, i, none⟩ (.int .i64 ((t ||| 2 ^ j : Nat) : Int))).drew) gr (rowsF N (prF k T U (x + 1)))) := by
        show Blk (wr.setCell ⟨gr, i, none⟩ (.int .i64 ((t ||| 2 ^ j : Nat) : Int))) gr _
        rw [← HY.out]
        unfold put1 por
        rw [← ht.1, Int.toNat_natCast]
        exact HB.out.set i _
      have HX3 : Hid (((wr.setCell ⟨gr, i, none⟩ (.int .i64 ((t ||| 2 ^ j : Nat) : Int))).drew).heap[w2.heap.size]? = some (.cells #[.int .i64 N, .slice (some ⟨gr, 0, none⟩) N N] 25 (0, 0))) := (Below.heap_setCell wr ⟨gr, i, none⟩ _ _ (by simp; omega)).trans HX.out
      have HU3 : Hid (TL ((wr.setCell ⟨gr, i, none⟩ (.int .i64 ((t ||| 2 ^ j : Nat) : Int))).drew) W3.heap.size (.slice (some ⟨gU, 0, none⟩) M cU) U) := (HU.out.low (grown_setP wr gr i _) hg3).below ((Below.refl _ _).drew)
      have HF3 : Hid (Below w1.heap.size w1 ((wr.setCell ⟨gr, i, none⟩ (.int .i64 ((t ||| 2 ^ j : Nat) : Int))).drew)) := (hF.setCell (p := ⟨gr, i, none⟩) hgr _).drew
      have hw2 : IntKind.i64.wrap ((2 : Int) ^ j) = 2 ^ j := IntWalk.i64_in _ ⟨by omega, by omega⟩

      obtain ⟨x0, x1, y0, y1⟩ := two_cells HX.out
      have hi0 : (0 : Int) ≤ i := by omega
      have hj0 : (0 : Int) ≤ j := by omega
      have hiNi : (i : Int) < N := by omega
      have hj62 : (j : Int) ≤ 64 := by omega
      have hkci : (k : Int) ≤ c := by have := HS.out; omega
      have hSci : (S : Int) ≤ c := by omega
      have hkS : (k : Int) ≤ S := by rw [HS.out]; omega
      clear hp1 hp2 hp2' hRr hcx hti htj hul ht HB HU hF HY P1 hSk2 HX
      go_wp2_with fail
      go_region_with (first | (go_at_call 53; with_reducible refine HP1.out.mono ?_; rintro e w' ⟨rfl, rfl⟩) | (go_at_call 53; with_reducible refine HP2.out.mono ?_; rintro e w' ⟨rfl, rfl⟩))
      all_goals
        rw [HP.out]
        generalize hwf : (wr.setCell ⟨gr, i, none⟩ (.int .i64 ((t ||| 2 ^ j : Nat) : Int))).drew = wf
        rw [hwf] at HB3 HX3 HU3 HF3
        have hF3 := HF3.out
        clear hwf x0 x1 y0 y1 c1 f1 qa HP1 HP2 HP hw2 HF3
        go_wp2_with fail
        go_roundw
        case rel => exact ⟨x + 1, by omega, by go_num, HB3, HX3, HU3, hF3⟩
        case measure => simp [intOf]; omega
    · obtain rfl : x = M := by omega
      obtain ⟨x0, x1, -, -⟩ := two_cells HX.out
      have HRf : Hid (wr.heap[w.heap.size]? = some (.cells #[.int .i64 0, .slice none 0 0] 25 (0, 0))) := (hF.block _ (by omega)).trans HR1.out
      obtain ⟨y0, y1, g0, g1⟩ := two_cells HRf.out
      have HEF := Lib.hid (E1.trans (hF.mono (by omega)))
      have hgrw : w.heap.size < gr := by omega
      clear hF HU
      go_wp2_with fail
      have hfin := two_set (a := .int .i64 (N : Int)) (b := .slice (some ⟨gr, 0, none⟩) N N) HRf.out
      refine bodyPost_ret (v := .agg #[.int .i64 (N : Int), .slice (some ⟨gr, 0, none⟩) N N]) (results_cell_row (p := 4) (ty := 25) rfl _ _ w.heap.size 25 _ (0, 0) _ rfl hfin Tryd.underlying25 rfl (by exact infoDg)) rfl ⟨⟨gr, rfl, ?_, by omega⟩, ?_⟩
      · rw [← HPR.out]
        exact (HB.out.other (by simp; omega) _).other (by simp; omega) _
      · exact (HEF.out.setCell (p := ⟨w.heap.size, 0, none⟩) (by simp) _).setCell (p := ⟨w.heap.size, 1, none⟩) (by simp) _
end Go.Proofs.YtkflcjhoghiffaaDoor
