/-
  spec.PolarityGraph.
-/
import Derived.Test.YtbfdhnecadgfdaaDoorUh
import Derived.Test.YtbfdhnecadgfdaaDoorRt
namespace Go.Proofs.YtbfdhnecadgfdaaDoor
set_option maxRecDepth 100000
open Go.RowKit

theorem onB_comm (q : Nat) (s t : List Int) : onB q s t = onB q t s := by
  unfold onB; rw [Int.mul_comm (el s 0), Int.mul_comm (el s 1), Int.mul_comm (el s 2)]
/-- The pairs the other way round. -/
def swapS (S : List (Nat × Nat)) : List (Nat × Nat) := S.map fun p => (p.2, p.1)
theorem adjS_swap (S : List (Nat × Nat)) : adjS (swapS S) = adjS S := by
  funext v w
  rw [Bool.eq_iff_iff, adjS_iff, adjS_iff]
  constructor
  · rintro ⟨p, hp, h1, h2⟩
    obtain ⟨r, hr, rfl⟩ := List.mem_map.1 hp
    exact ⟨r, hr, by simp only at h1; omega, by simp only at h2; omega⟩
  · rintro ⟨p, hp, h1, h2⟩
    exact ⟨(p.2, p.1), List.mem_map.2 ⟨p, hp, rfl⟩, by simp only; omega, by simp only; omega⟩
theorem swapS_snoc (S : List (Nat × Nat)) (a b : Nat) : swapS (S ++ [(a, b)]) = swapS S ++ [(b, a)] := by simp [swapS]

set_option maxHeartbeats 800000 in
theorem specPol_no (x : Int) (w : World) (h : ¬ (x = 2 ∨ x = 3 ∨ x = 5 ∨ x = 7)) :
    Calls Tryd.prog 27 #[.int .i64 x] w fun e w' => GRes w.heap.size 0 [] 2 e w' ∧ Below w.heap.size w w' := by
  have D0 : Below w.heap.size w (w.alloc (.cells #[.int .i64 0, .slice none 0 0] 34)) := (Below.refl _ _).alloc (Nat.le_refl _) _
  have RB := Lib.hid (World.alloc_heap_new w (.cells #[.int .i64 0, .slice none 0 0] 34))
  obtain ⟨W, hW⟩ : ∃ W, W = w.alloc (.cells #[.int .i64 0, .slice none 0 0] 34) := ⟨_, rfl⟩
  rw [← hW] at D0 RB
  have HPR := Lib.hid (fun W1 => l04Prime_no x W1 h)
  clear h
  go_enter Tryd.func27, Tryd.ntmps27
  go_wp2_with (go_at_call 42; refine (HPR.out _).mono ?_; rintro e w' ⟨rfl, rfl⟩)
  rw [← hW]
  refine bodyPost_ret (v := .tuple #[.agg #[.int .i64 0, .slice none 0 0], .int .i64 2]) (results_cell2 (p := 2) (u := 3) (ty := 34) rfl _ _ w.heap.size 34 _ (0, 0) _ rfl RB.out Tryd.underlying34 rfl (by exact info27)) rfl ⟨⟨_, rfl, Own.nil _ _⟩, D0⟩

set_option maxHeartbeats 3200000 in
set_option maxRecDepth 100000 in
theorem specPol_yes (q : Nat) (w : World) (h : q = 2 ∨ q = 3 ∨ q = 5 ∨ q = 7) :
    Calls Tryd.prog 27 #[.int .i64 q] w fun e w' => GRes w.heap.size ((ptsL q).length : Int) (polL q) 0 e w' ∧ Below w.heap.size w w' := by
  have hq : 2 ≤ q ∧ q ≤ 7 := by omega
  have HPR := Lib.hid (fun W => l04Prime_yes (q : Int) W (by omega))
  have hp := fun W => specPoints_any q W hq.2
  obtain ⟨hl0, hl57⟩ := pts_len57 q h
  have htri := fun i => pts_at q i hq.2
  unfold polL
  obtain ⟨P, hP⟩ : ∃ P, P = ptsL q := ⟨_, rfl⟩
  rw [← hP] at hp hl0 hl57 htri ⊢
  obtain ⟨m, hm⟩ : ∃ m, m = P.length := ⟨_, rfl⟩
  have D0 : Below w.heap.size w (w.alloc (.cells #[.int .i64 0, .slice none 0 0] 34)) := (Below.refl _ _).alloc (Nat.le_refl _) _
  have RB0 := Lib.hid (World.alloc_heap_new w (.cells #[.int .i64 0, .slice none 0 0] 34))
  obtain ⟨W, hW⟩ : ∃ W, W = w.alloc (.cells #[.int .i64 0, .slice none 0 0] 34) := ⟨_, rfl⟩
  have hsz : w.heap.size + 1 ≤ W.heap.size := by rw [hW]; simp
  rw [← hW] at D0 RB0
  have HTRI := Lib.hid htri; have HP := Lib.hid hp
  clear hP hp htri h
  go_enter Tryd.func27, Tryd.ntmps27
  go_upto_region 1 with fail
  rw [← hW]
  clear hW
  go_upto_region 5 with (first
    | (go_at_call 42; refine (HPR.out _).mono ?_; rintro e w' ⟨rfl, rfl⟩)
    | (go_at_call 43; refine (HP.out _).mono ?_; rintro e w1 ⟨⟨tv, rfl, hT⟩, hb1⟩; obtain ⟨g, cap, rfl, hg1, hg2⟩ := hT.form1 hl0; have HT := Lib.hid hT; have HB1 := Lib.hid hb1; clear hT hb1))
  have s1 := HB1.out.size
  have RB1 := Lib.hid ((HB1.out.block w.heap.size (by omega)).trans RB0.out)
  have E1 : Below w.heap.size w w1 := D0.trans (HB1.out.mono (by omega))
  have HROW := Lib.hid (fun i (hi : i < P.length) => HT.out.rowAt hi (by rw [(HTRI.out i hi).1]; omega))
  have hem := Lib.hid (specEmpty_any P.length w1 (by omega))
  rw [← hm] at hem
  rw [← hm]
  have HM := Lib.hid hm
  have hm57 : m ≤ 57 := by rw [hm]; exact hl57
  clear HB1 RB0 D0 HP HPR HT hm
  go_wp2_with (go_at_call 49; refine hem.out.mono ?_; rintro e w2 ⟨rfl, hB2, hb2⟩; have HB2 := Lib.hid hB2; have Hb2 := Lib.hid hb2; clear hB2 hb2)
  have l2 := HB2.out.lt
  obtain ⟨w3, h3w⟩ : ∃ w3, w3 = w2.alloc (.cells #[.int .i64 m, .slice (some ⟨w1.heap.size + 1, 0, none⟩) m m] 34) := ⟨_, rfl⟩
  have X3 : Hid (w3.heap[w2.heap.size]? = some (.cells #[.int .i64 m, .slice (some ⟨w1.heap.size + 1, 0, none⟩) m m] 34 (0, 0))) := by rw [h3w]; exact World.alloc_heap_new w2 _
  have hb3 : Below w2.heap.size w2 w3 := by rw [h3w]; exact (Below.refl _ _).alloc (Nat.le_refl _) _
  rw [← h3w]
  clear h3w hem
  have HB3 : Hid (Blk w3 (w1.heap.size + 1) (rowsF m (adjS (swapS (whereS (onF q P) 0))))) := by show Blk _ _ _; rw [show adjS (swapS (whereS (onF q P) 0)) = fun _ _ => false from rfl, rowsF_none]; exact HB2.out.belowAll hb3
  have E3 : Below w1.heap.size w1 w3 := Hb2.out.trans (hb3.mono (by omega))
  have s3 : w2.heap.size + 1 ≤ w3.heap.size := (Array.getElem?_eq_some_iff.1 X3.out).1
  have HGW : Hid (w2.heap.size ≠ w1.heap.size + 1) := by show _ ≠ _; omega
  clear hb3 HB2 Hb2
  go_loopw [7] (fun i wr => ∃ v : Nat, v ≤ m ∧ i = .int .i64 v ∧ Hid (Blk wr (w1.heap.size + 1) (rowsF m (adjS (swapS (whereS (onF q P) v))))) ∧ Hid (wr.heap[w2.heap.size]? = some (.cells #[.int .i64 m, .slice (some ⟨w1.heap.size + 1, 0, none⟩) m m] 34 (0, 0))) ∧ Below w1.heap.size w1 wr ∧ w2.heap.size + 1 ≤ wr.heap.size) (fun i _ => m - (intOf i).toNat)
  case atStart => exact ⟨0, Nat.zero_le _, rfl, HB3, X3, E3, s3⟩
  case round =>
    obtain ⟨v, hv, rfl, HB, HX, hE, hs⟩ := hrel
    by_cases hlt : v < m
    · go_wp2_with fail
      obtain ⟨wo, rfl⟩ : ∃ wo : World, wo = wr := ⟨_, rfl⟩
      have HBI : Hid (Blk wo (w1.heap.size + 1) (rowsF m (adjS (swapS (whereS (onF q P) v ++ inS (onF q P) v 0))))) := by show Blk _ _ _; rw [show whereS (onF q P) v ++ inS (onF q P) v 0 = whereS (onF q P) v by simp [inS]]; exact HB.out
      go_loopw [8] (fun i wr => ∃ k : Nat, k ≤ v ∧ i = .int .i64 k ∧ Hid (Blk wr (w1.heap.size + 1) (rowsF m (adjS (swapS (whereS (onF q P) v ++ inS (onF q P) v k))))) ∧ Hid (wr.heap[w2.heap.size]? = some (.cells #[.int .i64 m, .slice (some ⟨w1.heap.size + 1, 0, none⟩) m m] 34 (0, 0))) ∧ Below w1.heap.size w1 wr ∧ w2.heap.size + 1 ≤ wr.heap.size) (fun i _ => v - (intOf i).toNat)
      case atStart => exact ⟨0, Nat.zero_le _, rfl, HBI, HX, hE, hs⟩
      case round =>
        obtain ⟨k, hk, rfl, HC, HY, hF, ht⟩ := hrel
        by_cases hlk : k < v
        · have hvl : v < P.length := by rw [← HM.out]; exact hlt
          have hkl : k < P.length := by omega
          have ht1 := HTRI.out v hvl
          have ht2 := HTRI.out k hkl
          obtain ⟨b, c, hc0, -, hb2, hcells⟩ := HROW.out v hvl
          obtain ⟨b', c', hc0', -, hb2', hcells'⟩ := HROW.out k hkl
          rw [ht1.1] at hc0 hcells
          rw [ht2.1] at hc0' hcells'
          have hcell : wr.cell? ⟨g, v, none⟩ = some (.slice (some ⟨b, 0, none⟩) 3 c) := (hF.cell (p := ⟨g, v, none⟩) hg2).trans hc0
          have hcell' : wr.cell? ⟨g, k, none⟩ = some (.slice (some ⟨b', 0, none⟩) 3 c') := (hF.cell (p := ⟨g, k, none⟩) hg2).trans hc0'
          have hv0 : (0 : Int) ≤ v := by omega
          have hk0 : (0 : Int) ≤ k := by omega
          have hvm : (v : Int) < m := by omega
          have hkm : (k : Int) < m := by omega
          have hon : ∀ r, onF q P k v = r → ∀ j, Calls Tryd.prog 44 #[.int .i64 q, .slice (some ⟨b, 0, none⟩) 3 c, .slice (some ⟨b', 0, none⟩) 3 c'] (wr.drewN j) fun en w' => en = .returned (.bool r) ∧ ∃ i, w' = (wr.drewN j).drewN i := fun r hr j => by
            have y0 := (hF.cell (p := ⟨b, 0, none⟩) hb2).trans (hcells 0 (by omega))
            have y1 := (hF.cell (p := ⟨b, 1, none⟩) hb2).trans (hcells 1 (by omega))
            have y2 := (hF.cell (p := ⟨b, 2, none⟩) hb2).trans (hcells 2 (by omega))
            have z0 := (hF.cell (p := ⟨b', 0, none⟩) hb2').trans (hcells' 0 (by omega))
            have z1 := (hF.cell (p := ⟨b', 1, none⟩) hb2').trans (hcells' 1 (by omega))
            have z2 := (hF.cell (p := ⟨b', 2, none⟩) hb2').trans (hcells' 2 (by omega))
            exact specOn_any q _ _ _ _ _ _ b c b' c' (wr.drewN j) r (by omega) (ht1.2 0) (ht1.2 1) (ht1.2 2) (ht2.2 0) (ht2.2 1) (ht2.2 2) y0 y1 y2 z0 z1 z2 (by
              have e : onB q (elS P v) (elS P k) = r := (onB_comm _ _ _).trans hr
              exact e)
          cases hr : onF q P k v with
          | true =>
            have HON := Lib.hid (hon _ hr)
            have HN : Hid (swapS (whereS (onF q P) v ++ inS (onF q P) v (k + 1)) = swapS (whereS (onF q P) v ++ inS (onF q P) v k) ++ [(v, k)]) := by show _ = _; rw [inS_yes hr, ← List.append_assoc, swapS_snoc]
            have HJ := Lib.hid (fun W1 h => with_at m (w1.heap.size + 1) m (swapS (whereS (onF q P) v ++ inS (onF q P) v k)) v k (v : Int) (k : Int) W1 h hlt (by omega) (by omega) rfl rfl)
            clear hr hon hcells hcells' hc0 hc0' ht1 ht2
            go_wp2_with fail
            go_quiet ((go_at_call 44; exact qdrew (HON.out _)))
            generalize hw4 : wr.drewN _ = w4
            have HB4 : Hid (Blk w4 (w1.heap.size + 1) (rowsF m (adjS (swapS (whereS (onF q P) v ++ inS (onF q P) v k))))) := by rw [← hw4]; exact HC.out
            have HX4 : Hid (w4.heap[w2.heap.size]? = some (.cells #[.int .i64 m, .slice (some ⟨w1.heap.size + 1, 0, none⟩) m m] 34 (0, 0))) := by rw [← hw4]; exact HY.out
            have hE4 : Below w1.heap.size w1 w4 := by rw [← hw4]; exact drewN_below hF _
            have t4 : w2.heap.size + 1 ≤ w4.heap.size := by rw [← hw4]; exact ht
            clear hw4 HC HY hF ht hcell hcell' HON
            obtain ⟨x0, x1, y0, y1⟩ := two_cells HX4.out
            go_wp2_with fail
            refine (HJ.out _ HB4.out).mono ?_
            rintro e w5 ⟨rfl, hB5, hg5⟩
            have HB5 := Lib.hid hB5
            have HX5 := Lib.hid ((hg5.block w2.heap.size (by omega) (by simp; exact HGW.out)).trans HX4.out)
            have hE5 := hE4.grown hg5 (by omega) (fun j e => by cases e; omega)
            have t5 : w2.heap.size + 1 ≤ w5.heap.size := Nat.le_trans t4 hg5.size
            clear x0 x1 y0 y1 hB5 hg5 HX4 HB4 hE4 t4 HJ
            obtain ⟨x0, x1, y0, y1⟩ := two_cells HX5.out
            go_wp2_with fail
            obtain ⟨w6, h6⟩ : ∃ x, x = (w5.setCell ⟨w2.heap.size, 0, none⟩ (.int .i64 m)).setCell ⟨w2.heap.size, 1, none⟩ (.slice (some ⟨w1.heap.size + 1, 0, none⟩) m m) := ⟨_, rfl⟩
            have HX6 : Hid (w6.heap[w2.heap.size]? = some (.cells #[.int .i64 m, .slice (some ⟨w1.heap.size + 1, 0, none⟩) m m] 34 (0, 0))) := by rw [h6]; exact two_set HX5.out
            have HB6 : Hid (Blk w6 (w1.heap.size + 1) (rowsF m (adjS (swapS (whereS (onF q P) v ++ inS (onF q P) v (k + 1)))))) := by rw [h6, HN.out]; exact (HB5.out.other (by simp; exact HGW.out.symm) _).other (by simp; exact HGW.out.symm) _
            have hE6 : Below w1.heap.size w1 w6 := by rw [h6]; exact (hE5.setCell (p := ⟨w2.heap.size, 0, none⟩) (by simp; omega) _).setCell (p := ⟨w2.heap.size, 1, none⟩) (by simp; omega) _
            have t6 : w2.heap.size + 1 ≤ w6.heap.size := by rw [h6]; simpa using t5
            rw [← h6]
            clear h6 HX5 HB5 hE5 t5 x0 x1 y0 y1
            go_roundw
            case rel => exact ⟨k + 1, by omega, by go_num, HB6, HX6, hE6, t6⟩
            case measure => simp [intOf]; omega
          | false =>
            have HON := Lib.hid (hon _ hr)
            have HN : Hid (swapS (whereS (onF q P) v ++ inS (onF q P) v (k + 1)) = swapS (whereS (onF q P) v ++ inS (onF q P) v k)) := by show _ = _; rw [inS_no hr]
            clear hr hon hcells hcells' hc0 hc0' ht1 ht2
            go_wp2_with fail
            go_quiet ((go_at_call 44; exact qdrew (HON.out _)))
            generalize hw4 : wr.drewN _ = w4
            have HB4 : Hid (Blk w4 (w1.heap.size + 1) (rowsF m (adjS (swapS (whereS (onF q P) v ++ inS (onF q P) v (k + 1)))))) := by rw [← hw4, HN.out]; exact HC.out
            have HX4 : Hid (w4.heap[w2.heap.size]? = some (.cells #[.int .i64 m, .slice (some ⟨w1.heap.size + 1, 0, none⟩) m m] 34 (0, 0))) := by rw [← hw4]; exact HY.out
            have hE4 : Below w1.heap.size w1 w4 := by rw [← hw4]; exact drewN_below hF _
            have t4 : w2.heap.size + 1 ≤ w4.heap.size := by rw [← hw4]; exact ht
            clear hw4 HC HY hF ht hcell hcell' HON
            go_wp2_with fail
            go_roundw
            case rel => exact ⟨k + 1, by omega, by go_num, HB4, HX4, hE4, t4⟩
            case measure => simp [intOf]; omega
        · obtain rfl : k = v := by omega
          have HC1 : Hid (Blk wr (w1.heap.size + 1) (rowsF m (adjS (swapS (whereS (onF q P) (k + 1)))))) := HC.out
          go_wp2_with fail
          go_roundw
          case rel => exact ⟨k + 1, by omega, by go_num, HC1, HY, hF, ht⟩
          case measure => simp [intOf]; omega
    · obtain rfl : v = m := by omega
      have RB := Lib.hid ((hE.block w.heap.size (by omega)).trans RB1.out)
      obtain ⟨r0, r1, g0, g1⟩ := two_cells RB.out
      obtain ⟨x0, x1, -, -⟩ := two_cells HX.out
      have HBF : Hid (Blk wr (w1.heap.size + 1) (rowsF v (adjS (whereS (onF q P) v)))) := by show Blk _ _ _; rw [← adjS_swap]; exact HB.out
      go_wp2_with fail
      have hfin := two_set (a := .int .i64 v) (b := .slice (some ⟨w1.heap.size + 1, 0, none⟩) v v) RB.out
      rw [← HM.out]
      refine bodyPost_ret (v := .tuple #[.agg #[.int .i64 v, .slice (some ⟨w1.heap.size + 1, 0, none⟩) v v], .int .i64 0]) (results_cell2 (p := 2) (u := 3) (ty := 34) rfl _ _ w.heap.size 34 _ (0, 0) _ rfl hfin Tryd.underlying34 rfl (by exact info27)) rfl ⟨⟨_, rfl, ?_⟩, ?_⟩
      · have h := Own.of_blk ((HBF.out.other (a := ⟨w.heap.size, 0, none⟩) (by simp; omega) (.int .i64 v)).other (a := ⟨w.heap.size, 1, none⟩) (by simp; omega) (.slice (some ⟨w1.heap.size + 1, 0, none⟩) v v)) (B := w.heap.size) (by omega) (by rw [rowsF_length]; unfold maxLen; omega)
        rw [rowsF_length] at h
        exact h
      · exact ((E1.trans (hE.mono (by omega))).setCell (p := ⟨w.heap.size, 0, none⟩) (by simp) _).setCell (p := ⟨w.heap.size, 1, none⟩) (by simp) _

theorem specPol_any (x : Int) (w : World) :
    Calls Tryd.prog 27 #[.int .i64 x] w fun e w' => GRes w.heap.size (PolN x) (PolL x) (ApC x) e w' ∧ Below w.heap.size w w' := by
  cases h : isP x with
  | true =>
    rw [show PolN x = ((ptsL x.toNat).length : Int) by simp [PolN, h], show PolL x = polL x.toNat by simp [PolL, h], show ApC x = 0 by simp [ApC, h]]
    have h2 : x = 2 ∨ x = 3 ∨ x = 5 ∨ x = 7 := by simpa [isP] using h
    have e : ((x.toNat : Nat) : Int) = x := by omega
    have := specPol_yes x.toNat w (by omega)
    rw [e] at this
    exact this
  | false =>
    rw [show PolN x = 0 by simp [PolN, h], show PolL x = [] by simp [PolL, h], show ApC x = 2 by simp [ApC, h]]
    exact specPol_no x w (by simpa [isP] using h)
end Go.Proofs.YtbfdhnecadgfdaaDoor
