/-
  Odd graphs: spec.OddGraph.
-/
import Derived.Test.YtapnlheecplpgaaDoorOd1
import Derived.Test.YtapnlheecplpgaaDoorRs
import Derived.Deep.RegionWith
namespace Go.Proofs.YtapnlheecplpgaaDoor
set_option maxRecDepth 100000
open Go.RowKit

theorem specEmptyO_at (N : Int) (len : Nat) (w : World) (hl : len ≤ 1048576) (eN : N = (len : Int)) :
    Calls Tryd.prog 11 #[.int .i64 N] w fun e w' => e = .returned (.agg #[.int .i64 len, .slice (some ⟨w.heap.size + 1, 0, none⟩) len len]) ∧ Blk w' (w.heap.size + 1) (List.replicate len 0) ∧ Below w.heap.size w w' := by
  subst eN
  exact specEmpty_any len w hl

/-- The pairs of the numbers of two rows without a common digit, in the model's order. -/
def oddJ (L : List Nat) (i : Nat) : Nat → List (Nat × Nat)
  | 0 => []
  | j + 1 => if L.getD i 0 &&& L.getD j 0 = 0 then oddJ L i j ++ [(i, j)] else oddJ L i j
def oddS (L : List Nat) : Nat → List (Nat × Nat)
  | 0 => []
  | i + 1 => oddS L i ++ oddJ L i i
theorem oddJ_yes {L : List Nat} {i j : Nat} (h : L.getD i 0 &&& L.getD j 0 = 0) : oddJ L i (j + 1) = oddJ L i j ++ [(i, j)] := by rw [oddJ, if_pos h]
theorem oddJ_no {L : List Nat} {i j : Nat} (h : ¬ L.getD i 0 &&& L.getD j 0 = 0) : oddJ L i (j + 1) = oddJ L i j := by rw [oddJ, if_neg h]

def oddOk (k : Int) : Bool := decide (2 ≤ k) && decide (k ≤ 4)
def oddSets (k : Nat) : List Nat := stL (k - 1) 0 (2 * k - 1)
def OdN (k : Int) : Int := if oddOk k = true then ((oddSets k.toNat).length : Nat) else 0
def OdL (k : Int) : List Int := if oddOk k = true then rowsF (oddSets k.toNat).length (adjS (oddS (oddSets k.toNat) (oddSets k.toNat).length)) else []
def OdC (k : Int) : Int := if oddOk k = true then 0 else 2
theorem odd_len : ∀ k : Fin 5, 2 ≤ k.1 → 1 ≤ (oddSets k.1).length ∧ (oddSets k.1).length ≤ 35 := by decide +kernel

set_option maxHeartbeats 800000 in
theorem specOd_no (k : Int) (w : World) (h : oddOk k = false) :
    Calls Tryd.prog 4 #[.int .i64 k] w fun e w' => GRes w.heap.size 0 [] 2 e w' ∧ Below w.heap.size w w' := by
  have h' : ¬ (2 ≤ k ∧ k ≤ 4) := fun hh => by simp [oddOk, hh.1, hh.2] at h
  have D0 : Below w.heap.size w (w.alloc (.cells #[.int .i64 0, .slice none 0 0] 24)) := (Below.refl _ _).alloc (Nat.le_refl _) _
  have RB := Lib.hid (World.alloc_heap_new w (.cells #[.int .i64 0, .slice none 0 0] 24))
  obtain ⟨W, hW⟩ : ∃ W, W = w.alloc (.cells #[.int .i64 0, .slice none 0 0] 24) := ⟨_, rfl⟩
  rw [← hW] at D0 RB
  have hc : (decide (2 ≤ k) = false) ∨ (decide (2 ≤ k) = true ∧ decide (k ≤ 4) = false) := by simp; omega
  clear h h'
  rcases hc with h1 | ⟨h1, h2⟩
  all_goals
    go_enter Tryd.func4, Tryd.ntmps4
    go_wp2_with (go_at_call 9; refine (in_any _ _ _ _).mono ?_; rintro e w' ⟨rfl, rfl⟩)
    rw [← hW]
    obtain ⟨r0, r1, g0, g1⟩ := two_cells RB.out
    refine bodyPost_ret (v := .tuple #[.agg #[.int .i64 0, .slice none 0 0], .int .i64 2]) (results_cell2 (p := 2) (u := 3) (ty := 24) rfl _ _ w.heap.size 24 _ (0, 0) _ rfl RB.out Tryd.underlying24 rfl (by exact info27)) rfl ⟨⟨_, rfl, Own.nil _ _⟩, D0⟩

set_option maxHeartbeats 3200000 in
theorem specOd_yes (k m : Nat) (L : List Nat) (w : World) (h2 : 2 ≤ k) (h4 : k ≤ 4) (hL : L = oddSets k) (hm : m = L.length) (hm0 : 1 ≤ m) (hm1 : m ≤ 35) :
    Calls Tryd.prog 4 #[.int .i64 k] w fun e w' => GRes w.heap.size m (rowsF m (adjS (oddS L m))) 0 e w' ∧ Below w.heap.size w w' := by
  have D0 : Below w.heap.size w (w.alloc (.cells #[.int .i64 0, .slice none 0 0] 24)) := (Below.refl _ _).alloc (Nat.le_refl _) _
  have RB0 := Lib.hid (World.alloc_heap_new w (.cells #[.int .i64 0, .slice none 0 0] 24))
  obtain ⟨W, hW⟩ : ∃ W, W = w.alloc (.cells #[.int .i64 0, .slice none 0 0] 24) := ⟨_, rfl⟩
  rw [← hW] at D0 RB0
  have hsz : w.heap.size + 1 ≤ W.heap.size := by rw [hW]; simp
  have hst := sets_any (k - 1) 0 (2 * k - 1) ((k : Int) - 1) 0 (2 * (k : Int) - 2) W (by omega) (by omega) rfl (by omega) (by omega) (by omega)
  rw [show stL (k - 1) 0 (2 * k - 1) = L from hL.symm] at hst
  have HST := Lib.hid hst
  have HLT : Hid (∀ z, z ∈ L → z < 2 ^ 61) := fun z hz => by
    rw [hL] at hz
    exact Nat.lt_of_lt_of_le (stL_lt _ _ _ z hz) (Nat.pow_le_pow_right (by decide) (by omega))
  have HM := Lib.hid hm
  have i2 : (2 : Int) ≤ k := by omega
  have i4 : (k : Int) ≤ 4 := by omega
  clear hst hL hm
  go_enter Tryd.func4, Tryd.ntmps4
  go_wp2_with (go_at_call 9; refine (in_any _ _ _ _).mono ?_; rintro e w' ⟨rfl, rfl⟩)
  rw [← hW]
  clear hW
  refine HST.out.mono ?_
  rintro e w1 ⟨⟨u, rfl, hO⟩, hb1⟩
  clear HST
  have s1 := hb1.size
  obtain ⟨g, cap, rfl, hg1, hg2, hC⟩ : ∃ g cap, u = .slice (some ⟨g, 0, none⟩) m cap ∧ W.heap.size ≤ g ∧ g < w1.heap.size ∧ Cells w1 g 0 (nIO L) := by
    rcases hO.form with ⟨_, h0⟩ | ⟨g, cap, e, e1, e2⟩
    · have := congrArg List.length h0
      rw [nIO_length, ← HM.out, List.length_nil] at this
      omega
    · refine ⟨g, cap, by rw [e, nIO_length, HM.out], e1, e2, ?_⟩
      rcases hO.sl with ⟨_, _, _, h0⟩ | ⟨b, off, cap', e', _, hcc⟩
      · have := congrArg List.length h0
        rw [nIO_length, ← HM.out, List.length_nil] at this
        omega
      · rw [e] at e'
        injection e' with e1 e2 e3
        injection e1 with e1
        injection e1 with e1 e4 e5
        subst e1; subst e4
        exact hcc
  have RB1 := Lib.hid ((hb1.block w.heap.size (by omega)).trans RB0.out)
  have E1 := D0.trans (hb1.mono (by omega))
  have HC1 := Lib.hid hC
  have hem := Lib.hid (specEmptyO_at (m : Int) m w1 (by omega) rfl)
  clear hO hb1 hC RB0 D0
  go_wp2_with fail
  refine hem.out.mono ?_
  rintro e w2 ⟨rfl, hB2, hb2⟩
  clear hem
  have l2 := hB2.lt
  have HB2 : Hid (Blk w2 (w1.heap.size + 1) (rowsF m (adjS (oddS L 0 ++ oddJ L 0 0)))) := by show Blk _ _ _; rw [show adjS (oddS L 0 ++ oddJ L 0 0) = fun _ _ => false from rfl, rowsF_none]; exact hB2
  go_wp2_with fail
  obtain ⟨w3, h3w⟩ : ∃ w3, w3 = w2.alloc (.cells #[.int .i64 m, .slice (some ⟨w1.heap.size + 1, 0, none⟩) m m] 24) := ⟨_, rfl⟩
  have X3 : Hid (w3.heap[w2.heap.size]? = some (.cells #[.int .i64 m, .slice (some ⟨w1.heap.size + 1, 0, none⟩) m m] 24 (0, 0))) := by rw [h3w]; exact World.alloc_heap_new w2 _
  have hb3 : Below w2.heap.size w2 w3 := by rw [h3w]; exact (Below.refl _ _).alloc (Nat.le_refl _) _
  rw [← h3w]
  clear h3w
  have HB3 := Lib.hid (HB2.out.belowAll hb3)
  have E3 : Below w1.heap.size w1 w3 := hb2.trans (hb3.mono (by omega))
  have s3 : w2.heap.size + 1 ≤ w3.heap.size := (Array.getElem?_eq_some_iff.1 X3.out).1
  clear HB2 hB2 hb2 hb3
  go_loopw [6] (fun i wr => ∃ v : Nat, v ≤ m ∧ i = .int .i64 v ∧ Hid (Blk wr (w1.heap.size + 1) (rowsF m (adjS (oddS L v ++ oddJ L v 0)))) ∧ Hid (wr.heap[w2.heap.size]? = some (.cells #[.int .i64 m, .slice (some ⟨w1.heap.size + 1, 0, none⟩) m m] 24 (0, 0))) ∧ Below w1.heap.size w1 wr ∧ w2.heap.size + 1 ≤ wr.heap.size) (fun i _ => m - (intOf i).toNat)
  case atStart => exact ⟨0, Nat.zero_le _, rfl, HB3, X3, E3, s3⟩
  case round =>
    clear HB3 X3 E3 s3
    obtain ⟨v, hv, rfl, HB, HX, hE, hs⟩ := hrel
    by_cases hlt : (v : Int) < m
    · have hvm : v < m := by omega
      go_wp2_with fail
      go_loopw [7] (fun jv wr => ∃ j : Nat, j ≤ v ∧ jv = .int .i64 j ∧ Hid (Blk wr (w1.heap.size + 1) (rowsF m (adjS (oddS L v ++ oddJ L v j)))) ∧ Hid (wr.heap[w2.heap.size]? = some (.cells #[.int .i64 m, .slice (some ⟨w1.heap.size + 1, 0, none⟩) m m] 24 (0, 0))) ∧ Below w1.heap.size w1 wr ∧ w2.heap.size + 1 ≤ wr.heap.size) (fun jv _ => v - (intOf jv).toNat)
      case atStart => exact ⟨0, Nat.zero_le _, rfl, HB, HX, hE, hs⟩
      case round =>
        clear HB HX hE hs
        obtain ⟨j, hj, rfl, HB, HX, hE, hs⟩ := hrel
        by_cases hjl : (j : Int) < v
        · have hjv : j < v := by omega
          have hC := HC1.out.below hE hg2
          obtain ⟨za, hza⟩ : ∃ za, za = L.getD v 0 := ⟨_, rfl⟩
          obtain ⟨zb, hzb⟩ : ∃ zb, zb = L.getD j 0 := ⟨_, rfl⟩
          have ca : wr.cell? ⟨g, v, none⟩ = some (.int .i64 (za : Int)) := by
            have h := hC v (by rw [nIO_length, ← HM.out]; exact hvm)
            rw [el_nIO _ _ (by rw [← HM.out]; exact hvm), Nat.zero_add] at h
            rw [h, hza, List.getD_eq_getElem?_getD, List.getElem?_eq_getElem (by rw [← HM.out]; exact hvm), Option.getD_some]
          have cb : wr.cell? ⟨g, j, none⟩ = some (.int .i64 (zb : Int)) := by
            have h := hC j (by rw [nIO_length, ← HM.out]; omega)
            rw [el_nIO _ _ (by rw [← HM.out]; omega), Nat.zero_add] at h
            rw [h, hzb, List.getD_eq_getElem?_getD, List.getElem?_eq_getElem (by rw [← HM.out]; omega), Option.getD_some]
          have ka : za < 2 ^ 61 := by
            rw [hza, List.getD_eq_getElem?_getD, List.getElem?_eq_getElem (by rw [← HM.out]; exact hvm), Option.getD_some]
            exact HLT.out _ (List.getElem_mem _)
          have kb : zb < 2 ^ 61 := by
            rw [hzb, List.getD_eq_getElem?_getD, List.getElem?_eq_getElem (by rw [← HM.out]; omega), Option.getD_some]
            exact HLT.out _ (List.getElem_mem _)
          obtain ⟨q, hq⟩ : ∃ q, q = za &&& zb := ⟨_, rfl⟩
          have hand : bits .and .i64 (za : Int) (zb : Int) = (q : Int) := by rw [hq]; exact and_i64 za zb (by omega) (by omega)
          have hv0 : (0 : Int) ≤ v := by omega
          have hj0 : (0 : Int) ≤ j := by omega
          have hjm : (j : Int) < m := by omega
          have HQ : Hid (q = L.getD v 0 &&& L.getD j 0) := by show _ = _; rw [hq, hza, hzb]
          clear hC hza hzb hq ka kb
          by_cases hq0 : q = 0
          · have HJ : Hid (oddS L v ++ oddJ L v (j + 1) = (oddS L v ++ oddJ L v j) ++ [(v, j)]) := by show _ = _; rw [oddJ_yes (HQ.out.symm.trans hq0), List.append_assoc]
            subst hq0
            have HWA := Lib.hid (fun W1 h => with_at (m : Int) (w1.heap.size + 1) m (oddS L v ++ oddJ L v j) v j (v : Int) (j : Int) W1 h hvm (by omega) (by omega) rfl rfl)
            rw [← HJ.out] at HWA
            clear HQ HJ
            obtain ⟨x0, x1, y0, y1⟩ := two_cells HX.out
            go_wp2_with fail
            go_quiet (fail)
            rename_i nq
            obtain ⟨wq, hwq⟩ : ∃ x, x = wr.drewN nq := ⟨_, rfl⟩
            have HBq : Hid (Blk wq (w1.heap.size + 1) (rowsF m (adjS (oddS L v ++ oddJ L v j)))) := by rw [hwq]; exact HB.out
            have HXq : Hid (wq.heap[w2.heap.size]? = some (.cells #[.int .i64 m, .slice (some ⟨w1.heap.size + 1, 0, none⟩) m m] 24 (0, 0))) := by rw [hwq]; exact HX.out
            have hEq : Below w1.heap.size w1 wq := by rw [hwq]; exact drewN_below hE _
            have tq : w2.heap.size + 1 ≤ wq.heap.size := by rw [hwq]; exact hs
            rw [← hwq]
            clear hwq HB HX hE hs x0 x1 y0 y1
            obtain ⟨x0, x1, y0, y1⟩ := two_cells HXq.out
            go_wp2_with fail
            refine (HWA.out _ HBq.out).mono ?_
            rintro e w5 ⟨rfl, hB5, hg5⟩
            have HB5 := Lib.hid hB5
            have HX5 := Lib.hid ((hg5.block w2.heap.size (by omega) (by simp; omega)).trans HXq.out)
            have hE5 := hEq.grown hg5 (by omega) (fun j e => by cases e; omega)
            have t5 : w2.heap.size + 1 ≤ w5.heap.size := Nat.le_trans tq hg5.size
            clear x0 x1 y0 y1 hB5 hg5 HXq HBq hEq tq HWA
            obtain ⟨x0, x1, y0, y1⟩ := two_cells HX5.out
            go_wp2_with fail
            obtain ⟨w6, h6⟩ : ∃ x, x = (w5.setCell ⟨w2.heap.size, 0, none⟩ (.int .i64 m)).setCell ⟨w2.heap.size, 1, none⟩ (.slice (some ⟨w1.heap.size + 1, 0, none⟩) m m) := ⟨_, rfl⟩
            have HX6 : Hid (w6.heap[w2.heap.size]? = some (.cells #[.int .i64 m, .slice (some ⟨w1.heap.size + 1, 0, none⟩) m m] 24 (0, 0))) := by rw [h6]; exact two_set HX5.out
            have HB6 : Hid (Blk w6 (w1.heap.size + 1) (rowsF m (adjS (oddS L v ++ oddJ L v (j + 1))))) := by rw [h6]; exact (HB5.out.other (by simp; omega) _).other (by simp; omega) _
            have hE6 : Below w1.heap.size w1 w6 := by rw [h6]; exact (hE5.setCell (p := ⟨w2.heap.size, 0, none⟩) (by simp; omega) _).setCell (p := ⟨w2.heap.size, 1, none⟩) (by simp; omega) _
            have t6 : w2.heap.size + 1 ≤ w6.heap.size := by rw [h6]; simpa using t5
            rw [← h6]
            clear h6 HX5 HB5 hE5 t5 x0 x1 y0 y1
            go_roundw
            case rel => exact ⟨j + 1, by omega, by go_num, HB6, HX6, hE6, t6⟩
            case measure => simp [intOf]; omega
          · have HJ : Hid (oddS L v ++ oddJ L v (j + 1) = oddS L v ++ oddJ L v j) := by show _ = _; rw [oddJ_no (fun h => hq0 (HQ.out.trans h))]
            have hq1 : ¬ (q : Int) = 0 := by omega
            clear HQ
            go_wp2_with fail
            go_quiet (fail)
            rename_i nq
            have HBq : Hid (Blk (wr.drewN nq) (w1.heap.size + 1) (rowsF m (adjS (oddS L v ++ oddJ L v (j + 1))))) := by show Blk _ _ _; rw [HJ.out]; exact HB.out
            have HXq : Hid ((wr.drewN nq).heap[w2.heap.size]? = some (.cells #[.int .i64 m, .slice (some ⟨w1.heap.size + 1, 0, none⟩) m m] 24 (0, 0))) := HX.out
            have hEq : Below w1.heap.size w1 (wr.drewN nq) := drewN_below hE _
            have tq : w2.heap.size + 1 ≤ (wr.drewN nq).heap.size := hs
            clear HB HX hE hs HJ
            go_wp2_with fail
            go_roundw
            case rel => exact ⟨j + 1, by omega, by go_num, HBq, HXq, hEq, tq⟩
            case measure => simp [intOf]; omega
        · obtain rfl : j = v := by omega
          have HB' : Hid (Blk wr (w1.heap.size + 1) (rowsF m (adjS (oddS L (j + 1) ++ oddJ L (j + 1) 0)))) := by
            show Blk _ _ _
            rw [show oddS L (j + 1) ++ oddJ L (j + 1) 0 = oddS L j ++ oddJ L j j from List.append_nil _]
            exact HB.out
          clear HB
          go_wp2_with fail
          go_roundw
          case rel => exact ⟨j + 1, by omega, by go_num, HB', HX, hE, hs⟩
          case measure => simp [intOf]; omega
    · obtain rfl : v = m := by omega
      have hle : v ≤ v := Nat.le_refl _
      have RB := Lib.hid ((hE.block w.heap.size (by omega)).trans RB1.out)
      obtain ⟨r0, r1, g0, g1⟩ := two_cells RB.out
      obtain ⟨x0, x1, -, -⟩ := two_cells HX.out
      go_wp2_with fail
      have hfin := two_set (a := .int .i64 v) (b := .slice (some ⟨w1.heap.size + 1, 0, none⟩) v v) RB.out
      refine bodyPost_ret (v := .tuple #[.agg #[.int .i64 v, .slice (some ⟨w1.heap.size + 1, 0, none⟩) v v], .int .i64 0]) (results_cell2 (p := 2) (u := 3) (ty := 24) rfl _ _ w.heap.size 24 _ (0, 0) _ rfl hfin Tryd.underlying24 rfl (by exact info27)) rfl ⟨⟨_, rfl, ?_⟩, ?_⟩
      · have hB := HB.out
        rw [show oddS L v ++ oddJ L v 0 = oddS L v from List.append_nil _] at hB
        have h := Own.of_blk ((hB.other (a := ⟨w.heap.size, 0, none⟩) (by simp; omega) (.int .i64 v)).other (a := ⟨w.heap.size, 1, none⟩) (by simp; omega) (.slice (some ⟨w1.heap.size + 1, 0, none⟩) v v)) (B := w.heap.size) (by omega) (by rw [rowsF_length]; unfold maxLen; omega)
        rw [rowsF_length] at h
        exact h
      · exact ((E1.trans (hE.mono (by omega))).setCell (p := ⟨w.heap.size, 0, none⟩) (by simp) _).setCell (p := ⟨w.heap.size, 1, none⟩) (by simp) _

theorem specOd_any (k : Int) (w : World) :
    Calls Tryd.prog 4 #[.int .i64 k] w fun e w' => GRes w.heap.size (OdN k) (OdL k) (OdC k) e w' ∧ Below w.heap.size w w' := by
  cases h : oddOk k
  · rw [show OdN k = 0 by simp [OdN, h], show OdL k = [] by simp [OdL, h], show OdC k = 2 by simp [OdC, h]]
    exact specOd_no k w h
  · have h' : 2 ≤ k ∧ k ≤ 4 := by simpa [oddOk] using h
    obtain ⟨k', rfl⟩ := Int.eq_ofNat_of_zero_le (show 0 ≤ k by omega)
    have hl := odd_len ⟨k', by omega⟩ (by show 2 ≤ k'; omega)
    have := specOd_yes k' (oddSets k').length (oddSets k') w (by omega) (by omega) rfl rfl hl.1 hl.2
    rw [show OdN (k' : Int) = (((oddSets k').length : Nat) : Int) by simp [OdN, h], show OdL (k' : Int) = rowsF (oddSets k').length (adjS (oddS (oddSets k') (oddSets k').length)) by simp [OdL, h], show OdC (k' : Int) = 0 by simp [OdC, h]]
    exact this
theorem OdL_length (k : Int) : (OdL k).length ≤ 35 := by
  unfold OdL
  split
  · rename_i h
    have h' : 2 ≤ k ∧ k ≤ 4 := by simpa [oddOk] using h
    rw [rowsF_length]
    exact (odd_len ⟨k.toNat, by omega⟩ (by show 2 ≤ k.toNat; omega)).2
  · simp
end Go.Proofs.YtapnlheecplpgaaDoor
