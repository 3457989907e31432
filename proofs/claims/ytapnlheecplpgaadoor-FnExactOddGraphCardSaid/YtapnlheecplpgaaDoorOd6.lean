/-
  Odd graphs: impl.OddGraph.
-/
import Derived.Test.YtapnlheecplpgaaDoorOd4
import Derived.Test.YtapnlheecplpgaaDoorOd5
namespace Go.Proofs.YtapnlheecplpgaaDoor
set_option maxRecDepth 100000
open Go.RowKit

set_option maxHeartbeats 800000 in
theorem implOd_no (k : Int) (w : World) (h : oddOk k = false) :
    Calls Tryd.prog 5 #[.int .i64 k] w fun e w' => GRes w.heap.size 0 [] 2 e w' ∧ Below w.heap.size w w' := by
  have h' : ¬ (2 ≤ k ∧ k ≤ 4) := fun hh => by simp [oddOk, hh.1, hh.2] at h
  have D0 : Below w.heap.size w (w.alloc (.cells #[.int .i64 0, .slice none 0 0] 24)) := (Below.refl _ _).alloc (Nat.le_refl _) _
  have RB := Lib.hid (World.alloc_heap_new w (.cells #[.int .i64 0, .slice none 0 0] 24))
  obtain ⟨W, hW⟩ : ∃ W, W = w.alloc (.cells #[.int .i64 0, .slice none 0 0] 24) := ⟨_, rfl⟩
  rw [← hW] at D0 RB
  have hc : (decide (k < 2) = true) ∨ (decide (k < 2) = false ∧ decide (4 < k) = true) := by simp; omega
  clear h h'
  rcases hc with h1 | ⟨h1, h2⟩
  all_goals
    go_enter Tryd.func5, Tryd.ntmps5
    go_wp2_with fail
    rw [← hW]
    obtain ⟨r0, r1, g0, g1⟩ := two_cells RB.out
    go_wp2_with fail
    refine bodyPost_ret (v := .tuple #[.agg #[.int .i64 0, .slice none 0 0], .int .i64 2]) (results_cell2 (p := 2) (u := 3) (ty := 24) rfl _ _ w.heap.size 24 _ (0, 0) _ rfl RB.out Tryd.underlying24 rfl (by exact info27)) rfl ⟨⟨_, rfl, Own.nil _ _⟩, D0⟩

set_option maxHeartbeats 3200000 in
theorem implOd_yes (k m : Nat) (T : List (List Int)) (w : World) (h2 : 2 ≤ k) (h4 : k ≤ 4) (hTT : T = oddT k) (hm : m = T.length) (hm1 : m ≤ 35) (hT : Tab w) :
    Calls Tryd.prog 5 #[.int .i64 k] w fun e w' => GRes w.heap.size m (rowsF m (adjS (apS T m))) 0 e w' ∧ Below w.heap.size w w' := by
  have D0 : Below w.heap.size w (w.alloc (.cells #[.int .i64 0, .slice none 0 0] 24)) := (Below.refl _ _).alloc (Nat.le_refl _) _
  have RB0 := Lib.hid (World.alloc_heap_new w (.cells #[.int .i64 0, .slice none 0 0] 24))
  obtain ⟨W, hW⟩ : ∃ W, W = w.alloc (.cells #[.int .i64 0, .slice none 0 0] 24) := ⟨_, rfl⟩
  rw [← hW] at D0 RB0
  have hsz : w.heap.size + 1 ≤ W.heap.size := by rw [hW]; simp
  obtain ⟨k1, rfl⟩ : ∃ k1, k = k1 + 1 := ⟨k - 1, by omega⟩
  have hso := setsOf_any k1 (2 * k1 + 1) (2 * ((k1 + 1 : Nat) : Int) - 1) W (by omega) (by omega) (by omega) (by omega) (by omega) (hT.belowAll D0)
  have hdef : (tups (2 * k1 + 1) k1).filter (ascP ((2 * k1 + 1 : Nat) : Int)) = T := by
    rw [hTT]; unfold oddT
    rw [show 2 * (k1 + 1) - 1 = 2 * k1 + 1 by omega, show k1 + 1 - 1 = k1 by omega]
  rw [hdef] at hso
  have HSO := Lib.hid hso
  have HEL : Hid (∀ i, i < T.length → 1 ≤ (elS T i).length ∧ (elS T i).length ≤ 62) := fun i hi => by
    have hmem : elS T i ∈ T := by
      unfold elS
      rw [List.getD_eq_getElem?_getD, List.getElem?_eq_getElem hi]
      exact List.getElem_mem _
    rw [← hdef] at hmem
    have := tups_lengths _ _ _ (List.mem_filter.1 hmem).1
    rw [hdef] at this
    omega
  have HM := Lib.hid hm
  have hkw : ((k1 + 1 : Nat) : Int) - 1 = (k1 : Int) := by omega
  obtain ⟨K, hK⟩ : ∃ K : Int, K = ((k1 + 1 : Nat) : Int) := ⟨_, rfl⟩
  rw [← hK] at hkw HSO
  rw [← hK]
  rw [← hkw] at HSO
  have i2 : (2 : Int) ≤ K := by omega
  have i4 : K ≤ 4 := by omega
  have e1 : decide (K < 2) = false := by simp; omega
  have e2 : decide (4 < K) = false := by simp; omega
  clear hso hTT hm hT hdef hkw hK
  go_enter Tryd.func5, Tryd.ntmps5
  go_wp2_with fail
  rw [← hW]
  clear hW
  go_wp2_with fail
  refine HSO.out.mono ?_
  rintro e w1 ⟨⟨g, cap, rfl, hR, hg1, hg2, hcap⟩, hb1⟩
  clear HSO
  have s1 := hb1.size
  have HAP := Lib.hid (apart_any g cap T w1 hR hg2 hcap (by rw [← HM.out]; omega) HEL.out)
  have RB1 := Lib.hid ((hb1.block w.heap.size (by omega)).trans RB0.out)
  have E1 := D0.trans (hb1.mono (by omega))
  rw [← HM.out] at HAP
  rw [← HM.out]
  clear hR hb1 RB0 D0 hcap
  go_wp2_with fail
  refine HAP.out.mono ?_
  rintro e w2 ⟨rfl, hP, hb2⟩
  clear HAP
  have s2 := hb2.size
  have HG := Lib.hid (gop_at m w1.heap.size (m : Int) (apS T m) w2 hP (by omega) (fun p hp => apS_mem hp) rfl)
  have RB2 := Lib.hid ((hb2.block w.heap.size (by omega)).trans RB1.out)
  have E2 := E1.trans (hb2.mono (by omega))
  clear hP hb2 RB1 E1
  go_wp2_with fail
  refine HG.out.mono ?_
  rintro e w3 ⟨⟨r, rfl, hB, hr⟩, hb3⟩
  clear HG
  have RB3 := Lib.hid ((hb3.block w.heap.size (by omega)).trans RB2.out)
  have E3 := E2.trans (hb3.mono (by omega))
  have hrw : w.heap.size < r := by omega
  have HB := Lib.hid hB
  clear hb3 RB2 E2 hB
  obtain ⟨r0, r1, g0, g1⟩ := two_cells RB3.out
  go_wp2_with fail
  have hfin := two_set (a := .int .i64 m) (b := .slice (some ⟨r, 0, none⟩) m m) RB3.out
  refine bodyPost_ret (v := .tuple #[.agg #[.int .i64 m, .slice (some ⟨r, 0, none⟩) m m], .int .i64 0]) (results_cell2 (p := 2) (u := 3) (ty := 24) rfl _ _ w.heap.size 24 _ (0, 0) _ rfl hfin Tryd.underlying24 rfl (by exact info27)) rfl ⟨⟨_, rfl, ?_⟩, ?_⟩
  · have h := Own.of_blk ((HB.out.other (a := ⟨w.heap.size, 0, none⟩) (by simp; omega) (.int .i64 m)).other (a := ⟨w.heap.size, 1, none⟩) (by simp; omega) (.slice (some ⟨r, 0, none⟩) m m)) (B := w.heap.size) (by omega) (by rw [rowsF_length]; unfold maxLen; omega)
    rw [rowsF_length] at h
    exact h
  · exact (E3.setCell (p := ⟨w.heap.size, 0, none⟩) (by simp) _).setCell (p := ⟨w.heap.size, 1, none⟩) (by simp) _

theorem implOd_any (k : Int) (w : World) (hT : Tab w) :
    Calls Tryd.prog 5 #[.int .i64 k] w fun e w' => GRes w.heap.size (OdN k) (OdL k) (OdC k) e w' ∧ Below w.heap.size w w' := by
  cases h : oddOk k
  · rw [show OdN k = 0 by simp [OdN, h], show OdL k = [] by simp [OdL, h], show OdC k = 2 by simp [OdC, h]]
    exact implOd_no k w h
  · have h' : 2 ≤ k ∧ k ≤ 4 := by simpa [oddOk] using h
    obtain ⟨k', rfl⟩ := Int.eq_ofNat_of_zero_le (show 0 ≤ k by omega)
    have hl := odd_len ⟨k', by omega⟩ (by show 2 ≤ k'; omega)
    have hs := odd_same ⟨k', by omega⟩ (by show 2 ≤ k'; omega)
    simp only at hs hl
    have := implOd_yes k' (oddT k').length (oddT k') w (by omega) (by omega) rfl rfl (by rw [hs.1]; exact hl.2) hT
    rw [show OdN (k' : Int) = (((oddT k').length : Nat) : Int) by simp [OdN, h, hs.1], show OdL (k' : Int) = rowsF (oddT k').length (adjS (apS (oddT k') (oddT k').length)) by rw [hs.2]; simp [OdL, h], show OdC (k' : Int) = 0 by simp [OdC, h]]
    exact this
end Go.Proofs.YtapnlheecplpgaaDoor
