/-
  impl.InflateGraph.
-/
import Derived.Test.YtabkfihhfkmioaaDoorIn9
import Derived.BigQuiet
import Derived.Deep.QuietTactic
import Derived.Deep.DeepCutAuto
namespace Go.Proofs.YtabkfihhfkmioaaDoor
set_option maxRecDepth 100000
open Go.RowKit

set_option maxHeartbeats 3200000 in
theorem infC_some (bx ga oa ca i j : Nat) (P : List (Nat × Nat)) (W : World) (hbx : W.cell? ⟨bx, 0, none⟩ = some (.slice (some ⟨ga, oa, none⟩) P.length ca)) (hR : Rows W ga oa (P.map prI)) (hi : i < P.length) (hj : j < P.length) :
    Calls Tryd.prog 77 #[.int .i64 i, .int .i64 j, .pointer (some ⟨bx, 0, none⟩)] W fun e w' => e = .returned (.bool (infF P i j)) ∧ Below W.heap.size W w' := by
  obtain ⟨gi, oi, ci, p1, p2, p3⟩ := ar_row hR hi
  obtain ⟨gj, oj, cj, q1, q2, q3⟩ := ar_row hR hj
  have i0 : (0 : Int) ≤ i := by omega
  have i1 : (i : Int) < P.length := by omega
  have j0 : (0 : Int) ≤ j := by omega
  have j1 : (j : Int) < P.length := by omega
  unfold infF
  generalize (prA P i).1 = a at *
  generalize (prA P i).2 = b at *
  generalize (prA P j).1 = c at *
  generalize (prA P j).2 = d at *
  clear hR
  by_cases h1 : a = c
  · have t1 : ((a : Int) == (c : Int)) = true := by simp [h1]
    have hr : (a == c || (a == d && b == c)) = true := by simp [h1]
    rw [hr]; clear hr h1
    go_enter Tryd.func77, Tryd.ntmps77
    go_wp2_with fail
    go_quiet (fail)
    go_wp2_with fail
    go_quiet (fail)
    go_wp2
    go_ret
    exact ⟨rfl, drewN_below (drewN_below (Below.refl _ _) _) _⟩
  · have t1 : ((a : Int) == (c : Int)) = false := beq_eq_false_iff_ne.2 (by omega)
    by_cases h2 : a = d
    · have t2 : ((a : Int) == (d : Int)) = true := by simp [h2]
      by_cases h3 : b = c
      · have t3 : ((b : Int) == (c : Int)) = true := by simp [h3]
        have hr : (a == c || (a == d && b == c)) = true := by simp [h2, h3]
        rw [hr]; clear hr h1 h2 h3
        go_enter Tryd.func77, Tryd.ntmps77
        go_wp2_with fail
        go_quiet (fail)
        go_wp2_with fail
        go_quiet (fail)
        go_wp2
        go_ret
        exact ⟨rfl, drewN_below (drewN_below (Below.refl _ _) _) _⟩
      · have t3 : ((b : Int) == (c : Int)) = false := beq_eq_false_iff_ne.2 (by omega)
        have hr : (a == c || (a == d && b == c)) = false := by simp [h1, h3]
        rw [hr]; clear hr h1 h2 h3
        go_enter Tryd.func77, Tryd.ntmps77
        go_wp2_with fail
        go_quiet (fail)
        go_wp2_with fail
        go_quiet (fail)
        go_wp2
        go_ret
        exact ⟨rfl, drewN_below (drewN_below (Below.refl _ _) _) _⟩
    · have t2 : ((a : Int) == (d : Int)) = false := beq_eq_false_iff_ne.2 (by omega)
      have hr : (a == c || (a == d && b == c)) = false := by simp [h1, h2]
      rw [hr]; clear hr h1 h2
      go_enter Tryd.func77, Tryd.ntmps77
      go_wp2_with fail
      go_quiet (fail)
      go_wp2_with fail
      go_quiet (fail)
      go_wp2
      go_ret
      exact ⟨rfl, drewN_below (drewN_below (Below.refl _ _) _) _⟩

set_option maxHeartbeats 1600000 in
theorem implIf_no (n : Int) (v : Value) (zs : List Int) (w : World) (hs : Sl w v zs) (hl : zs.length ≤ 9223372036854775807) (hT : TabE w) (hg : isG n zs = false) :
    Calls Tryd.prog 27 #[.agg #[.int .i64 n, v]] w fun e w' => GRes w.heap.size 0 [] 1 e w' ∧ Below w.heap.size w w' := by
  obtain ⟨W, hW⟩ : ∃ W, W = (w.alloc (.cells #[.int .i64 n, v] 26)).alloc (.cells #[.int .i64 0, .slice none 0 0] 26) := ⟨_, rfl⟩
  have D0 : Below w.heap.size w W := by rw [hW]; exact ((Below.refl _ _).alloc (Nat.le_refl _) _).alloc (by simp) _
  have hsz : w.heap.size + 2 ≤ W.heap.size := by rw [hW]; simp
  have HK0 : Hid (W.heap[w.heap.size]? = some (.cells #[.int .i64 n, v] 26 (0, 0))) := by show _ = _; rw [hW]; exact heap_old_at (heap_new_at w _ w.heap.size rfl) _
  have HR0 : Hid (W.heap[w.heap.size + 1]? = some (.cells #[.int .i64 0, .slice none 0 0] 26 (0, 0))) := by show _ = _; rw [hW]; exact heap_new_at _ _ _ (by simp)
  have HD0 := Lib.hid D0
  have his := implIs_any n v zs W (hs.below D0) hl (hT.belowAll D0).1
  rw [hg] at his
  clear hs hg D0 hT
  go_enter Tryd.func27, Tryd.ntmps27
  go_wp2_with (go_at_call 73; rw [← hW]; refine his.mono ?_; rintro e w1 ⟨rfl, hb1⟩; have HR1 := Lib.hid ((hb1.block (w.heap.size + 1) (by omega)).trans HR0.out); have HB1 := Lib.hid (HD0.out.trans (hb1.mono (by omega))); obtain ⟨r0, r1, g0, g1⟩ := two_cells HR1.out; clear hb1)
  have hfin := two_set (a := .int .i64 0) (b := .slice none 0 0) HR1.out
  refine bodyPost_ret (v := .tuple #[.agg #[.int .i64 0, .slice none 0 0], .int .i64 1]) (results_cell2 (p := 2) (u := 3) (ty := 26) rfl _ _ (w.heap.size + 1) 26 _ (0, 0) _ rfl hfin Tryd.underlying26 rfl (by exact info27)) rfl ⟨⟨_, rfl, Own.nil _ _⟩, ?_⟩
  exact (HB1.out.setCell (p := ⟨w.heap.size + 1, 0, none⟩) (by simp) _).setCell (p := ⟨w.heap.size + 1, 1, none⟩) (by simp) _

set_option maxHeartbeats 6400000 in
theorem implIf_yes (b off cap : Nat) (zs : List Int) (w : World) (hb : b < w.heap.size) (hc : Cells w b off zs) (hT : TabE w) (hg : isG zs.length zs = true) (P : List (Nat × Nat)) (hP : P = acP zs zs.length) (N : Int) (D : List Int) (C : Int) (HA : Hid (N = ifN zs.length zs ∧ D = ifD zs.length zs ∧ C = ifC zs.length zs)) :
    Calls Tryd.prog 27 #[.agg #[.int .i64 zs.length, .slice (some ⟨b, off, none⟩) zs.length cap]] w fun e w' => GRes w.heap.size N D C e w' ∧ Below w.heap.size w w' := by
  obtain ⟨h1a, h1b, -, -, -⟩ := isG_parts hg
  have hl : zs.length ≤ 9223372036854775807 := by omega
  obtain ⟨W, hW⟩ : ∃ W, W = (w.alloc (.cells #[.int .i64 zs.length, .slice (some ⟨b, off, none⟩) zs.length cap] 26)).alloc (.cells #[.int .i64 0, .slice none 0 0] 26) := ⟨_, rfl⟩
  have D0 : Below w.heap.size w W := by rw [hW]; exact ((Below.refl _ _).alloc (Nat.le_refl _) _).alloc (by simp) _
  have hsz : w.heap.size + 2 ≤ W.heap.size := by rw [hW]; simp
  have HK0 : Hid (W.heap[w.heap.size]? = some (.cells #[.int .i64 zs.length, .slice (some ⟨b, off, none⟩) zs.length cap] 26 (0, 0))) := by show _ = _; rw [hW]; exact heap_old_at (heap_new_at w _ w.heap.size rfl) _
  have HR0 : Hid (W.heap[w.heap.size + 1]? = some (.cells #[.int .i64 0, .slice none 0 0] 26 (0, 0))) := by show _ = _; rw [hW]; exact heap_new_at _ _ _ (by simp)
  have HD0 := Lib.hid D0
  have his := implIs_some zs.length b off cap zs W (Nat.lt_of_lt_of_le hb D0.size) (hc.below D0 hb) hl (hT.belowAll D0).1
  rw [hg] at his
  have hd := isD_ofG hg
  have hPL : P.length ≤ 4000 := by rw [hP]; have := acP_len zs zs.length; omega
  have HARC : Hid (∀ X, Below W.heap.size W X → Calls Tryd.prog 74 #[.agg #[.int .i64 zs.length, .slice (some ⟨b, off, none⟩) zs.length cap]] X fun e w' => LSRes X.heap.size (P.map prI) 0 e w' ∧ Below X.heap.size X w') := fun X hX => by
    have harc := implAo_any (zs.length : Int) (.slice (some ⟨b, off, none⟩) zs.length cap) zs X (.inr ⟨b, off, cap, rfl, by have := D0.size; have := hX.size; omega, (hc.below D0 hb).below hX (by omega)⟩) hl ((hT.belowAll D0).belowAll hX)
    unfold AoL dC ArLL at harc
    rw [hd, if_pos rfl, if_pos rfl, ← hP] at harc
    exact harc
  have hOK : ifOk zs.length zs = decide (1 ≤ P.length ∧ P.length ≤ 62) := by unfold ifOk; rw [hg, ← hP]; rfl
  have hAN : N = if 1 ≤ P.length ∧ P.length ≤ 62 then (P.length : Int) else 0 := by rw [HA.out.1]; unfold ifN; rw [hOK, ← hP]; simp only [decide_eq_true_eq]
  have hAD : D = if 1 ≤ P.length ∧ P.length ≤ 62 then rowsF P.length (adjS (whereS (infF P) P.length)) else [] := by rw [HA.out.2.1]; unfold ifD; rw [hOK, ← hP]; simp only [decide_eq_true_eq]
  have hAC : C = if 1 ≤ P.length ∧ P.length ≤ 62 then 0 else 3 := by rw [HA.out.2.2]; unfold ifC; rw [hg, ← hP, if_pos rfl]
  obtain ⟨b0, b1, -, -⟩ := two_cells HK0.out
  clear HA hOK hc hT hg hd hP D0
  by_cases hq : 1 ≤ P.length ∧ P.length ≤ 62
  · rw [if_pos hq] at hAN hAD hAC
    subst hAN hAD hAC
    have HSZ : Hid (∀ X, Calls Tryd.prog 75 #[.int .i64 P.length] X fun e w' => e = .returned (.bool true) ∧ X = w') := fun X => by
      have h := isSize_any (P.length : Int) X
      rw [← Bool.decide_and, decide_eq_true (by omega)] at h
      exact h
    have hmk := hmkf9
    go_enter Tryd.func27, Tryd.ntmps27
    go_wp2_with (first
      | (go_at_call 73; rw [← hW]; refine his.mono ?_; rintro e w1 ⟨rfl, hb1⟩; have q1 := hb1.size; obtain ⟨b0, b1, -, -⟩ := two_cells ((hb1.block w.heap.size (by omega)).trans HK0.out); have HB1 := Lib.hid hb1; clear hb1)
      | (go_at_call 74; refine (HARC.out _ HB1.out).mono ?_; rintro e w2 ⟨⟨u, rfl, hTL⟩, hb2⟩; have q2 := hb2.size; have HTL := Lib.hid hTL; have HB2 := Lib.hid (HB1.out.trans (hb2.mono (by omega))); obtain ⟨ga, oa, ca, hua, hgal, hrows⟩ := hTL.ts.ss.rows (by rw [List.length_map]; omega); rw [List.length_map] at hua; subst hua; have HROWS := Lib.hid hrows; clear hTL hb2 hrows)
      | (go_at_call 75; refine (HSZ.out _).mono ?_; rintro e w9 ⟨rfl, rfl⟩))
    obtain ⟨V, hV⟩ : ∃ V, V = w2.alloc (.cells #[.slice (some ⟨ga, oa, none⟩) P.length ca] 70) := ⟨_, rfl⟩
    have hbV : Below w2.heap.size w2 V := by rw [hV]; exact (Below.refl _ _).alloc (Nat.le_refl _) _
    have hcV : V.cell? ⟨w2.heap.size, 0, none⟩ = some (.slice (some ⟨ga, oa, none⟩) P.length ca) := by rw [hV]; exact cell_one_new _ _ _ 0 _ rfl
    have hsV : w2.heap.size < V.heap.size := by rw [hV]; simp
    rw [← hV]
    clear hV
    have HRV := Lib.hid (HROWS.out.below hgal hbV)
    refine (where1_any 77 (.pointer (some ⟨w2.heap.size, 0, none⟩)) (infF P) P.length V hq.2 (fun _ _ => by kernel_rfl) (fun v x X hvx hx hX => infC_some w2.heap.size ga oa ca v x P X ((hX.cell (p := ⟨w2.heap.size, 0, none⟩) hsV).trans hcV) (HRV.out.below (by omega) hX) (by omega) hx)).mono ?_
    rintro e w3 ⟨⟨g, rfl, hB, hg⟩, hb3⟩
    have q3 := hb3.size
    have HB3 := Lib.hid (HD0.out.trans ((HB2.out.trans ((hbV.mono (by omega)).trans (hb3.mono (by omega)))).mono (by omega)))
    have HR3 := Lib.hid ((hb3.block (w.heap.size + 1) (by omega)).trans ((hbV.block (w.heap.size + 1) (by omega)).trans ((HB2.out.block (w.heap.size + 1) (by omega)).trans HR0.out)))
    have HO : Hid (Own w3 V.heap.size (.slice (some ⟨g, 0, none⟩) P.length P.length) (rowsF P.length (adjS (whereS (infF P) P.length)))) := by
      have h := Own.of_blk hB hg (by rw [rowsF_length]; unfold maxLen; omega)
      rw [rowsF_length] at h
      exact h
    obtain ⟨r0, r1, g0, g1⟩ := two_cells HR3.out
    clear hB hb3 hbV hcV b0 b1
    go_wp2
    have hfin := two_set (a := .int .i64 P.length) (b := .slice (some ⟨g, 0, none⟩) P.length P.length) HR3.out
    refine bodyPost_ret (v := .tuple #[.agg #[.int .i64 P.length, .slice (some ⟨g, 0, none⟩) P.length P.length], .int .i64 0]) (results_cell2 (p := 2) (u := 3) (ty := 26) rfl _ _ (w.heap.size + 1) 26 _ (0, 0) _ rfl hfin Tryd.underlying26 rfl (by exact info27)) rfl ⟨⟨_, rfl, ?_⟩, ?_⟩
    · exact (HO.out.base (by omega)).kept (grown_set (grown_set ⟨rfl, rfl, rfl, Nat.le_refl _, fun _ _ _ => rfl⟩ _ 0 _) _ 1 _) (.inr (by simp [Value.ownBlock]; omega))
    · exact (HB3.out.setCell (p := ⟨w.heap.size + 1, 0, none⟩) (by simp) _).setCell (p := ⟨w.heap.size + 1, 1, none⟩) (by simp) _
  · rw [if_neg hq] at hAN hAD hAC
    subst hAN hAD hAC
    have HSZ : Hid (∀ X, Calls Tryd.prog 75 #[.int .i64 P.length] X fun e w' => e = .returned (.bool false) ∧ X = w') := fun X => by
      have h := isSize_any (P.length : Int) X
      rw [← Bool.decide_and, decide_eq_false (by omega)] at h
      exact h
    go_enter Tryd.func27, Tryd.ntmps27
    go_wp2_with (first
      | (go_at_call 73; rw [← hW]; refine his.mono ?_; rintro e w1 ⟨rfl, hb1⟩; have q1 := hb1.size; obtain ⟨b0, b1, -, -⟩ := two_cells ((hb1.block w.heap.size (by omega)).trans HK0.out); have HB1 := Lib.hid hb1; clear hb1)
      | (go_at_call 74; refine (HARC.out _ HB1.out).mono ?_; rintro e w2 ⟨⟨u, rfl, hTL⟩, hb2⟩; have q2 := hb2.size; have HB2 := Lib.hid (HB1.out.trans (hb2.mono (by omega))); obtain ⟨pa, pc, hu⟩ := ss_slice hTL.ts.ss; rw [List.length_map] at hu; subst hu; have HR2 := Lib.hid ((HB2.out.block (w.heap.size + 1) (by omega)).trans HR0.out); have HB3 := Lib.hid (HD0.out.trans (HB2.out.mono (by omega))); obtain ⟨r0, r1, g0, g1⟩ := two_cells HR2.out; have n1 : w.heap.size + 1 < w2.heap.size := (by omega); have n2 : ¬ w.heap.size + 1 = w2.heap.size := (by omega); have n3 : ¬ w2.heap.size = w.heap.size + 1 := (by omega); clear hTL hb2)
      | (go_at_call 75; refine (HSZ.out _).mono ?_; rintro e w9 ⟨rfl, rfl⟩))
    have hfin := heap_old_at (two_set (a := .int .i64 0) (b := .slice none 0 0) HR2.out) (.cells #[.slice pa P.length pc] 70)
    have hs3 := HB3.out.size
    refine bodyPost_ret (v := .tuple #[.agg #[.int .i64 0, .slice none 0 0], .int .i64 3]) (results_cell2 (p := 2) (u := 3) (ty := 26) rfl _ _ (w.heap.size + 1) 26 _ (0, 0) _ rfl hfin Tryd.underlying26 rfl (by exact info27)) rfl ⟨⟨_, rfl, Own.nil _ _⟩, ?_⟩
    exact ((HB3.out.setCell (p := ⟨w.heap.size + 1, 0, none⟩) (by simp) _).setCell (p := ⟨w.heap.size + 1, 1, none⟩) (by simp) _).alloc (by simp; omega) _

theorem implIf_any (n : Int) (v : Value) (zs : List Int) (w : World) (hs : Sl w v zs) (hl : zs.length ≤ 9223372036854775807) (hT : TabE w) :
    Calls Tryd.prog 27 #[.agg #[.int .i64 n, v]] w fun e w' => GRes w.heap.size (ifN n zs) (ifD n zs) (ifC n zs) e w' ∧ Below w.heap.size w w' := by
  cases hg : isG n zs with
  | false =>
    have e : ifOk n zs = false := by unfold ifOk; rw [hg]; rfl
    rw [show ifN n zs = 0 by unfold ifN; rw [e]; rfl, show ifD n zs = [] by unfold ifD; rw [e]; rfl, show ifC n zs = 1 by unfold ifC; rw [hg]; rfl]
    exact implIf_no n v zs w hs hl hT hg
  | true =>
    obtain ⟨h1, _, h3, _⟩ := isG_parts hg
    obtain ⟨b, off, cap, rfl, hb, hc⟩ := sl_some hs (by omega)
    obtain rfl : (zs.length : Int) = n := h3
    exact implIf_yes b off cap zs w hb hc hT hg _ rfl _ _ _ ⟨rfl, rfl, rfl⟩
end Go.Proofs.YtabkfihhfkmioaaDoor
