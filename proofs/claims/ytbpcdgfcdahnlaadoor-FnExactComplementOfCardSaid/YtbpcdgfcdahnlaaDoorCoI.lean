/-
  impl.ComplementOf.
-/
import Derived.Test.YtbpcdgfcdahnlaaDoorCoS
import Derived.Deep.RegionWith
namespace Go.Proofs.YtbpcdgfcdahnlaaDoor
set_option maxRecDepth 100000
open Go.RowKit

set_option maxHeartbeats 1600000 in
theorem implCo_yes (n : Int) (b off cap : Nat) (zs : List Int) (w : World) (hb : b < w.heap.size) (hc : Cells w b off zs) (hg : isG n zs = true) (hl : zs.length ≤ 9223372036854775807) (hT : Tab w) :
    Calls Tryd.prog 36 #[.agg #[.int .i64 n, .slice (some ⟨b, off, none⟩) zs.length cap]] w fun e w' => GRes w.heap.size n (compL n zs) 0 e w' ∧ Below w.heap.size w w' := by
  obtain ⟨h1a, h1b, h3, -, -⟩ := isG_parts hg
  subst h3
  have hl62 : zs.length ≤ 62 := by omega
  have HR := Lib.hid (cm_at hg hl62)
  have hp := pow_bounds zs.length hl62
  have HP := Lib.hid hp
  have D0 : Below w.heap.size w ((w.alloc (.cells #[.int .i64 zs.length, .slice (some ⟨b, off, none⟩) zs.length cap] 28)).alloc (.cells #[.int .i64 0, .slice none 0 0] 28)) := ((Below.refl _ _).alloc (Nat.le_refl _) _).alloc (by simp) _
  have his := implIs_some zs.length b off cap zs _ (Nat.lt_of_lt_of_le hb D0.size) (hc.below D0 hb) hl (hT.belowAll D0)
  rw [hg] at his
  simp only [World.size_alloc] at his
  have hcon := fun W => implEmpty_any zs.length W (by omega)
  have HG0 := Lib.hid (GBox.new (n := zs.length) (cap := cap) hb hc)
  have HH1 := Lib.hid (heap_new_at (w.alloc (.cells #[.int .i64 zs.length, .slice (some ⟨b, off, none⟩) zs.length cap] 28)) (.cells #[.int .i64 0, .slice none 0 0] 28) (w.heap.size + 1) (by simp))
  clear hp hc hg hT
  go_enter Tryd.func36, Tryd.ntmps36
  have G1 := HG0.out.below ((Below.refl (w.heap.size + 1) _).alloc (by simp) (.cells #[.int .i64 0, .slice none 0 0] 28))
  have b0 := G1.b0
  have b1 := G1.b1
  go_wp2_with (go_at_call 54; refine his.mono ?_; rintro e w1 ⟨rfl, hb1⟩; have G2 := G1.below (hb1.mono (by omega)); have b0 := G2.b0; have b1 := G2.b1)
  refine (hcon w1).mono ?_
  rintro e w2 ⟨rfl, hB2, hb2⟩
  have l1 : w.heap.size + 1 + 1 ≤ w1.heap.size := by have := hb1.size; simpa using this
  have l2 := hB2.lt
  have H2 := Lib.hid ((hb2.block (w.heap.size + 1) (by omega)).trans ((hb1.block (w.heap.size + 1) (by omega)).trans HH1.out))
  have E2 := D0.trans ((hb1.mono (by omega)).trans (hb2.mono (by omega)))
  have G3 := G2.below (hb2.mono (by omega))
  have b0 := G3.b0
  have b1 := G3.b1
  have G4' := G3.below ((Below.refl (w.heap.size + 1) w2).alloc (by omega) (.cells #[.int .i64 zs.length, .slice (some ⟨w1.heap.size + 1, 0, none⟩) zs.length zs.length] 28))
  have b0 := G4'.b0
  have b1 := G4'.b1
  go_wp2_with fail
  obtain ⟨w3, h3⟩ : ∃ w3, w3 = w2.alloc (.cells #[.int .i64 zs.length, .slice (some ⟨w1.heap.size + 1, 0, none⟩) zs.length zs.length] 28) := ⟨_, rfl⟩
  have X3 : Hid (w3.heap[w2.heap.size]? = some (.cells #[.int .i64 zs.length, .slice (some ⟨w1.heap.size + 1, 0, none⟩) zs.length zs.length] 28 (0, 0))) := by rw [h3]; exact World.alloc_heap_new w2 _
  have hb3 : Below w2.heap.size w2 w3 := by rw [h3]; exact (Below.refl _ _).alloc (Nat.le_refl _) _
  have G4 := G3.below (hb3.mono (by omega))
  rw [← h3]
  clear h3 hcon his hb1 hb2 G1 G2 G4' b0 b1
  go_loopw [5, 6, 17] (fun _ _ i wr => ∃ v : Nat, v ≤ zs.length ∧ i = .int .i64 v ∧ Hid (Blk wr (w1.heap.size + 1) (part (compL zs.length zs) v)) ∧ Hid (wr.heap[w2.heap.size]? = some (.cells #[.int .i64 zs.length, .slice (some ⟨w1.heap.size + 1, 0, none⟩) zs.length zs.length] 28 (0, 0))) ∧ Below (w.heap.size + 1 + 1) w3 wr) (fun _ _ i _ => zs.length - (intOf i).toNat)
  case atStart => exact ⟨0, Nat.zero_le _, rfl, by show Blk _ _ _; rw [part_zero, compL_length]; exact hB2.belowAll hb3, X3, Below.refl _ _⟩
  case round =>
    obtain ⟨v, hv, rfl, HO, HX, hB⟩ := hrel
    have G5 := G4.below (hB.mono (by omega))
    have b0 := G5.b0
    have b1 := G5.b1
    obtain ⟨x0, x1, -, -⟩ := two_cells HX.out
    by_cases hlt : (v : Int) < zs.length
    · have hvl : v < zs.length := by omega
      have hz : wr.cell? ⟨b, off + v, none⟩ = some (.int .i64 (el zs v)) := G5.cells v hvl
      have hv0 : (0 : Int) ≤ v := by omega
      have hpl := part_length (compL zs.length zs) v (by rw [compL_length]; exact hv)
      rw [compL_length] at hpl
      have hcell : wr.cell? ⟨w1.heap.size + 1, v, none⟩ = some (.int .i64 (el (part (compL zs.length zs) v) v)) := HO.out.cell (by omega)
      have hfr : wr.frozen? ⟨w1.heap.size + 1, v, none⟩ = false := HO.out.frozen v
      obtain ⟨⟨z0, z1⟩, z2, z3, z4⟩ := HR.out v hvl
      obtain ⟨p1, p2⟩ := HP.out
      obtain ⟨q1, q2⟩ := pow_bounds v (by omega)
      have HS : Hid (Blk (wr.setCell ⟨w1.heap.size + 1, v, none⟩ (.int .i64 (2 ^ zs.length - 1 - el zs v - 2 ^ v))) (w1.heap.size + 1) (part (compL zs.length zs) (v + 1))) := by
        show Blk _ _ _
        rw [← part_succ (compL zs.length zs) v (by rw [compL_length]; exact hvl), el_compL _ zs v hvl, cm_len]
        exact HO.out.set v _
      have HX2 : Hid ((wr.setCell ⟨w1.heap.size + 1, v, none⟩ (.int .i64 (2 ^ zs.length - 1 - el zs v - 2 ^ v))).heap[w2.heap.size]? = _) := (Below.heap_setCell wr ⟨w1.heap.size + 1, v, none⟩ _ w2.heap.size (by simp; omega)).trans HX.out
      have hBs := hB.setCell (p := ⟨w1.heap.size + 1, v, none⟩) (by simp; omega) (.int .i64 (2 ^ zs.length - 1 - el zs v - 2 ^ v))
      have hal := fun W => allV_any (zs.length : Int) W (by omega) (by omega)
      simp only [Int.toNat_natCast] at hal
      have Z2 := Lib.hid z2
      have Z3 := Lib.hid z3
      have HW := Lib.hid (i64_pow (v : Int) (by omega))
      rw [Int.toNat_natCast] at HW
      clear z2 z3
      clear hpl HO HX G5 G4
      go_wp2_with fail
      go_region_with (go_at_call 62; refine (hal _).mono ?_; rintro e w' ⟨rfl, rfl⟩)
      all_goals rw [HW.out, Z2.out, Z3.out]
      all_goals clear hal
      all_goals go_wp2
      all_goals go_roundw
      all_goals (first | exact ⟨v + 1, by omega, by go_num, HS, HX2, hBs.drew⟩ | (simp [intOf]; omega))
    · have hvl : v = zs.length := by omega
      subst hvl
      have RB := Lib.hid ((hB.block (w.heap.size + 1) (by omega)).trans ((hb3.block (w.heap.size + 1) (by omega)).trans H2.out))
      obtain ⟨r0, r1, g0, g1⟩ := two_cells RB.out
      have HF : Hid (Blk wr (w1.heap.size + 1) (compL zs.length zs)) := by
        have h := HO.out
        have e := part_all (compL zs.length zs)
        rw [compL_length] at e
        rw [e] at h
        exact h
      clear HO G5 G4
      go_wp2
      have hfin := two_set (a := .int .i64 zs.length) (b := .slice (some ⟨w1.heap.size + 1, 0, none⟩) zs.length zs.length) RB.out
      refine bodyPost_ret (v := .tuple #[.agg #[.int .i64 zs.length, .slice (some ⟨w1.heap.size + 1, 0, none⟩) zs.length zs.length], .int .i64 0]) (results_cell2 (p := 2) (u := 3) (ty := 28) rfl _ _ (w.heap.size + 1) 28 _ (0, 0) _ rfl hfin Tryd.underlying28 rfl (by exact info27)) rfl ⟨⟨_, rfl, ?_⟩, ?_⟩
      · have h := Own.of_blk ((HF.out.other (a := ⟨w.heap.size + 1, 0, none⟩) (by simp; omega) (.int .i64 zs.length)).other (a := ⟨w.heap.size + 1, 1, none⟩) (by simp; omega) (.slice (some ⟨w1.heap.size + 1, 0, none⟩) zs.length zs.length)) (B := w.heap.size) (by omega) (by rw [compL_length]; unfold maxLen; omega)
        rw [compL_length] at h
        exact h
      · exact ((E2.trans ((hb3.mono (by omega)).trans (hB.mono (by omega)))).setCell (p := ⟨w.heap.size + 1, 0, none⟩) (by simp) _).setCell (p := ⟨w.heap.size + 1, 1, none⟩) (by simp) _

set_option maxHeartbeats 800000 in
theorem implCo_no (n : Int) (v : Value) (zs : List Int) (w : World) (h : Sl w v zs) (hg : isG n zs = false) (hl : zs.length ≤ 9223372036854775807) (hT : Tab w) :
    Calls Tryd.prog 36 #[.agg #[.int .i64 n, v]] w fun e w' => GRes w.heap.size 0 [] 1 e w' ∧ Below w.heap.size w w' := by
  have D0 : Below w.heap.size w ((w.alloc (.cells #[.int .i64 n, v] 28)).alloc (.cells #[.int .i64 0, .slice none 0 0] 28)) := ((Below.refl _ _).alloc (Nat.le_refl _) _).alloc (by simp) _
  have his := implIs_any n v zs _ (h.below D0) hl (hT.belowAll D0)
  rw [hg] at his
  simp only [World.size_alloc] at his
  have HH1 := Lib.hid (heap_new_at (w.alloc (.cells #[.int .i64 n, v] 28)) (.cells #[.int .i64 0, .slice none 0 0] 28) (w.heap.size + 1) (by simp))
  clear h hg hT
  go_enter Tryd.func36, Tryd.ntmps36
  go_wp2_with (go_at_call 54; refine his.mono ?_; rintro e w1 ⟨rfl, hb1⟩; have RB := Lib.hid ((hb1.block (w.heap.size + 1) (by omega)).trans HH1.out); obtain ⟨r0, r1, g0, g1⟩ := two_cells RB.out)
  have hfin := two_set (a := .int .i64 0) (b := .slice none 0 0) RB.out
  refine bodyPost_ret (v := .tuple #[.agg #[.int .i64 0, .slice none 0 0], .int .i64 1]) (results_cell2 (p := 2) (u := 3) (ty := 28) rfl _ _ (w.heap.size + 1) 28 _ (0, 0) _ rfl hfin Tryd.underlying28 rfl (by exact info27)) rfl ⟨⟨_, rfl, Own.nil _ _⟩, ?_⟩
  exact ((D0.trans (hb1.mono (by omega))).setCell (p := ⟨w.heap.size + 1, 0, none⟩) (by simp) _).setCell (p := ⟨w.heap.size + 1, 1, none⟩) (by simp) _

theorem implCo_any (n : Int) (v : Value) (zs : List Int) (w : World) (h : Sl w v zs) (hl : zs.length ≤ 9223372036854775807) (hT : Tab w) :
    Calls Tryd.prog 36 #[.agg #[.int .i64 n, v]] w fun e w' => GRes w.heap.size (CN n zs) (CL n zs) (CC n zs) e w' ∧ Below w.heap.size w w' := by
  cases hg : isG n zs
  · rw [show CL n zs = [] by simp [CL, hg], show CN n zs = 0 by simp [CN, hg], show CC n zs = 1 by simp [CC, hg]]
    exact implCo_no n v zs w h hg hl hT
  · rw [show CL n zs = compL n zs by simp [CL, hg], show CN n zs = n by simp [CN, hg], show CC n zs = 0 by simp [CC, hg]]
    obtain ⟨b, off, cap, rfl, hb, hc⟩ := sl_some h (by have := (isG_parts hg).2.2.1; have := (isG_parts hg).1; omega)
    exact implCo_yes n b off cap zs w hb hc hg hl hT
end Go.Proofs.YtbpcdgfcdahnlaaDoor
