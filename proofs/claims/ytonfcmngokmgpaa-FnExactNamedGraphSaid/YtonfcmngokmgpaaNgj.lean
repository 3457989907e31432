/-
  spec.l01Named at k4, k5, k33, the jump graphs, and any other name. (gen: mk_nge.py)
-/
import Derived.Test.YtonfcmngokmgpaaNgp
import Derived.Test.YtonfcmngokmgpaaNgk
namespace Go.Proofs.Ytonfcmngokmgpaa
set_option maxRecDepth 100000
open Go.RowKit

theorem blk_sl {w : World} {g : Nat} {L : List Int} (h : Blk w g L) : Cells w g 0 L := fun i hi => by rw [Nat.zero_add]; exact h.cell hi
/-- The complete graph of 3 vertices, by the model's complement. -/
theorem compl3 (g : Nat) (w : World) (h : Blk w g (List.replicate 3 0)) :
    Calls Try.prog 24 #[.agg #[.int .i64 3, .slice (some ⟨g, 0, none⟩) 3 3]] w fun e w' => e = .returned (.agg #[.int .i64 3, .slice (some ⟨w.heap.size + 3, 0, none⟩) 3 3]) ∧ Blk w' (w.heap.size + 3) [6, 5, 3] ∧ Below w.heap.size w w' := by
  have e : compL [0, 0, 0] = [6, 5, 3] := by decide +kernel
  have h1 := l01Compl_some g 0 3 [0, 0, 0] w h.lt (blk_sl h) (by decide) (by decide +kernel)
  rw [e] at h1
  exact h1
/-- The complete graph of 4 vertices, by the model's complement. -/
theorem compl4 (g : Nat) (w : World) (h : Blk w g (List.replicate 4 0)) :
    Calls Try.prog 24 #[.agg #[.int .i64 4, .slice (some ⟨g, 0, none⟩) 4 4]] w fun e w' => e = .returned (.agg #[.int .i64 4, .slice (some ⟨w.heap.size + 3, 0, none⟩) 4 4]) ∧ Blk w' (w.heap.size + 3) [14, 13, 11, 7] ∧ Below w.heap.size w w' := by
  have e : compL [0, 0, 0, 0] = [14, 13, 11, 7] := by decide +kernel
  have h1 := l01Compl_some g 0 4 [0, 0, 0, 0] w h.lt (blk_sl h) (by decide) (by decide +kernel)
  rw [e] at h1
  exact h1
/-- The complete graph of 5 vertices, by the model's complement. -/
theorem compl5 (g : Nat) (w : World) (h : Blk w g (List.replicate 5 0)) :
    Calls Try.prog 24 #[.agg #[.int .i64 5, .slice (some ⟨g, 0, none⟩) 5 5]] w fun e w' => e = .returned (.agg #[.int .i64 5, .slice (some ⟨w.heap.size + 3, 0, none⟩) 5 5]) ∧ Blk w' (w.heap.size + 3) [30, 29, 27, 23, 15] ∧ Below w.heap.size w w' := by
  have e : compL [0, 0, 0, 0, 0] = [30, 29, 27, 23, 15] := by decide +kernel
  have h1 := l01Compl_some g 0 5 [0, 0, 0, 0, 0] w h.lt (blk_sl h) (by decide) (by decide +kernel)
  rw [e] at h1
  exact h1
theorem beside33 (a b : Nat) (w : World) (h : Blk w a [6, 5, 3]) (k : Blk w b [6, 5, 3]) :
    Calls Try.prog 26 #[.agg #[.int .i64 3, .slice (some ⟨a, 0, none⟩) 3 3], .agg #[.int .i64 3, .slice (some ⟨b, 0, none⟩) 3 3]] w fun e w' => ∃ u, e = .returned (.agg #[.int .i64 6, u]) ∧ Own w' w.heap.size u [6, 5, 3, 48, 40, 24] ∧ Below w.heap.size w w' := by
  have e : besL [6, 5, 3] [6, 5, 3] = [6, 5, 3, 48, 40, 24] := by decide +kernel
  have h1 := l01Beside_some a 0 3 b 0 3 [6, 5, 3] [6, 5, 3] w h.lt (blk_sl h) k.lt (blk_sl k) (by decide +kernel) (by decide)
  rw [e] at h1
  exact h1
theorem compl33 (u : Value) (B : Nat) (w : World) (h : Own w B u [6, 5, 3, 48, 40, 24]) :
    Calls Try.prog 24 #[.agg #[.int .i64 6, u]] w fun e w' => e = .returned (.agg #[.int .i64 6, .slice (some ⟨w.heap.size + 3, 0, none⟩) 6 6]) ∧ Blk w' (w.heap.size + 3) [56, 56, 56, 7, 7, 7] ∧ Below w.heap.size w w' := by
  have e : compL [6, 5, 3, 48, 40, 24] = [56, 56, 56, 7, 7, 7] := by decide +kernel
  have hs := h.sl
  rcases h.form with ⟨_, h0⟩ | ⟨g, cap, rfl, _, hg⟩
  · simp at h0
  · have h1 := l01Compl_some g 0 cap [6, 5, 3, 48, 40, 24] w hg (by
      rcases hs with ⟨_, _, h1, h2⟩ | ⟨b, off, c, h1, h2, h3⟩
      · simp at h2
      · injection h1 with h1 _ h1c
        injection h1 with h1
        injection h1 with ha hb
        subst ha; subst hb
        exact h3) (by decide) (by decide +kernel)
    rw [e] at h1
    exact h1

set_option maxHeartbeats 1600000 in
theorem specK4_named (w : World) :
    Calls Try.prog 9 #[.string ⟨#[107, 52]⟩] w fun e w' => BRes w.heap.size 4 [14, 13, 11, 7] true e w' ∧ Below w.heap.size w w' := by
  obtain ⟨W, hW⟩ : ∃ W, W = w.alloc (.cells #[.int .i64 0, .slice none 0 0] 24) := ⟨_, rfl⟩
  have D0 : Below w.heap.size w W := by rw [hW]; exact (Below.refl _ _).alloc (Nat.le_refl _) _
  have s0 : W.heap.size = w.heap.size + 1 := by rw [hW]; simp
  have HR0 : Hid (W.heap[w.heap.size]? = some (.cells #[.int .i64 0, .slice none 0 0] 24 (0, 0))) := by show _ = _; rw [hW]; exact World.alloc_heap_new w _
  have hem : Calls Try.prog 25 #[.int .i64 4] W fun e w' => e = .returned (.agg #[.int .i64 4, .slice (some ⟨W.heap.size + 1, 0, none⟩) 4 4]) ∧ Blk w' (W.heap.size + 1) (List.replicate 4 0) ∧ Below W.heap.size W w' := specEmpty_any 4 W (by omega)
  have HEM := Lib.hid hem
  obtain ⟨G, hG⟩ : ∃ G, G = W.heap.size + 1 := ⟨_, rfl⟩
  rw [← hG] at HEM
  clear hG hem
  go_enter Try.func9, Try.ntmps9
  go_wp2_with fail
  rw [← hW]
  clear hW
  refine HEM.out.mono ?_
  rintro e w1 ⟨rfl, hB1, hb1⟩
  clear HEM
  have E1 := D0.trans (hb1.mono (by omega))
  have HR1 := Lib.hid ((hb1.block w.heap.size (by omega)).trans HR0.out)
  have HK := Lib.hid (compl4 G w1 hB1)
  have l1 : w.heap.size + 1 ≤ w1.heap.size := by have := hb1.size; omega
  obtain ⟨g, hg⟩ : ∃ g, g = w1.heap.size + 3 := ⟨_, rfl⟩
  rw [← hg] at HK
  have hgw : w.heap.size + 1 ≤ g := by omega
  clear hB1 hb1 HR0 D0 s0 hg
  go_wp2_with fail
  refine HK.out.mono ?_
  rintro e w2 ⟨rfl, hB2, hb2⟩
  have HR := Lib.hid ((hb2.block w.heap.size (by omega)).trans HR1.out)
  have EF := Lib.hid (E1.trans (hb2.mono (by omega)))
  have HO : Hid (Own w2 w.heap.size (.slice (some ⟨g, 0, none⟩) 4 4) [14, 13, 11, 7]) := Own.of_blk hB2 (by omega) (by decide)
  have HNE : Hid ((Value.slice (some ⟨g, 0, none⟩) 4 4).ownBlock ≠ some w.heap.size) := by show _ ≠ _; simp [Value.ownBlock]; omega
  obtain ⟨r0, r1, g0, g1⟩ := two_cells HR.out
  clear hB2 hb2 HK HR1 E1
  go_wp2_with fail
  have hfin := two_set (a := .int .i64 4) (b := .slice (some ⟨g, 0, none⟩) 4 4) HR.out
  refine bodyPost_ret (v := .tuple #[.agg #[.int .i64 4, .slice (some ⟨g, 0, none⟩) 4 4], .bool true]) (results_cell2 (p := 2) (u := 3) (ty := 24) rfl _ _ w.heap.size 24 _ (0, 0) _ rfl hfin Try.underlying24 rfl (by exact info27)) rfl ⟨⟨_, rfl, ?_⟩, ?_⟩
  · exact HO.out.kept (grown_set (grown_set ⟨rfl, rfl, rfl, Nat.le_refl _, fun _ _ _ => rfl⟩ w.heap.size 0 _) _ 1 _) (.inr HNE.out)
  · exact (EF.out.setCell (p := ⟨w.heap.size, 0, none⟩) (by simp) _).setCell (p := ⟨w.heap.size, 1, none⟩) (by simp) _

set_option maxHeartbeats 1600000 in
theorem specK5_named (w : World) :
    Calls Try.prog 9 #[.string ⟨#[107, 53]⟩] w fun e w' => BRes w.heap.size 5 [30, 29, 27, 23, 15] true e w' ∧ Below w.heap.size w w' := by
  obtain ⟨W, hW⟩ : ∃ W, W = w.alloc (.cells #[.int .i64 0, .slice none 0 0] 24) := ⟨_, rfl⟩
  have D0 : Below w.heap.size w W := by rw [hW]; exact (Below.refl _ _).alloc (Nat.le_refl _) _
  have s0 : W.heap.size = w.heap.size + 1 := by rw [hW]; simp
  have HR0 : Hid (W.heap[w.heap.size]? = some (.cells #[.int .i64 0, .slice none 0 0] 24 (0, 0))) := by show _ = _; rw [hW]; exact World.alloc_heap_new w _
  have hem : Calls Try.prog 25 #[.int .i64 5] W fun e w' => e = .returned (.agg #[.int .i64 5, .slice (some ⟨W.heap.size + 1, 0, none⟩) 5 5]) ∧ Blk w' (W.heap.size + 1) (List.replicate 5 0) ∧ Below W.heap.size W w' := specEmpty_any 5 W (by omega)
  have HEM := Lib.hid hem
  obtain ⟨G, hG⟩ : ∃ G, G = W.heap.size + 1 := ⟨_, rfl⟩
  rw [← hG] at HEM
  clear hG hem
  go_enter Try.func9, Try.ntmps9
  go_wp2_with fail
  rw [← hW]
  clear hW
  refine HEM.out.mono ?_
  rintro e w1 ⟨rfl, hB1, hb1⟩
  clear HEM
  have E1 := D0.trans (hb1.mono (by omega))
  have HR1 := Lib.hid ((hb1.block w.heap.size (by omega)).trans HR0.out)
  have HK := Lib.hid (compl5 G w1 hB1)
  have l1 : w.heap.size + 1 ≤ w1.heap.size := by have := hb1.size; omega
  obtain ⟨g, hg⟩ : ∃ g, g = w1.heap.size + 3 := ⟨_, rfl⟩
  rw [← hg] at HK
  have hgw : w.heap.size + 1 ≤ g := by omega
  clear hB1 hb1 HR0 D0 s0 hg
  go_wp2_with fail
  refine HK.out.mono ?_
  rintro e w2 ⟨rfl, hB2, hb2⟩
  have HR := Lib.hid ((hb2.block w.heap.size (by omega)).trans HR1.out)
  have EF := Lib.hid (E1.trans (hb2.mono (by omega)))
  have HO : Hid (Own w2 w.heap.size (.slice (some ⟨g, 0, none⟩) 5 5) [30, 29, 27, 23, 15]) := Own.of_blk hB2 (by omega) (by decide)
  have HNE : Hid ((Value.slice (some ⟨g, 0, none⟩) 5 5).ownBlock ≠ some w.heap.size) := by show _ ≠ _; simp [Value.ownBlock]; omega
  obtain ⟨r0, r1, g0, g1⟩ := two_cells HR.out
  clear hB2 hb2 HK HR1 E1
  go_wp2_with fail
  have hfin := two_set (a := .int .i64 5) (b := .slice (some ⟨g, 0, none⟩) 5 5) HR.out
  refine bodyPost_ret (v := .tuple #[.agg #[.int .i64 5, .slice (some ⟨g, 0, none⟩) 5 5], .bool true]) (results_cell2 (p := 2) (u := 3) (ty := 24) rfl _ _ w.heap.size 24 _ (0, 0) _ rfl hfin Try.underlying24 rfl (by exact info27)) rfl ⟨⟨_, rfl, ?_⟩, ?_⟩
  · exact HO.out.kept (grown_set (grown_set ⟨rfl, rfl, rfl, Nat.le_refl _, fun _ _ _ => rfl⟩ w.heap.size 0 _) _ 1 _) (.inr HNE.out)
  · exact (EF.out.setCell (p := ⟨w.heap.size, 0, none⟩) (by simp) _).setCell (p := ⟨w.heap.size, 1, none⟩) (by simp) _

set_option maxHeartbeats 3200000 in
theorem specK33_named (w : World) :
    Calls Try.prog 9 #[.string ⟨#[107, 51, 51]⟩] w fun e w' => BRes w.heap.size 6 [56, 56, 56, 7, 7, 7] true e w' ∧ Below w.heap.size w w' := by
  obtain ⟨W, hW⟩ : ∃ W, W = w.alloc (.cells #[.int .i64 0, .slice none 0 0] 24) := ⟨_, rfl⟩
  have D0 : Below w.heap.size w W := by rw [hW]; exact (Below.refl _ _).alloc (Nat.le_refl _) _
  have s0 : W.heap.size = w.heap.size + 1 := by rw [hW]; simp
  have HR0 : Hid (W.heap[w.heap.size]? = some (.cells #[.int .i64 0, .slice none 0 0] 24 (0, 0))) := by show _ = _; rw [hW]; exact World.alloc_heap_new w _
  have hem : ∀ V : World, Calls Try.prog 25 #[.int .i64 3] V fun e w' => ∃ g, e = .returned (.agg #[.int .i64 3, .slice (some ⟨g, 0, none⟩) 3 3]) ∧ Blk w' g (List.replicate 3 0) ∧ Below V.heap.size V w' := fun V => (specEmpty_any 3 V (by omega)).mono fun e w' h => ⟨_, h⟩
  have HEM := Lib.hid hem
  have hk : ∀ (g : Nat) (V : World), Blk V g (List.replicate 3 0) → Calls Try.prog 24 #[.agg #[.int .i64 3, .slice (some ⟨g, 0, none⟩) 3 3]] V fun e w' => ∃ g', e = .returned (.agg #[.int .i64 3, .slice (some ⟨g', 0, none⟩) 3 3]) ∧ Blk w' g' [6, 5, 3] ∧ Below V.heap.size V w' := fun g V h => (compl3 g V h).mono fun e w' h => ⟨_, h⟩
  have HK := Lib.hid hk
  have hk6 : ∀ (u : Value) (B : Nat) (V : World), Own V B u [6, 5, 3, 48, 40, 24] → Calls Try.prog 24 #[.agg #[.int .i64 6, u]] V fun e w' => ∃ g', e = .returned (.agg #[.int .i64 6, .slice (some ⟨g', 0, none⟩) 6 6]) ∧ V.heap.size ≤ g' ∧ Blk w' g' [56, 56, 56, 7, 7, 7] ∧ Below V.heap.size V w' := fun u B V h => (compl33 u B V h).mono fun e w' h => ⟨_, h.1, by omega, h.2⟩
  have HK6 := Lib.hid hk6
  clear hem hk hk6
  go_enter Try.func9, Try.ntmps9
  go_wp2_with fail
  rw [← hW]
  clear hW
  refine (HEM.out W).mono ?_
  rintro e w1 ⟨g1, rfl, hB1, hb1⟩
  have E1 := D0.trans (hb1.mono (by omega))
  have HR1 := Lib.hid ((hb1.block w.heap.size (by omega)).trans HR0.out)
  have l1 : w.heap.size + 1 ≤ w1.heap.size := by have := hb1.size; omega
  have HB1 := Lib.hid hB1
  clear hB1 hb1 HR0 D0 s0
  go_wp2_with fail
  refine (HK.out g1 w1 HB1.out).mono ?_
  rintro e w2 ⟨g2, rfl, hB2, hb2⟩
  have E2 := E1.trans (hb2.mono (by omega))
  have HR2 := Lib.hid ((hb2.block w.heap.size (by omega)).trans HR1.out)
  have l2 : w.heap.size + 1 ≤ w2.heap.size := by have := hb2.size; omega
  have HB2 := Lib.hid hB2
  clear hB2 hb2 HR1 E1 l1 HB1
  go_wp2_with fail
  refine (HEM.out w2).mono ?_
  rintro e w3 ⟨g3, rfl, hB3, hb3⟩
  have E3 := E2.trans (hb3.mono (by omega))
  have HR3 := Lib.hid ((hb3.block w.heap.size (by omega)).trans HR2.out)
  have l3 : w.heap.size + 1 ≤ w3.heap.size := by have := hb3.size; omega
  have HB23 := Lib.hid (HB2.out.belowAll hb3)
  have HB3 := Lib.hid hB3
  clear hB3 hb3 HR2 E2 l2 HB2 HEM
  go_wp2_with fail
  refine (HK.out g3 w3 HB3.out).mono ?_
  rintro e w4 ⟨g4, rfl, hB4, hb4⟩
  have E4 := E3.trans (hb4.mono (by omega))
  have HR4 := Lib.hid ((hb4.block w.heap.size (by omega)).trans HR3.out)
  have l4 : w.heap.size + 1 ≤ w4.heap.size := by have := hb4.size; omega
  have HBE := Lib.hid (beside33 g2 g4 w4 (HB23.out.belowAll hb4) hB4)
  clear hB4 hb4 HR3 E3 l3 HB23 HB3 HK
  go_wp2_with fail
  refine HBE.out.mono ?_
  rintro e w5 ⟨u, rfl, hO5, hb5⟩
  obtain ⟨ua, ul, uc, rfl⟩ := slice_of hO5
  have E5 := E4.trans (hb5.mono (by omega))
  have HR5 := Lib.hid ((hb5.block w.heap.size (by omega)).trans HR4.out)
  have l5 : w.heap.size + 1 ≤ w5.heap.size := by have := hb5.size; omega
  have HC6 := Lib.hid (HK6.out _ _ w5 hO5)
  clear hO5 hb5 HR4 E4 l4 HBE HK6
  go_wp2_with fail
  refine HC6.out.mono ?_
  rintro e w6 ⟨g, rfl, hgw, hB6, hb6⟩
  have HR := Lib.hid ((hb6.block w.heap.size (by omega)).trans HR5.out)
  have EF := Lib.hid (E5.trans (hb6.mono (by omega)))
  have HO : Hid (Own w6 w.heap.size (.slice (some ⟨g, 0, none⟩) 6 6) [56, 56, 56, 7, 7, 7]) := Own.of_blk hB6 (by omega) (by decide)
  have HNE : Hid ((Value.slice (some ⟨g, 0, none⟩) 6 6).ownBlock ≠ some w.heap.size) := by show _ ≠ _; simp [Value.ownBlock]; omega
  obtain ⟨r0, r1, g0, g1'⟩ := two_cells HR.out
  clear hB6 hb6 HC6 HR5 E5
  go_wp2_with fail
  have hfin := two_set (a := .int .i64 6) (b := .slice (some ⟨g, 0, none⟩) 6 6) HR.out
  refine bodyPost_ret (v := .tuple #[.agg #[.int .i64 6, .slice (some ⟨g, 0, none⟩) 6 6], .bool true]) (results_cell2 (p := 2) (u := 3) (ty := 24) rfl _ _ w.heap.size 24 _ (0, 0) _ rfl hfin Try.underlying24 rfl (by exact info27)) rfl ⟨⟨_, rfl, ?_⟩, ?_⟩
  · exact HO.out.kept (grown_set (grown_set ⟨rfl, rfl, rfl, Nat.le_refl _, fun _ _ _ => rfl⟩ w.heap.size 0 _) _ 1 _) (.inr HNE.out)
  · exact (EF.out.setCell (p := ⟨w.heap.size, 0, none⟩) (by simp) _).setCell (p := ⟨w.heap.size, 1, none⟩) (by simp) _

set_option maxHeartbeats 1600000 in
theorem specHea_named (w : World) :
    Calls Try.prog 9 #[.string ⟨#[104, 101, 97, 119, 111, 111, 100]⟩] w fun e w' => BRes w.heap.size 14 (rowsF 14 (adjS (jumpS 14 [5, 9] 14))) true e w' ∧ Below w.heap.size w w' := by
  obtain ⟨W, hW⟩ : ∃ W, W = w.alloc (.cells #[.int .i64 0, .slice none 0 0] 24) := ⟨_, rfl⟩
  have D0 : Below w.heap.size w W := by rw [hW]; exact (Below.refl _ _).alloc (Nat.le_refl _) _
  have s0 : W.heap.size = w.heap.size + 1 := by rw [hW]; simp
  have HR0 : Hid (W.heap[w.heap.size]? = some (.cells #[.int .i64 0, .slice none 0 0] 24 (0, 0))) := by show _ = _; rw [hW]; exact World.alloc_heap_new w _
  obtain ⟨V, hV⟩ : ∃ V, V = W.alloc (.cells #[.int .i64 5, .int .i64 9] 2) := ⟨_, rfl⟩
  have hBV : Blk V (w.heap.size + 1) [5, 9] := by rw [hV, ← s0]; exact World.alloc_heap_new W _
  have hEV : Below W.heap.size W V := by rw [hV]; exact (Below.refl _ _).alloc (Nat.le_refl _) _
  have hj : Calls Try.prog 28 #[.int .i64 14, .slice (some ⟨w.heap.size + 1, 0, none⟩) 2 2] V fun e w' => GRet V.heap.size 14 (rowsF 14 (adjS (jumpS 14 [5, 9] 14))) e w' ∧ Below V.heap.size V w' := specJumps_some 14 (w.heap.size + 1) 0 2 [5, 9] V (by omega) (by omega) hBV.lt (fun i hi => by rw [Nat.zero_add]; exact hBV.cell hi) (by decide) (by decide) (by decide)
  have HJ := Lib.hid hj
  have EV := D0.trans (hEV.mono (by omega))
  have HRV := Lib.hid ((hEV.block w.heap.size (by omega)).trans HR0.out)
  have lV : w.heap.size + 1 ≤ V.heap.size := by have := hEV.size; omega
  obtain ⟨P, hP⟩ : ∃ P, P = rowsF 14 (adjS (jumpS 14 [5, 9] 14)) := ⟨_, rfl⟩
  have HPL : Hid (P.length = 14) := by show _ = _; rw [hP]; exact rowsF_length _ _
  rw [← hP] at HJ
  rw [← hP]
  clear hj hP hBV hEV D0 HR0
  go_enter Try.func9, Try.ntmps9
  go_wp2_with fail
  rw [← hW, ← hV]
  clear hW hV
  refine HJ.out.mono ?_
  rintro e w2 ⟨⟨g, rfl, hB2, hgg⟩, hb2⟩
  have HR := Lib.hid ((hb2.block w.heap.size (by omega)).trans HRV.out)
  have EF := Lib.hid (EV.trans (hb2.mono (by omega)))
  have hO2 := Own.of_blk hB2 (B := w.heap.size) (by omega) (by rw [HPL.out]; unfold maxLen; omega)
  rw [HPL.out] at hO2
  have HO : Hid (Own w2 w.heap.size (.slice (some ⟨g, 0, none⟩) 14 14) P) := hO2
  have HNE : Hid ((Value.slice (some ⟨g, 0, none⟩) 14 14).ownBlock ≠ some w.heap.size) := by show _ ≠ _; simp [Value.ownBlock]; omega
  obtain ⟨r0, r1, g0, g1⟩ := two_cells HR.out
  clear hB2 hb2 HJ HRV EV hO2
  go_wp2_with fail
  have hfin := two_set (a := .int .i64 14) (b := .slice (some ⟨g, 0, none⟩) 14 14) HR.out
  refine bodyPost_ret (v := .tuple #[.agg #[.int .i64 14, .slice (some ⟨g, 0, none⟩) 14 14], .bool true]) (results_cell2 (p := 2) (u := 3) (ty := 24) rfl _ _ w.heap.size 24 _ (0, 0) _ rfl hfin Try.underlying24 rfl (by exact info27)) rfl ⟨⟨_, rfl, ?_⟩, ?_⟩
  · exact HO.out.kept (grown_set (grown_set ⟨rfl, rfl, rfl, Nat.le_refl _, fun _ _ _ => rfl⟩ w.heap.size 0 _) _ 1 _) (.inr HNE.out)
  · exact (EF.out.setCell (p := ⟨w.heap.size, 0, none⟩) (by simp) _).setCell (p := ⟨w.heap.size, 1, none⟩) (by simp) _

set_option maxHeartbeats 1600000 in
theorem specMoe_named (w : World) :
    Calls Try.prog 9 #[.string ⟨#[109, 111, 101, 98, 105, 117, 115, 107, 97, 110, 116, 111, 114]⟩] w fun e w' => BRes w.heap.size 16 (rowsF 16 (adjS (jumpS 16 [5, 11] 16))) true e w' ∧ Below w.heap.size w w' := by
  obtain ⟨W, hW⟩ : ∃ W, W = w.alloc (.cells #[.int .i64 0, .slice none 0 0] 24) := ⟨_, rfl⟩
  have D0 : Below w.heap.size w W := by rw [hW]; exact (Below.refl _ _).alloc (Nat.le_refl _) _
  have s0 : W.heap.size = w.heap.size + 1 := by rw [hW]; simp
  have HR0 : Hid (W.heap[w.heap.size]? = some (.cells #[.int .i64 0, .slice none 0 0] 24 (0, 0))) := by show _ = _; rw [hW]; exact World.alloc_heap_new w _
  obtain ⟨V, hV⟩ : ∃ V, V = W.alloc (.cells #[.int .i64 5, .int .i64 11] 2) := ⟨_, rfl⟩
  have hBV : Blk V (w.heap.size + 1) [5, 11] := by rw [hV, ← s0]; exact World.alloc_heap_new W _
  have hEV : Below W.heap.size W V := by rw [hV]; exact (Below.refl _ _).alloc (Nat.le_refl _) _
  have hj : Calls Try.prog 28 #[.int .i64 16, .slice (some ⟨w.heap.size + 1, 0, none⟩) 2 2] V fun e w' => GRet V.heap.size 16 (rowsF 16 (adjS (jumpS 16 [5, 11] 16))) e w' ∧ Below V.heap.size V w' := specJumps_some 16 (w.heap.size + 1) 0 2 [5, 11] V (by omega) (by omega) hBV.lt (fun i hi => by rw [Nat.zero_add]; exact hBV.cell hi) (by decide) (by decide) (by decide)
  have HJ := Lib.hid hj
  have EV := D0.trans (hEV.mono (by omega))
  have HRV := Lib.hid ((hEV.block w.heap.size (by omega)).trans HR0.out)
  have lV : w.heap.size + 1 ≤ V.heap.size := by have := hEV.size; omega
  obtain ⟨P, hP⟩ : ∃ P, P = rowsF 16 (adjS (jumpS 16 [5, 11] 16)) := ⟨_, rfl⟩
  have HPL : Hid (P.length = 16) := by show _ = _; rw [hP]; exact rowsF_length _ _
  rw [← hP] at HJ
  rw [← hP]
  clear hj hP hBV hEV D0 HR0
  go_enter Try.func9, Try.ntmps9
  go_wp2_with fail
  rw [← hW, ← hV]
  clear hW hV
  refine HJ.out.mono ?_
  rintro e w2 ⟨⟨g, rfl, hB2, hgg⟩, hb2⟩
  have HR := Lib.hid ((hb2.block w.heap.size (by omega)).trans HRV.out)
  have EF := Lib.hid (EV.trans (hb2.mono (by omega)))
  have hO2 := Own.of_blk hB2 (B := w.heap.size) (by omega) (by rw [HPL.out]; unfold maxLen; omega)
  rw [HPL.out] at hO2
  have HO : Hid (Own w2 w.heap.size (.slice (some ⟨g, 0, none⟩) 16 16) P) := hO2
  have HNE : Hid ((Value.slice (some ⟨g, 0, none⟩) 16 16).ownBlock ≠ some w.heap.size) := by show _ ≠ _; simp [Value.ownBlock]; omega
  obtain ⟨r0, r1, g0, g1⟩ := two_cells HR.out
  clear hB2 hb2 HJ HRV EV hO2
  go_wp2_with fail
  have hfin := two_set (a := .int .i64 16) (b := .slice (some ⟨g, 0, none⟩) 16 16) HR.out
  refine bodyPost_ret (v := .tuple #[.agg #[.int .i64 16, .slice (some ⟨g, 0, none⟩) 16 16], .bool true]) (results_cell2 (p := 2) (u := 3) (ty := 24) rfl _ _ w.heap.size 24 _ (0, 0) _ rfl hfin Try.underlying24 rfl (by exact info27)) rfl ⟨⟨_, rfl, ?_⟩, ?_⟩
  · exact HO.out.kept (grown_set (grown_set ⟨rfl, rfl, rfl, Nat.le_refl _, fun _ _ _ => rfl⟩ w.heap.size 0 _) _ 1 _) (.inr HNE.out)
  · exact (EF.out.setCell (p := ⟨w.heap.size, 0, none⟩) (by simp) _).setCell (p := ⟨w.heap.size, 1, none⟩) (by simp) _

set_option maxHeartbeats 1600000 in
theorem specPap_named (w : World) :
    Calls Try.prog 9 #[.string ⟨#[112, 97, 112, 112, 117, 115]⟩] w fun e w' => BRes w.heap.size 18 (rowsF 18 (adjS (jumpS 18 [5, 7, 11, 7, 11, 13] 18))) true e w' ∧ Below w.heap.size w w' := by
  obtain ⟨W, hW⟩ : ∃ W, W = w.alloc (.cells #[.int .i64 0, .slice none 0 0] 24) := ⟨_, rfl⟩
  have D0 : Below w.heap.size w W := by rw [hW]; exact (Below.refl _ _).alloc (Nat.le_refl _) _
  have s0 : W.heap.size = w.heap.size + 1 := by rw [hW]; simp
  have HR0 : Hid (W.heap[w.heap.size]? = some (.cells #[.int .i64 0, .slice none 0 0] 24 (0, 0))) := by show _ = _; rw [hW]; exact World.alloc_heap_new w _
  obtain ⟨V, hV⟩ : ∃ V, V = W.alloc (.cells #[.int .i64 5, .int .i64 7, .int .i64 11, .int .i64 7, .int .i64 11, .int .i64 13] 2) := ⟨_, rfl⟩
  have hBV : Blk V (w.heap.size + 1) [5, 7, 11, 7, 11, 13] := by rw [hV, ← s0]; exact World.alloc_heap_new W _
  have hEV : Below W.heap.size W V := by rw [hV]; exact (Below.refl _ _).alloc (Nat.le_refl _) _
  have hj : Calls Try.prog 28 #[.int .i64 18, .slice (some ⟨w.heap.size + 1, 0, none⟩) 6 6] V fun e w' => GRet V.heap.size 18 (rowsF 18 (adjS (jumpS 18 [5, 7, 11, 7, 11, 13] 18))) e w' ∧ Below V.heap.size V w' := specJumps_some 18 (w.heap.size + 1) 0 6 [5, 7, 11, 7, 11, 13] V (by omega) (by omega) hBV.lt (fun i hi => by rw [Nat.zero_add]; exact hBV.cell hi) (by decide) (by decide) (by decide)
  have HJ := Lib.hid hj
  have EV := D0.trans (hEV.mono (by omega))
  have HRV := Lib.hid ((hEV.block w.heap.size (by omega)).trans HR0.out)
  have lV : w.heap.size + 1 ≤ V.heap.size := by have := hEV.size; omega
  obtain ⟨P, hP⟩ : ∃ P, P = rowsF 18 (adjS (jumpS 18 [5, 7, 11, 7, 11, 13] 18)) := ⟨_, rfl⟩
  have HPL : Hid (P.length = 18) := by show _ = _; rw [hP]; exact rowsF_length _ _
  rw [← hP] at HJ
  rw [← hP]
  clear hj hP hBV hEV D0 HR0
  go_enter Try.func9, Try.ntmps9
  go_wp2_with fail
  rw [← hW, ← hV]
  clear hW hV
  refine HJ.out.mono ?_
  rintro e w2 ⟨⟨g, rfl, hB2, hgg⟩, hb2⟩
  have HR := Lib.hid ((hb2.block w.heap.size (by omega)).trans HRV.out)
  have EF := Lib.hid (EV.trans (hb2.mono (by omega)))
  have hO2 := Own.of_blk hB2 (B := w.heap.size) (by omega) (by rw [HPL.out]; unfold maxLen; omega)
  rw [HPL.out] at hO2
  have HO : Hid (Own w2 w.heap.size (.slice (some ⟨g, 0, none⟩) 18 18) P) := hO2
  have HNE : Hid ((Value.slice (some ⟨g, 0, none⟩) 18 18).ownBlock ≠ some w.heap.size) := by show _ ≠ _; simp [Value.ownBlock]; omega
  obtain ⟨r0, r1, g0, g1⟩ := two_cells HR.out
  clear hB2 hb2 HJ HRV EV hO2
  go_wp2_with fail
  have hfin := two_set (a := .int .i64 18) (b := .slice (some ⟨g, 0, none⟩) 18 18) HR.out
  refine bodyPost_ret (v := .tuple #[.agg #[.int .i64 18, .slice (some ⟨g, 0, none⟩) 18 18], .bool true]) (results_cell2 (p := 2) (u := 3) (ty := 24) rfl _ _ w.heap.size 24 _ (0, 0) _ rfl hfin Try.underlying24 rfl (by exact info27)) rfl ⟨⟨_, rfl, ?_⟩, ?_⟩
  · exact HO.out.kept (grown_set (grown_set ⟨rfl, rfl, rfl, Nat.le_refl _, fun _ _ _ => rfl⟩ w.heap.size 0 _) _ 1 _) (.inr HNE.out)
  · exact (EF.out.setCell (p := ⟨w.heap.size, 0, none⟩) (by simp) _).setCell (p := ⟨w.heap.size, 1, none⟩) (by simp) _

set_option maxHeartbeats 1600000 in
theorem specDes_named (w : World) :
    Calls Try.prog 9 #[.string ⟨#[100, 101, 115, 97, 114, 103, 117, 101, 115]⟩] w fun e w' => BRes w.heap.size 20 (rowsF 20 (adjS (jumpS 20 [5, 15, 9, 11] 20))) true e w' ∧ Below w.heap.size w w' := by
  obtain ⟨W, hW⟩ : ∃ W, W = w.alloc (.cells #[.int .i64 0, .slice none 0 0] 24) := ⟨_, rfl⟩
  have D0 : Below w.heap.size w W := by rw [hW]; exact (Below.refl _ _).alloc (Nat.le_refl _) _
  have s0 : W.heap.size = w.heap.size + 1 := by rw [hW]; simp
  have HR0 : Hid (W.heap[w.heap.size]? = some (.cells #[.int .i64 0, .slice none 0 0] 24 (0, 0))) := by show _ = _; rw [hW]; exact World.alloc_heap_new w _
  obtain ⟨V, hV⟩ : ∃ V, V = W.alloc (.cells #[.int .i64 5, .int .i64 15, .int .i64 9, .int .i64 11] 2) := ⟨_, rfl⟩
  have hBV : Blk V (w.heap.size + 1) [5, 15, 9, 11] := by rw [hV, ← s0]; exact World.alloc_heap_new W _
  have hEV : Below W.heap.size W V := by rw [hV]; exact (Below.refl _ _).alloc (Nat.le_refl _) _
  have hj : Calls Try.prog 28 #[.int .i64 20, .slice (some ⟨w.heap.size + 1, 0, none⟩) 4 4] V fun e w' => GRet V.heap.size 20 (rowsF 20 (adjS (jumpS 20 [5, 15, 9, 11] 20))) e w' ∧ Below V.heap.size V w' := specJumps_some 20 (w.heap.size + 1) 0 4 [5, 15, 9, 11] V (by omega) (by omega) hBV.lt (fun i hi => by rw [Nat.zero_add]; exact hBV.cell hi) (by decide) (by decide) (by decide)
  have HJ := Lib.hid hj
  have EV := D0.trans (hEV.mono (by omega))
  have HRV := Lib.hid ((hEV.block w.heap.size (by omega)).trans HR0.out)
  have lV : w.heap.size + 1 ≤ V.heap.size := by have := hEV.size; omega
  obtain ⟨P, hP⟩ : ∃ P, P = rowsF 20 (adjS (jumpS 20 [5, 15, 9, 11] 20)) := ⟨_, rfl⟩
  have HPL : Hid (P.length = 20) := by show _ = _; rw [hP]; exact rowsF_length _ _
  rw [← hP] at HJ
  rw [← hP]
  clear hj hP hBV hEV D0 HR0
  go_enter Try.func9, Try.ntmps9
  go_wp2_with fail
  rw [← hW, ← hV]
  clear hW hV
  refine HJ.out.mono ?_
  rintro e w2 ⟨⟨g, rfl, hB2, hgg⟩, hb2⟩
  have HR := Lib.hid ((hb2.block w.heap.size (by omega)).trans HRV.out)
  have EF := Lib.hid (EV.trans (hb2.mono (by omega)))
  have hO2 := Own.of_blk hB2 (B := w.heap.size) (by omega) (by rw [HPL.out]; unfold maxLen; omega)
  rw [HPL.out] at hO2
  have HO : Hid (Own w2 w.heap.size (.slice (some ⟨g, 0, none⟩) 20 20) P) := hO2
  have HNE : Hid ((Value.slice (some ⟨g, 0, none⟩) 20 20).ownBlock ≠ some w.heap.size) := by show _ ≠ _; simp [Value.ownBlock]; omega
  obtain ⟨r0, r1, g0, g1⟩ := two_cells HR.out
  clear hB2 hb2 HJ HRV EV hO2
  go_wp2_with fail
  have hfin := two_set (a := .int .i64 20) (b := .slice (some ⟨g, 0, none⟩) 20 20) HR.out
  refine bodyPost_ret (v := .tuple #[.agg #[.int .i64 20, .slice (some ⟨g, 0, none⟩) 20 20], .bool true]) (results_cell2 (p := 2) (u := 3) (ty := 24) rfl _ _ w.heap.size 24 _ (0, 0) _ rfl hfin Try.underlying24 rfl (by exact info27)) rfl ⟨⟨_, rfl, ?_⟩, ?_⟩
  · exact HO.out.kept (grown_set (grown_set ⟨rfl, rfl, rfl, Nat.le_refl _, fun _ _ _ => rfl⟩ w.heap.size 0 _) _ 1 _) (.inr HNE.out)
  · exact (EF.out.setCell (p := ⟨w.heap.size, 0, none⟩) (by simp) _).setCell (p := ⟨w.heap.size, 1, none⟩) (by simp) _

set_option maxHeartbeats 1600000 in
theorem specDod_named (w : World) :
    Calls Try.prog 9 #[.string ⟨#[100, 111, 100, 101, 99, 97, 104, 101, 100, 114, 111, 110]⟩] w fun e w' => BRes w.heap.size 20 (rowsF 20 (adjS (jumpS 20 [10, 7, 4, 16, 13, 10, 16, 7, 13, 4] 20))) true e w' ∧ Below w.heap.size w w' := by
  obtain ⟨W, hW⟩ : ∃ W, W = w.alloc (.cells #[.int .i64 0, .slice none 0 0] 24) := ⟨_, rfl⟩
  have D0 : Below w.heap.size w W := by rw [hW]; exact (Below.refl _ _).alloc (Nat.le_refl _) _
  have s0 : W.heap.size = w.heap.size + 1 := by rw [hW]; simp
  have HR0 : Hid (W.heap[w.heap.size]? = some (.cells #[.int .i64 0, .slice none 0 0] 24 (0, 0))) := by show _ = _; rw [hW]; exact World.alloc_heap_new w _
  obtain ⟨V, hV⟩ : ∃ V, V = W.alloc (.cells #[.int .i64 10, .int .i64 7, .int .i64 4, .int .i64 16, .int .i64 13, .int .i64 10, .int .i64 16, .int .i64 7, .int .i64 13, .int .i64 4] 2) := ⟨_, rfl⟩
  have hBV : Blk V (w.heap.size + 1) [10, 7, 4, 16, 13, 10, 16, 7, 13, 4] := by rw [hV, ← s0]; exact World.alloc_heap_new W _
  have hEV : Below W.heap.size W V := by rw [hV]; exact (Below.refl _ _).alloc (Nat.le_refl _) _
  have hj : Calls Try.prog 28 #[.int .i64 20, .slice (some ⟨w.heap.size + 1, 0, none⟩) 10 10] V fun e w' => GRet V.heap.size 20 (rowsF 20 (adjS (jumpS 20 [10, 7, 4, 16, 13, 10, 16, 7, 13, 4] 20))) e w' ∧ Below V.heap.size V w' := specJumps_some 20 (w.heap.size + 1) 0 10 [10, 7, 4, 16, 13, 10, 16, 7, 13, 4] V (by omega) (by omega) hBV.lt (fun i hi => by rw [Nat.zero_add]; exact hBV.cell hi) (by decide) (by decide) (by decide)
  have HJ := Lib.hid hj
  have EV := D0.trans (hEV.mono (by omega))
  have HRV := Lib.hid ((hEV.block w.heap.size (by omega)).trans HR0.out)
  have lV : w.heap.size + 1 ≤ V.heap.size := by have := hEV.size; omega
  obtain ⟨P, hP⟩ : ∃ P, P = rowsF 20 (adjS (jumpS 20 [10, 7, 4, 16, 13, 10, 16, 7, 13, 4] 20)) := ⟨_, rfl⟩
  have HPL : Hid (P.length = 20) := by show _ = _; rw [hP]; exact rowsF_length _ _
  rw [← hP] at HJ
  rw [← hP]
  clear hj hP hBV hEV D0 HR0
  go_enter Try.func9, Try.ntmps9
  go_wp2_with fail
  rw [← hW, ← hV]
  clear hW hV
  refine HJ.out.mono ?_
  rintro e w2 ⟨⟨g, rfl, hB2, hgg⟩, hb2⟩
  have HR := Lib.hid ((hb2.block w.heap.size (by omega)).trans HRV.out)
  have EF := Lib.hid (EV.trans (hb2.mono (by omega)))
  have hO2 := Own.of_blk hB2 (B := w.heap.size) (by omega) (by rw [HPL.out]; unfold maxLen; omega)
  rw [HPL.out] at hO2
  have HO : Hid (Own w2 w.heap.size (.slice (some ⟨g, 0, none⟩) 20 20) P) := hO2
  have HNE : Hid ((Value.slice (some ⟨g, 0, none⟩) 20 20).ownBlock ≠ some w.heap.size) := by show _ ≠ _; simp [Value.ownBlock]; omega
  obtain ⟨r0, r1, g0, g1⟩ := two_cells HR.out
  clear hB2 hb2 HJ HRV EV hO2
  go_wp2_with fail
  have hfin := two_set (a := .int .i64 20) (b := .slice (some ⟨g, 0, none⟩) 20 20) HR.out
  refine bodyPost_ret (v := .tuple #[.agg #[.int .i64 20, .slice (some ⟨g, 0, none⟩) 20 20], .bool true]) (results_cell2 (p := 2) (u := 3) (ty := 24) rfl _ _ w.heap.size 24 _ (0, 0) _ rfl hfin Try.underlying24 rfl (by exact info27)) rfl ⟨⟨_, rfl, ?_⟩, ?_⟩
  · exact HO.out.kept (grown_set (grown_set ⟨rfl, rfl, rfl, Nat.le_refl _, fun _ _ _ => rfl⟩ w.heap.size 0 _) _ 1 _) (.inr HNE.out)
  · exact (EF.out.setCell (p := ⟨w.heap.size, 0, none⟩) (by simp) _).setCell (p := ⟨w.heap.size, 1, none⟩) (by simp) _

set_option maxHeartbeats 1600000 in
theorem specMcg_named (w : World) :
    Calls Try.prog 9 #[.string ⟨#[109, 99, 103, 101, 101]⟩] w fun e w' => BRes w.heap.size 24 (rowsF 24 (adjS (jumpS 24 [12, 7, 17] 24))) true e w' ∧ Below w.heap.size w w' := by
  obtain ⟨W, hW⟩ : ∃ W, W = w.alloc (.cells #[.int .i64 0, .slice none 0 0] 24) := ⟨_, rfl⟩
  have D0 : Below w.heap.size w W := by rw [hW]; exact (Below.refl _ _).alloc (Nat.le_refl _) _
  have s0 : W.heap.size = w.heap.size + 1 := by rw [hW]; simp
  have HR0 : Hid (W.heap[w.heap.size]? = some (.cells #[.int .i64 0, .slice none 0 0] 24 (0, 0))) := by show _ = _; rw [hW]; exact World.alloc_heap_new w _
  obtain ⟨V, hV⟩ : ∃ V, V = W.alloc (.cells #[.int .i64 12, .int .i64 7, .int .i64 17] 2) := ⟨_, rfl⟩
  have hBV : Blk V (w.heap.size + 1) [12, 7, 17] := by rw [hV, ← s0]; exact World.alloc_heap_new W _
  have hEV : Below W.heap.size W V := by rw [hV]; exact (Below.refl _ _).alloc (Nat.le_refl _) _
  have hj : Calls Try.prog 28 #[.int .i64 24, .slice (some ⟨w.heap.size + 1, 0, none⟩) 3 3] V fun e w' => GRet V.heap.size 24 (rowsF 24 (adjS (jumpS 24 [12, 7, 17] 24))) e w' ∧ Below V.heap.size V w' := specJumps_some 24 (w.heap.size + 1) 0 3 [12, 7, 17] V (by omega) (by omega) hBV.lt (fun i hi => by rw [Nat.zero_add]; exact hBV.cell hi) (by decide) (by decide) (by decide)
  have HJ := Lib.hid hj
  have EV := D0.trans (hEV.mono (by omega))
  have HRV := Lib.hid ((hEV.block w.heap.size (by omega)).trans HR0.out)
  have lV : w.heap.size + 1 ≤ V.heap.size := by have := hEV.size; omega
  obtain ⟨P, hP⟩ : ∃ P, P = rowsF 24 (adjS (jumpS 24 [12, 7, 17] 24)) := ⟨_, rfl⟩
  have HPL : Hid (P.length = 24) := by show _ = _; rw [hP]; exact rowsF_length _ _
  rw [← hP] at HJ
  rw [← hP]
  clear hj hP hBV hEV D0 HR0
  go_enter Try.func9, Try.ntmps9
  go_wp2_with fail
  rw [← hW, ← hV]
  clear hW hV
  refine HJ.out.mono ?_
  rintro e w2 ⟨⟨g, rfl, hB2, hgg⟩, hb2⟩
  have HR := Lib.hid ((hb2.block w.heap.size (by omega)).trans HRV.out)
  have EF := Lib.hid (EV.trans (hb2.mono (by omega)))
  have hO2 := Own.of_blk hB2 (B := w.heap.size) (by omega) (by rw [HPL.out]; unfold maxLen; omega)
  rw [HPL.out] at hO2
  have HO : Hid (Own w2 w.heap.size (.slice (some ⟨g, 0, none⟩) 24 24) P) := hO2
  have HNE : Hid ((Value.slice (some ⟨g, 0, none⟩) 24 24).ownBlock ≠ some w.heap.size) := by show _ ≠ _; simp [Value.ownBlock]; omega
  obtain ⟨r0, r1, g0, g1⟩ := two_cells HR.out
  clear hB2 hb2 HJ HRV EV hO2
  go_wp2_with fail
  have hfin := two_set (a := .int .i64 24) (b := .slice (some ⟨g, 0, none⟩) 24 24) HR.out
  refine bodyPost_ret (v := .tuple #[.agg #[.int .i64 24, .slice (some ⟨g, 0, none⟩) 24 24], .bool true]) (results_cell2 (p := 2) (u := 3) (ty := 24) rfl _ _ w.heap.size 24 _ (0, 0) _ rfl hfin Try.underlying24 rfl (by exact info27)) rfl ⟨⟨_, rfl, ?_⟩, ?_⟩
  · exact HO.out.kept (grown_set (grown_set ⟨rfl, rfl, rfl, Nat.le_refl _, fun _ _ _ => rfl⟩ w.heap.size 0 _) _ 1 _) (.inr HNE.out)
  · exact (EF.out.setCell (p := ⟨w.heap.size, 0, none⟩) (by simp) _).setCell (p := ⟨w.heap.size, 1, none⟩) (by simp) _

set_option maxHeartbeats 1600000 in
theorem specTut_named (w : World) :
    Calls Try.prog 9 #[.string ⟨#[116, 117, 116, 116, 101, 99, 111, 120, 101, 116, 101, 114]⟩] w fun e w' => BRes w.heap.size 30 (rowsF 30 (adjS (jumpS 30 [17, 21, 7, 23, 9, 13] 30))) true e w' ∧ Below w.heap.size w w' := by
  obtain ⟨W, hW⟩ : ∃ W, W = w.alloc (.cells #[.int .i64 0, .slice none 0 0] 24) := ⟨_, rfl⟩
  have D0 : Below w.heap.size w W := by rw [hW]; exact (Below.refl _ _).alloc (Nat.le_refl _) _
  have s0 : W.heap.size = w.heap.size + 1 := by rw [hW]; simp
  have HR0 : Hid (W.heap[w.heap.size]? = some (.cells #[.int .i64 0, .slice none 0 0] 24 (0, 0))) := by show _ = _; rw [hW]; exact World.alloc_heap_new w _
  obtain ⟨V, hV⟩ : ∃ V, V = W.alloc (.cells #[.int .i64 17, .int .i64 21, .int .i64 7, .int .i64 23, .int .i64 9, .int .i64 13] 2) := ⟨_, rfl⟩
  have hBV : Blk V (w.heap.size + 1) [17, 21, 7, 23, 9, 13] := by rw [hV, ← s0]; exact World.alloc_heap_new W _
  have hEV : Below W.heap.size W V := by rw [hV]; exact (Below.refl _ _).alloc (Nat.le_refl _) _
  have hj : Calls Try.prog 28 #[.int .i64 30, .slice (some ⟨w.heap.size + 1, 0, none⟩) 6 6] V fun e w' => GRet V.heap.size 30 (rowsF 30 (adjS (jumpS 30 [17, 21, 7, 23, 9, 13] 30))) e w' ∧ Below V.heap.size V w' := specJumps_some 30 (w.heap.size + 1) 0 6 [17, 21, 7, 23, 9, 13] V (by omega) (by omega) hBV.lt (fun i hi => by rw [Nat.zero_add]; exact hBV.cell hi) (by decide) (by decide) (by decide)
  have HJ := Lib.hid hj
  have EV := D0.trans (hEV.mono (by omega))
  have HRV := Lib.hid ((hEV.block w.heap.size (by omega)).trans HR0.out)
  have lV : w.heap.size + 1 ≤ V.heap.size := by have := hEV.size; omega
  obtain ⟨P, hP⟩ : ∃ P, P = rowsF 30 (adjS (jumpS 30 [17, 21, 7, 23, 9, 13] 30)) := ⟨_, rfl⟩
  have HPL : Hid (P.length = 30) := by show _ = _; rw [hP]; exact rowsF_length _ _
  rw [← hP] at HJ
  rw [← hP]
  clear hj hP hBV hEV D0 HR0
  go_enter Try.func9, Try.ntmps9
  go_wp2_with fail
  rw [← hW, ← hV]
  clear hW hV
  refine HJ.out.mono ?_
  rintro e w2 ⟨⟨g, rfl, hB2, hgg⟩, hb2⟩
  have HR := Lib.hid ((hb2.block w.heap.size (by omega)).trans HRV.out)
  have EF := Lib.hid (EV.trans (hb2.mono (by omega)))
  have hO2 := Own.of_blk hB2 (B := w.heap.size) (by omega) (by rw [HPL.out]; unfold maxLen; omega)
  rw [HPL.out] at hO2
  have HO : Hid (Own w2 w.heap.size (.slice (some ⟨g, 0, none⟩) 30 30) P) := hO2
  have HNE : Hid ((Value.slice (some ⟨g, 0, none⟩) 30 30).ownBlock ≠ some w.heap.size) := by show _ ≠ _; simp [Value.ownBlock]; omega
  obtain ⟨r0, r1, g0, g1⟩ := two_cells HR.out
  clear hB2 hb2 HJ HRV EV hO2
  go_wp2_with fail
  have hfin := two_set (a := .int .i64 30) (b := .slice (some ⟨g, 0, none⟩) 30 30) HR.out
  refine bodyPost_ret (v := .tuple #[.agg #[.int .i64 30, .slice (some ⟨g, 0, none⟩) 30 30], .bool true]) (results_cell2 (p := 2) (u := 3) (ty := 24) rfl _ _ w.heap.size 24 _ (0, 0) _ rfl hfin Try.underlying24 rfl (by exact info27)) rfl ⟨⟨_, rfl, ?_⟩, ?_⟩
  · exact HO.out.kept (grown_set (grown_set ⟨rfl, rfl, rfl, Nat.le_refl _, fun _ _ _ => rfl⟩ w.heap.size 0 _) _ 1 _) (.inr HNE.out)
  · exact (EF.out.setCell (p := ⟨w.heap.size, 0, none⟩) (by simp) _).setCell (p := ⟨w.heap.size, 1, none⟩) (by simp) _

set_option maxHeartbeats 1600000 in
theorem specNone_named (s : ByteArray) (w : World) (m0 : (s.toList == [107, 52]) = false) (m1 : (s.toList == [107, 53]) = false) (m2 : (s.toList == [107, 51, 51]) = false) (m3 : (s.toList == [99, 117, 98, 101]) = false) (m4 : (s.toList == [99, 108, 101, 98, 115, 99, 104]) = false) (m5 : (s.toList == [112, 101, 116, 101, 114, 115, 101, 110]) = false) (m6 : (s.toList == [105, 99, 111, 115, 97, 104, 101, 100, 114, 111, 110]) = false) (m7 : (s.toList == [104, 111, 102, 102, 109, 97, 110, 115, 105, 110, 103, 108, 101, 116, 111, 110]) = false) (m8 : (s.toList == [104, 101, 97, 119, 111, 111, 100]) = false) (m9 : (s.toList == [109, 111, 101, 98, 105, 117, 115, 107, 97, 110, 116, 111, 114]) = false) (m10 : (s.toList == [112, 97, 112, 112, 117, 115]) = false) (m11 : (s.toList == [100, 101, 115, 97, 114, 103, 117, 101, 115]) = false) (m12 : (s.toList == [100, 111, 100, 101, 99, 97, 104, 101, 100, 114, 111, 110]) = false) (m13 : (s.toList == [109, 99, 103, 101, 101]) = false) (m14 : (s.toList == [116, 117, 116, 116, 101, 99, 111, 120, 101, 116, 101, 114]) = false) :
    Calls Try.prog 9 #[.string s] w fun e w' => BRes w.heap.size 0 [] false e w' ∧ Below w.heap.size w w' := by
  obtain ⟨W, hW⟩ : ∃ W, W = w.alloc (.cells #[.int .i64 0, .slice none 0 0] 24) := ⟨_, rfl⟩
  have D0 : Below w.heap.size w W := by rw [hW]; exact (Below.refl _ _).alloc (Nat.le_refl _) _
  have s0 : W.heap.size = w.heap.size + 1 := by rw [hW]; simp
  have HR0 : Hid (W.heap[w.heap.size]? = some (.cells #[.int .i64 0, .slice none 0 0] 24 (0, 0))) := by show _ = _; rw [hW]; exact World.alloc_heap_new w _
  go_enter Try.func9, Try.ntmps9
  obtain ⟨r0, r1, g0, g1⟩ := two_cells HR0.out
  go_wp2_with fail
  rw [← hW]
  exact bodyPost_ret (v := .tuple #[.agg #[.int .i64 0, .slice none 0 0], .bool false]) (results_cell2 (p := 2) (u := 3) (ty := 24) rfl _ _ w.heap.size 24 _ (0, 0) _ rfl HR0.out Try.underlying24 rfl (by exact info27)) rfl ⟨⟨_, rfl, Own.nil _ _⟩, D0⟩
end Go.Proofs.Ytonfcmngokmgpaa
