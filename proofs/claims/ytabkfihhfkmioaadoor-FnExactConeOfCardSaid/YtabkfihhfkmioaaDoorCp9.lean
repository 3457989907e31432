/-
  ConeOf: both programs.
-/
import Derived.Test.YtabkfihhfkmioaaDoorCo9
import Derived.Test.YtabkfihhfkmioaaDoorTv9
import Derived.Deep.RegionWith
import Derived.Deep.DeepCutAuto
namespace Go.Proofs.YtabkfihhfkmioaaDoor
set_option maxRecDepth 100000
open Go.RowKit

set_option maxHeartbeats 1600000 in
theorem specCo_no (n : Int) (v : Value) (zs : List Int) (w : World) (hs : Sl w v zs) (hl : zs.length ≤ 9223372036854775807) (hg : isG n zs = false) :
    Calls Tryd.prog 22 #[.agg #[.int .i64 n, v]] w fun e w' => GRes w.heap.size 0 [] 1 e w' ∧ Below w.heap.size w w' := by
  obtain ⟨W, hW⟩ : ∃ W, W = (w.alloc (.cells #[.int .i64 n, v] 26)).alloc (.cells #[.int .i64 0, .slice none 0 0] 26) := ⟨_, rfl⟩
  have D0 : Below w.heap.size w W := by rw [hW]; exact ((Below.refl _ _).alloc (Nat.le_refl _) _).alloc (by simp) _
  have hsz : w.heap.size + 2 ≤ W.heap.size := by rw [hW]; simp
  have HK0 : Hid (W.heap[w.heap.size]? = some (.cells #[.int .i64 n, v] 26 (0, 0))) := by show _ = _; rw [hW]; exact heap_old_at (heap_new_at w _ w.heap.size rfl) _
  have HR0 : Hid (W.heap[w.heap.size + 1]? = some (.cells #[.int .i64 0, .slice none 0 0] 26 (0, 0))) := by show _ = _; rw [hW]; exact heap_new_at _ _ _ (by simp)
  have HD0 := Lib.hid D0
  obtain ⟨V, hV⟩ : ∃ V, V = W.alloc (.cells #[.int .i64 n, v] 26) := ⟨_, rfl⟩
  have hsv : W.heap.size < V.heap.size := by rw [hV]; simp
  have DV : Below W.heap.size W V := by rw [hV]; exact (Below.refl _ _).alloc (Nat.le_refl _) _
  have hv := code9_one n (v) zs W.heap.size V (by rw [hV]; exact World.alloc_heap_new W _) ((hs.below D0).below DV) hl
  rw [hg, if_neg (by simp)] at hv
  clear hs hg D0
  go_enter Tryd.func22, Tryd.ntmps22
  go_upto_region 1 with fail
  rw [← hW]
  clear hW
  obtain ⟨a0, a1, -, -⟩ := two_cells HK0.out
  go_wp2_with fail
  rw [← hV]
  clear hV a0 a1
  refine hv.mono ?_
  rintro e w1 ⟨rfl, hb1⟩
  have hb1 := DV.trans (hb1.mono (by omega))
  have q1 := hb1.size
  have HK := Lib.hid ((hb1.block w.heap.size (by omega)).trans HK0.out)
  have HR := Lib.hid ((hb1.block (w.heap.size + 1) (by omega)).trans HR0.out)
  have HD := Lib.hid (HD0.out.trans (hb1.mono (by omega)))
  have HBW1 := Lib.hid hb1
  clear hb1 hv DV HK0 HR0 HD0
  obtain ⟨r0, r1, g0, g1⟩ := two_cells HR.out
  go_wp2
  have hfin := two_set (a := .int .i64 0) (b := .slice none 0 0) HR.out
  refine bodyPost_ret (v := .tuple #[.agg #[.int .i64 0, .slice none 0 0], .int .i64 1]) (results_cell2 (p := 2) (u := 3) (ty := 26) rfl _ _ (w.heap.size + 1) 26 _ (0, 0) _ rfl hfin Tryd.underlying26 rfl (by exact info27)) rfl ⟨⟨_, rfl, Own.nil _ _⟩, ?_⟩
  exact (HD.out.setCell (p := ⟨w.heap.size + 1, 0, none⟩) (by simp) _).setCell (p := ⟨w.heap.size + 1, 1, none⟩) (by simp) _

set_option maxHeartbeats 1600000 in
theorem specCo_big (n : Int) (v : Value) (zs : List Int) (w : World) (hs : Sl w v zs) (hl : zs.length ≤ 9223372036854775807) (hg : isG n zs = true) (hn : ¬ n ≤ 61) :
    Calls Tryd.prog 22 #[.agg #[.int .i64 n, v]] w fun e w' => GRes w.heap.size 0 [] 3 e w' ∧ Below w.heap.size w w' := by
  obtain ⟨h1a, h1b, -, -, -⟩ := isG_parts hg
  obtain ⟨W, hW⟩ : ∃ W, W = (w.alloc (.cells #[.int .i64 n, v] 26)).alloc (.cells #[.int .i64 0, .slice none 0 0] 26) := ⟨_, rfl⟩
  have D0 : Below w.heap.size w W := by rw [hW]; exact ((Below.refl _ _).alloc (Nat.le_refl _) _).alloc (by simp) _
  have hsz : w.heap.size + 2 ≤ W.heap.size := by rw [hW]; simp
  have HK0 : Hid (W.heap[w.heap.size]? = some (.cells #[.int .i64 n, v] 26 (0, 0))) := by show _ = _; rw [hW]; exact heap_old_at (heap_new_at w _ w.heap.size rfl) _
  have HR0 : Hid (W.heap[w.heap.size + 1]? = some (.cells #[.int .i64 0, .slice none 0 0] 26 (0, 0))) := by show _ = _; rw [hW]; exact heap_new_at _ _ _ (by simp)
  have HD0 := Lib.hid D0
  obtain ⟨V, hV⟩ : ∃ V, V = W.alloc (.cells #[.int .i64 n, v] 26) := ⟨_, rfl⟩
  have hsv : W.heap.size < V.heap.size := by rw [hV]; simp
  have DV : Below W.heap.size W V := by rw [hV]; exact (Below.refl _ _).alloc (Nat.le_refl _) _
  have hv := code9_one n (v) zs W.heap.size V (by rw [hV]; exact World.alloc_heap_new W _) ((hs.below D0).below DV) hl
  rw [hg, if_pos rfl] at hv
  have hw : IntKind.i64.wrap (n + 1) = n + 1 := IntWalk.i64_in _ ⟨by omega, by omega⟩
  have htd := fun W => told_any (n + 1) W
  rw [if_neg (by omega)] at htd
  clear hs hg D0
  go_enter Tryd.func22, Tryd.ntmps22
  go_upto_region 1 with fail
  rw [← hW]
  clear hW
  obtain ⟨a0, a1, -, -⟩ := two_cells HK0.out
  go_wp2_with fail
  rw [← hV]
  clear hV a0 a1
  refine hv.mono ?_
  rintro e w1 ⟨rfl, hb1⟩
  have hb1 := DV.trans (hb1.mono (by omega))
  have q1 := hb1.size
  have HK := Lib.hid ((hb1.block w.heap.size (by omega)).trans HK0.out)
  have HR := Lib.hid ((hb1.block (w.heap.size + 1) (by omega)).trans HR0.out)
  have HD := Lib.hid (HD0.out.trans (hb1.mono (by omega)))
  have HBW1 := Lib.hid hb1
  clear hb1 hv DV HK0 HR0 HD0
  obtain ⟨b0, b1, -, -⟩ := two_cells HK.out
  obtain ⟨r0, r1, g0, g1⟩ := two_cells HR.out
  go_wp2_with (go_at_call 52; refine (htd _).mono ?_; rintro e w2 ⟨rfl, rfl⟩)
  have hfin := two_set (a := .int .i64 0) (b := .slice none 0 0) HR.out
  refine bodyPost_ret (v := .tuple #[.agg #[.int .i64 0, .slice none 0 0], .int .i64 3]) (results_cell2 (p := 2) (u := 3) (ty := 26) rfl _ _ (w.heap.size + 1) 26 _ (0, 0) _ rfl hfin Tryd.underlying26 rfl (by exact info27)) rfl ⟨⟨_, rfl, Own.nil _ _⟩, ?_⟩
  exact (HD.out.setCell (p := ⟨w.heap.size + 1, 0, none⟩) (by simp) _).setCell (p := ⟨w.heap.size + 1, 1, none⟩) (by simp) _

set_option maxHeartbeats 6400000 in
theorem specCo_yes (b off cap : Nat) (zs : List Int) (w : World) (hb : b < w.heap.size) (hc : Cells w b off zs) (hg : isG zs.length zs = true) (hn : (zs.length : Int) ≤ 61) :
    Calls Tryd.prog 22 #[.agg #[.int .i64 zs.length, .slice (some ⟨b, off, none⟩) zs.length cap]] w fun e w' => GRes w.heap.size (zs.length + 1) (coneT zs zs.length) 0 e w' ∧ Below w.heap.size w w' := by
  obtain ⟨h1a, h1b, -, -, -⟩ := isG_parts hg
  have hs : Sl w (.slice (some ⟨b, off, none⟩) zs.length cap) zs := .inr ⟨b, off, cap, rfl, hb, hc⟩
  have hl : zs.length ≤ 9223372036854775807 := by omega
  obtain ⟨W, hW⟩ : ∃ W, W = (w.alloc (.cells #[.int .i64 zs.length, .slice (some ⟨b, off, none⟩) zs.length cap] 26)).alloc (.cells #[.int .i64 0, .slice none 0 0] 26) := ⟨_, rfl⟩
  have D0 : Below w.heap.size w W := by rw [hW]; exact ((Below.refl _ _).alloc (Nat.le_refl _) _).alloc (by simp) _
  have hsz : w.heap.size + 2 ≤ W.heap.size := by rw [hW]; simp
  have HK0 : Hid (W.heap[w.heap.size]? = some (.cells #[.int .i64 zs.length, .slice (some ⟨b, off, none⟩) zs.length cap] 26 (0, 0))) := by show _ = _; rw [hW]; exact heap_old_at (heap_new_at w _ w.heap.size rfl) _
  have HR0 : Hid (W.heap[w.heap.size + 1]? = some (.cells #[.int .i64 0, .slice none 0 0] 26 (0, 0))) := by show _ = _; rw [hW]; exact heap_new_at _ _ _ (by simp)
  have HD0 := Lib.hid D0
  obtain ⟨V, hV⟩ : ∃ V, V = W.alloc (.cells #[.int .i64 zs.length, .slice (some ⟨b, off, none⟩) zs.length cap] 26) := ⟨_, rfl⟩
  have hsv : W.heap.size < V.heap.size := by rw [hV]; simp
  have DV : Below W.heap.size W V := by rw [hV]; exact (Below.refl _ _).alloc (Nat.le_refl _) _
  have hv := code9_one zs.length (.slice (some ⟨b, off, none⟩) zs.length cap) zs W.heap.size V (by rw [hV]; exact World.alloc_heap_new W _) ((hs.below D0).below DV) hl
  rw [hg, if_pos rfl] at hv
  have hw : IntKind.i64.wrap ((zs.length : Int) + 1) = (zs.length : Int) + 1 := IntWalk.i64_in _ ⟨by omega, by omega⟩
  have htd := fun W => told_any ((zs.length : Int) + 1) W
  rw [if_pos (by omega)] at htd
  have HZI := Lib.hid (rowsIn_of hg)
  have HC0 := Lib.hid (hc.below D0 hb)
  clear hs hg D0 hc
  go_enter Tryd.func22, Tryd.ntmps22
  go_upto_region 1 with fail
  rw [← hW]
  clear hW
  obtain ⟨a0, a1, -, -⟩ := two_cells HK0.out
  go_wp2_with fail
  rw [← hV]
  clear hV a0 a1
  refine hv.mono ?_
  rintro e w1 ⟨rfl, hb1⟩
  have hb1 := DV.trans (hb1.mono (by omega))
  have q1 := hb1.size
  have HK := Lib.hid ((hb1.block w.heap.size (by omega)).trans HK0.out)
  have HR := Lib.hid ((hb1.block (w.heap.size + 1) (by omega)).trans HR0.out)
  have HD := Lib.hid (HD0.out.trans (hb1.mono (by omega)))
  have HBW1 := Lib.hid hb1
  clear hb1 hv DV HK0 HR0 HD0
  obtain ⟨b0, b1, -, -⟩ := two_cells HK.out
  have HC1 : Hid (Cells w1 b off zs) := HC0.out.below HBW1.out (by omega)
  go_upto_region 7 with (go_at_call 52; refine (htd _).mono ?_; rintro e w2 ⟨rfl, rfl⟩)
  have HEM : Hid (∀ W1, Below w1.heap.size w1 W1 → Calls Tryd.prog 61 #[.int .i64 1] W1 fun e w' => (∃ g, e = .returned (.agg #[.int .i64 1, .slice (some ⟨g, 0, none⟩) 1 1]) ∧ Cells w' g 0 [0] ∧ g < w'.heap.size) ∧ Below w1.heap.size w1 w' ∧ Below W1.heap.size W1 w') := fun W1 h => by
    refine (specEmpty_any 1 W1 (by decide)).mono ?_
    rintro e w' ⟨rfl, hB, hb⟩
    exact ⟨⟨_, rfl, blk_cells hB, hB.lt⟩, h.trans (hb.mono h.size), hb⟩
  have HBE : Hid (∀ (X W1 : World) (g : Nat), Below w1.heap.size w1 X → Cells X g 0 [0] → g < X.heap.size → Below X.heap.size X W1 → Calls Tryd.prog 60 #[.agg #[.int .i64 zs.length, .slice (some ⟨b, off, none⟩) zs.length cap], .agg #[.int .i64 1, .slice (some ⟨g, 0, none⟩) 1 1]] W1 fun e w' => (∃ ua ul uc, e = .returned (.agg #[.int .i64 (zs.length + 1), .slice ua ul uc]) ∧ Own w' W1.heap.size (.slice ua ul uc) (besL zs [0])) ∧ Below w1.heap.size w1 w' ∧ Below X.heap.size X w' ∧ Below W1.heap.size W1 w') := fun X W1 g h1 h2 h3 h4 => by
    have h5 := h1.trans (h4.mono h1.size)
    refine (l01Beside_some b off cap g 0 1 zs [0] W1 (by have := h5.size; omega) (HC1.out.below h5 (by omega)) (by have := h4.size; omega) (h2.below h4 h3) (fun i hi => by obtain rfl : i = 0 := (by simpa using hi); simp [el]) (by simp; omega)).mono ?_
    rintro e w' ⟨u, rfl, hO, hbb⟩
    obtain ⟨ua, ul, uc, rfl⟩ := slice_of hO
    exact ⟨⟨ua, ul, uc, rfl, hO⟩, h5.trans (hbb.mono h5.size), h4.trans (hbb.mono h4.size), hbb⟩
  go_cut [6] (fun t wx => BoxG w1 (zs.length + 1) (besL zs [0]) t wx)
  case first =>
    have p1 : w.heap.size < w1.heap.size := by omega
    have p2 : ¬ w.heap.size = w1.heap.size := by omega
    have p3 : ¬ w1.heap.size = w.heap.size := by omega
    go_region_with (first
      | (go_at_call 61; refine (HEM.out _ (by first | exact Below.refl _ _ | exact (Below.refl _ _).drew | exact (Below.refl _ _).alloc (Nat.le_refl _) _ | exact ((Below.refl _ _).alloc (Nat.le_refl _) _).drew | exact ((Below.refl _ _).drew).alloc (by simp) _ | exact (((Below.refl _ _).drew).alloc (by simp) _).drew | exact (((Below.refl _ _).alloc (Nat.le_refl _) _).drew).drew)).mono ?_; rintro e w4 ⟨⟨s4, rfl, hC4, hg4⟩, hb4, hs4⟩; have HC4 := Lib.hid hC4; have HB4 := Lib.hid hb4; have q4 := hb4.size; have qs4 := hs4.size; obtain ⟨a0, a1, -, -⟩ := two_cells ((hb4.block w.heap.size (by omega)).trans HK.out); have ql : w.heap.size < w4.heap.size := (by omega); have qn : ¬ w.heap.size = w4.heap.size := (by omega); have qm : ¬ w4.heap.size = w.heap.size := (by omega); (try (have HZ4 : Hid (w4.heap[w1.heap.size]? = some (.cells #[.int .i64 0, .slice none 0 0] 26 (0, 0))) := (hs4.block w1.heap.size (by simp)).trans (World.alloc_heap_new w1 _); have z4 := (Array.getElem?_eq_some_iff.1 HZ4.out).1)); clear hC4 hb4 hs4)
      | (go_at_call 60; refine (HBE.out _ _ _ HB4.out HC4.out hg4 (by first | exact Below.refl _ _ | exact (Below.refl _ _).drew | exact (Below.refl _ _).alloc (Nat.le_refl _) _ | exact ((Below.refl _ _).alloc (Nat.le_refl _) _).drew | exact ((Below.refl _ _).drew).alloc (by simp) _ | exact (((Below.refl _ _).drew).alloc (by simp) _).drew | exact (((Below.refl _ _).alloc (Nat.le_refl _) _).drew).drew)).mono ?_; rintro e w5 ⟨⟨ua, ul, uc, rfl, hO5⟩, hb5, h45, hs5⟩; have HB5 := Lib.hid hb5; have HO5 := Lib.hid hO5; have q5 := h45.size; (try (have HZ5 : Hid (w5.heap[w1.heap.size]? = some (.cells #[.int .i64 0, .slice none 0 0] 26 (0, 0))) := (h45.block w1.heap.size z4).trans HZ4.out; obtain ⟨z0, z1, y0, y1⟩ := two_cells HZ5.out)); (try (have HZ5 : Hid (w5.heap[w4.heap.size]? = some (.cells #[.int .i64 0, .slice none 0 0] 26 (0, 0))) := (hs5.block w4.heap.size (by simp)).trans (World.alloc_heap_new w4 _); obtain ⟨z0, z1, y0, y1⟩ := two_cells HZ5.out)); clear hO5 hb5 h45 hs5))
    all_goals
      go_wp2_with fail
      go_meet
      first
        | exact BoxG.new HO5.out HB5.out (by first | (simp; done) | (simp; omega) | omega)
        | exact BoxG.old HO5.out HB5.out (by first | (simp; done) | (simp; omega) | omega) (by first | (simp; done) | (simp; omega) | omega) (by first | (simp; done) | (simp; omega) | omega) HZ5.out
  case rest =>
    obtain ⟨k, u, rfl, hX, hO, hBW, hk, hne⟩ := hcut
    rw [coneT_zero] at hO
    obtain ⟨g, cu, rfl, hg0, hg1⟩ := own_some8 hO (coneT_length zs 0) (by omega)
    have hkg : k ≠ g := fun e => hne (by simp [Value.ownBlock, e])
    have hX' := Lib.hid hX
    have HO0 := Lib.hid hO
    have qc := hBW.size
    have HBW := Lib.hid hBW
    clear hX hO hBW hne b0 b1 HEM HBE htd
    go_wp2
    go_loopw [7] (fun t wr => ∃ j : Nat, j ≤ zs.length ∧ t = .int .i64 j ∧ Hid (Own wr w1.heap.size (.slice (some ⟨g, 0, none⟩) (zs.length + 1) cu) (coneT zs j)) ∧ Hid (wr.heap[k]? = some (.cells #[.int .i64 (zs.length + 1), .slice (some ⟨g, 0, none⟩) (zs.length + 1) cu] 26 (0, 0))) ∧ Hid (Below w1.heap.size w1 wr)) (fun t _ => zs.length - (intOf t).toNat)
    case atStart => exact ⟨0, Nat.zero_le _, rfl, HO0, hX', HBW⟩
    case round =>
      obtain ⟨j, hj, rfl, HO, HX, HB⟩ := hrel
      have qr := HB.out.size
      obtain ⟨b0, b1, -, -⟩ := two_cells ((HB.out.block w.heap.size (by omega)).trans HK.out)
      obtain ⟨x0, x1, -, -⟩ := two_cells HX.out
      by_cases hlt : (j : Int) < zs.length
      · have hjl : j < zs.length := by omega
        have hgl : g < wr.heap.size := (World.ownsRow.lt HO.out g rfl).2
        have hkl := (Array.getElem?_eq_some_iff.1 HX.out).1
        have hput := Lib.hid (l01Put_some (zs.length + 1) g cu w1.heap.size (zs.length + 1) (coneT zs j) j zs.length wr (coneT_length zs j) HO.out hgl (by omega) (by omega) (by omega) (fun a ha => coneT_bd HZI.out hj ha))
        rw [coneT_put HZI.out hjl] at hput
        go_wp2_with (go_at_call 62; refine hput.out.mono ?_; rintro e w6 ⟨⟨v6, rfl⟩, hO6, hg6⟩)
        have HO6 := Lib.hid hO6
        have HX6 := Lib.hid ((hg6.block k hkl (by simp; omega)).trans HX.out)
        have HB6 := Lib.hid (HB.out.grown hg6 HB.out.size (fun q e => by cases e; omega))
        clear hO6 hg6 hput x0 x1 b0 b1
        go_roundw
        case rel => exact ⟨j + 1, by omega, by go_num, HO6, HX6, HB6⟩
        case measure => simp [intOf]; omega
      · have hje : j = zs.length := by omega
        have HRr := Lib.hid ((HB.out.block (w.heap.size + 1) (by omega)).trans HR.out)
        have HDr := Lib.hid (HD.out.trans (HB.out.mono (by omega)))
        have HOf : Hid (Own wr w1.heap.size (.slice (some ⟨g, 0, none⟩) (zs.length + 1) cu) (coneT zs zs.length)) := by
          have h := HO.out
          rw [hje] at h
          exact h
        subst hje
        obtain ⟨r0, r1, g0', g1'⟩ := two_cells HRr.out
        clear HO HB
        go_wp2
        have hfin := two_set (a := .int .i64 (zs.length + 1)) (b := .slice (some ⟨g, 0, none⟩) (zs.length + 1) cu) HRr.out
        refine bodyPost_ret (v := .tuple #[.agg #[.int .i64 (zs.length + 1), .slice (some ⟨g, 0, none⟩) (zs.length + 1) cu], .int .i64 0]) (results_cell2 (p := 2) (u := 3) (ty := 26) rfl _ _ (w.heap.size + 1) 26 _ (0, 0) _ rfl hfin Tryd.underlying26 rfl (by exact info27)) rfl ⟨⟨_, rfl, ?_⟩, ?_⟩
        · exact (HOf.out.base (by omega)).kept (grown_set (grown_set ⟨rfl, rfl, rfl, Nat.le_refl _, fun _ _ _ => rfl⟩ _ 0 _) _ 1 _) (.inr (by simp [Value.ownBlock]; omega))
        · exact (HDr.out.setCell (p := ⟨w.heap.size + 1, 0, none⟩) (by simp) _).setCell (p := ⟨w.heap.size + 1, 1, none⟩) (by simp) _

theorem specCo_any (n : Int) (v : Value) (zs : List Int) (w : World) (hs : Sl w v zs) (hl : zs.length ≤ 9223372036854775807) :
    Calls Tryd.prog 22 #[.agg #[.int .i64 n, v]] w fun e w' => GRes w.heap.size (coN n zs) (coD n zs) (coC n zs) e w' ∧ Below w.heap.size w w' := by
  unfold coN coD coC coOk
  cases hg : isG n zs with
  | false => exact specCo_no n v zs w hs hl hg
  | true =>
    obtain ⟨h1, _, h3, _⟩ := isG_parts hg
    by_cases hn : n ≤ 61
    · obtain ⟨b, off, cap, rfl, hb, hc⟩ := sl_some hs (by omega)
      obtain rfl : (zs.length : Int) = n := h3
      simp only [hn, decide_true, Bool.and_self, if_true]
      exact specCo_yes b off cap zs w hb hc hg hn
    · simp only [hn, decide_false, Bool.and_false, if_false, if_true, Bool.false_eq_true]
      exact specCo_big n v zs w hs hl hg hn

theorem one_g : isG 1 [0] = true := by decide

set_option maxHeartbeats 6400000 in
theorem implCo_err (n : Int) (v : Value) (zs : List Int) (w : World) (hs : Sl w v zs) (hl : zs.length ≤ 9223372036854775807) (hT : Tab w) (c : Int) (hC : PBC n 1 zs [0] = c) (hc0 : c ≠ 0) :
    Calls Tryd.prog 23 #[.agg #[.int .i64 n, v]] w fun e w' => GRes w.heap.size 0 [] c e w' ∧ Below w.heap.size w w' := by
  obtain ⟨W, hW⟩ : ∃ W, W = (w.alloc (.cells #[.int .i64 n, v] 26)).alloc (.cells #[.int .i64 0, .slice none 0 0] 26) := ⟨_, rfl⟩
  have D0 : Below w.heap.size w W := by rw [hW]; exact ((Below.refl _ _).alloc (Nat.le_refl _) _).alloc (by simp) _
  have hsz : w.heap.size + 2 ≤ W.heap.size := by rw [hW]; simp
  have HK0 : Hid (W.heap[w.heap.size]? = some (.cells #[.int .i64 n, v] 26 (0, 0))) := by show _ = _; rw [hW]; exact heap_old_at (heap_new_at w _ w.heap.size rfl) _
  have HR0 : Hid (W.heap[w.heap.size + 1]? = some (.cells #[.int .i64 0, .slice none 0 0] 26 (0, 0))) := by show _ = _; rw [hW]; exact heap_new_at _ _ _ (by simp)
  have HD0 := Lib.hid D0
  have HEM : Hid (∀ W1, Below W.heap.size W W1 → Calls Tryd.prog 64 #[.int .i64 1] W1 fun e w' => (∃ g, e = .returned (.agg #[.int .i64 1, .slice (some ⟨g, 0, none⟩) 1 1]) ∧ Cells w' g 0 [0] ∧ g < w'.heap.size) ∧ Below W.heap.size W w' ∧ Below W1.heap.size W1 w') := fun W1 h => by
    refine (implEmpty_any 1 W1 (by decide)).mono ?_
    rintro e w' ⟨rfl, hB, hb⟩
    exact ⟨⟨_, rfl, blk_cells hB, hB.lt⟩, h.trans (hb.mono h.size), hb⟩
  have HBE : Hid (∀ (X W1 : World) (g : Nat), Below W.heap.size W X → Cells X g 0 [0] → g < X.heap.size → Below X.heap.size X W1 → Calls Tryd.prog 63 #[.agg #[.int .i64 n, v], .agg #[.int .i64 1, .slice (some ⟨g, 0, none⟩) 1 1]] W1 fun e w' => (∃ ua ul uc, e = .returned (.tuple #[.agg #[.int .i64 (PBN n 1 zs [0]), .slice ua ul uc], .int .i64 (PBC n 1 zs [0])]) ∧ Own w' W1.heap.size (.slice ua ul uc) (PBL n 1 zs [0])) ∧ Below W.heap.size W w' ∧ Below X.heap.size X w' ∧ Below W1.heap.size W1 w') := fun X W1 g h1 h2 h3 h4 => by
    have h5 := h1.trans (h4.mono h1.size)
    refine (implPb_any n 1 (v) (.slice (some ⟨g, 0, none⟩) 1 1) zs [0] W1 ((hs.below D0).below h5) (.inr ⟨g, 0, 1, rfl, by have := h4.size; omega, h2.below h4 h3⟩) hl (by simp) ((hT.belowAll D0).belowAll h5)).mono ?_
    rintro e w' ⟨⟨u, rfl, hO⟩, hbb⟩
    obtain ⟨ua, ul, uc, rfl⟩ := slice_of hO
    exact ⟨⟨ua, ul, uc, rfl, hO⟩, h5.trans (hbb.mono h5.size), h4.trans (hbb.mono h4.size), hbb⟩
  rw [hC] at HBE
  generalize PBN n 1 zs [0] = N at *
  generalize PBL n 1 zs [0] = L at *
  obtain ⟨C, rfl⟩ : ∃ C, C = c := ⟨_, rfl⟩
  have hcb : (C != 0) = true := by simpa using hc0
  clear hs hT D0 hC hc0
  go_enter Tryd.func23, Tryd.ntmps23
  go_upto_region 1 with fail
  rw [← hW]
  clear hW
  have HK := HK0
  obtain ⟨a0, a1, -, -⟩ := two_cells HK.out
  go_cut [4, 5] (fun t c wx => c = .int .i64 C ∧ BoxG W N L t wx)
  case first =>
    have p1 : w.heap.size < W.heap.size := by omega
    have p2 : ¬ w.heap.size = W.heap.size := by omega
    have p3 : ¬ W.heap.size = w.heap.size := by omega
    go_region_with (first
      | (go_at_call 64; refine (HEM.out _ (by first | exact Below.refl _ _ | exact (Below.refl _ _).drew | exact (Below.refl _ _).alloc (Nat.le_refl _) _ | exact ((Below.refl _ _).alloc (Nat.le_refl _) _).drew | exact ((Below.refl _ _).drew).alloc (by simp) _ | exact (((Below.refl _ _).drew).alloc (by simp) _).drew | exact (((Below.refl _ _).alloc (Nat.le_refl _) _).drew).drew)).mono ?_; rintro e w4 ⟨⟨s4, rfl, hC4, hg4⟩, hb4, hs4⟩; have HC4 := Lib.hid hC4; have HB4 := Lib.hid hb4; have q4 := hb4.size; have qs4 := hs4.size; obtain ⟨a0, a1, -, -⟩ := two_cells ((hb4.block w.heap.size (by omega)).trans HK.out); have ql : w.heap.size < w4.heap.size := (by omega); have qn : ¬ w.heap.size = w4.heap.size := (by omega); have qm : ¬ w4.heap.size = w.heap.size := (by omega); (try (have HZ4 : Hid (w4.heap[W.heap.size]? = some (.cells #[.int .i64 0, .slice none 0 0] 26 (0, 0))) := (hs4.block W.heap.size (by simp)).trans (World.alloc_heap_new W _); have z4 := (Array.getElem?_eq_some_iff.1 HZ4.out).1)); clear hC4 hb4 hs4)
      | (go_at_call 63; refine (HBE.out _ _ _ HB4.out HC4.out hg4 (by first | exact Below.refl _ _ | exact (Below.refl _ _).drew | exact (Below.refl _ _).alloc (Nat.le_refl _) _ | exact ((Below.refl _ _).alloc (Nat.le_refl _) _).drew | exact ((Below.refl _ _).drew).alloc (by simp) _ | exact (((Below.refl _ _).drew).alloc (by simp) _).drew | exact (((Below.refl _ _).alloc (Nat.le_refl _) _).drew).drew)).mono ?_; rintro e w5 ⟨⟨ua, ul, uc, rfl, hO5⟩, hb5, h45, hs5⟩; have HB5 := Lib.hid hb5; have HO5 := Lib.hid hO5; have q5 := h45.size; (try (have HZ5 : Hid (w5.heap[W.heap.size]? = some (.cells #[.int .i64 0, .slice none 0 0] 26 (0, 0))) := (h45.block W.heap.size z4).trans HZ4.out; obtain ⟨z0, z1, y0, y1⟩ := two_cells HZ5.out)); (try (have HZ5 : Hid (w5.heap[w4.heap.size]? = some (.cells #[.int .i64 0, .slice none 0 0] 26 (0, 0))) := (hs5.block w4.heap.size (by simp)).trans (World.alloc_heap_new w4 _); obtain ⟨z0, z1, y0, y1⟩ := two_cells HZ5.out)); clear hO5 hb5 h45 hs5))
    all_goals
      go_wp2_with fail
      go_meet
      first
        | exact ⟨rfl, BoxG.new HO5.out HB5.out (by first | (simp; done) | (simp; omega) | omega)⟩
        | exact ⟨rfl, BoxG.old HO5.out HB5.out (by first | (simp; done) | (simp; omega) | omega) (by first | (simp; done) | (simp; omega) | omega) (by first | (simp; done) | (simp; omega) | omega) HZ5.out⟩
  case rest =>
    obtain ⟨rfl, k, u, rfl, hX, hO, hBW, hk, hne⟩ := hcut
    have HRr := Lib.hid ((hBW.block (w.heap.size + 1) (by omega)).trans HR0.out)
    have HDr := Lib.hid (HD0.out.trans (hBW.mono (by omega)))
    obtain ⟨r0, r1, g0, g1⟩ := two_cells HRr.out
    clear hX hO hBW hk hne a0 a1 HEM HBE
    go_wp2
    have hfin := two_set (a := .int .i64 0) (b := .slice none 0 0) HRr.out
    refine bodyPost_ret (v := .tuple #[.agg #[.int .i64 0, .slice none 0 0], .int .i64 C]) (results_cell2 (p := 2) (u := 3) (ty := 26) rfl _ _ (w.heap.size + 1) 26 _ (0, 0) _ rfl hfin Tryd.underlying26 rfl (by exact info27)) rfl ⟨⟨_, rfl, Own.nil _ _⟩, ?_⟩
    exact (HDr.out.setCell (p := ⟨w.heap.size + 1, 0, none⟩) (by simp) _).setCell (p := ⟨w.heap.size + 1, 1, none⟩) (by simp) _

set_option maxHeartbeats 6400000 in
theorem implCo_yes (b off cap : Nat) (zs : List Int) (w : World) (hb : b < w.heap.size) (hc : Cells w b off zs) (hg : isG zs.length zs = true) (hn : (zs.length : Int) ≤ 61) (hT : Tab w) :
    Calls Tryd.prog 23 #[.agg #[.int .i64 zs.length, .slice (some ⟨b, off, none⟩) zs.length cap]] w fun e w' => GRes w.heap.size (zs.length + 1) (coneT zs zs.length) 0 e w' ∧ Below w.heap.size w w' := by
  obtain ⟨h1a, h1b, -, -, -⟩ := isG_parts hg
  have hs : Sl w (.slice (some ⟨b, off, none⟩) zs.length cap) zs := .inr ⟨b, off, cap, rfl, hb, hc⟩
  have hl : zs.length ≤ 9223372036854775807 := by omega
  obtain ⟨W, hW⟩ : ∃ W, W = (w.alloc (.cells #[.int .i64 zs.length, .slice (some ⟨b, off, none⟩) zs.length cap] 26)).alloc (.cells #[.int .i64 0, .slice none 0 0] 26) := ⟨_, rfl⟩
  have D0 : Below w.heap.size w W := by rw [hW]; exact ((Below.refl _ _).alloc (Nat.le_refl _) _).alloc (by simp) _
  have hsz : w.heap.size + 2 ≤ W.heap.size := by rw [hW]; simp
  have HK0 : Hid (W.heap[w.heap.size]? = some (.cells #[.int .i64 zs.length, .slice (some ⟨b, off, none⟩) zs.length cap] 26 (0, 0))) := by show _ = _; rw [hW]; exact heap_old_at (heap_new_at w _ w.heap.size rfl) _
  have HR0 : Hid (W.heap[w.heap.size + 1]? = some (.cells #[.int .i64 0, .slice none 0 0] 26 (0, 0))) := by show _ = _; rw [hW]; exact heap_new_at _ _ _ (by simp)
  have HD0 := Lib.hid D0
  have HEM : Hid (∀ W1, Below W.heap.size W W1 → Calls Tryd.prog 64 #[.int .i64 1] W1 fun e w' => (∃ g, e = .returned (.agg #[.int .i64 1, .slice (some ⟨g, 0, none⟩) 1 1]) ∧ Cells w' g 0 [0] ∧ g < w'.heap.size) ∧ Below W.heap.size W w' ∧ Below W1.heap.size W1 w') := fun W1 h => by
    refine (implEmpty_any 1 W1 (by decide)).mono ?_
    rintro e w' ⟨rfl, hB, hb⟩
    exact ⟨⟨_, rfl, blk_cells hB, hB.lt⟩, h.trans (hb.mono h.size), hb⟩
  have HBE : Hid (∀ (X W1 : World) (g : Nat), Below W.heap.size W X → Cells X g 0 [0] → g < X.heap.size → Below X.heap.size X W1 → Calls Tryd.prog 63 #[.agg #[.int .i64 zs.length, .slice (some ⟨b, off, none⟩) zs.length cap], .agg #[.int .i64 1, .slice (some ⟨g, 0, none⟩) 1 1]] W1 fun e w' => (∃ ua ul uc, e = .returned (.tuple #[.agg #[.int .i64 (PBN zs.length 1 zs [0]), .slice ua ul uc], .int .i64 (PBC zs.length 1 zs [0])]) ∧ Own w' W1.heap.size (.slice ua ul uc) (PBL zs.length 1 zs [0])) ∧ Below W.heap.size W w' ∧ Below X.heap.size X w' ∧ Below W1.heap.size W1 w') := fun X W1 g h1 h2 h3 h4 => by
    have h5 := h1.trans (h4.mono h1.size)
    refine (implPb_any zs.length 1 (.slice (some ⟨b, off, none⟩) zs.length cap) (.slice (some ⟨g, 0, none⟩) 1 1) zs [0] W1 ((hs.below D0).below h5) (.inr ⟨g, 0, 1, rfl, by have := h4.size; omega, h2.below h4 h3⟩) hl (by simp) ((hT.belowAll D0).belowAll h5)).mono ?_
    rintro e w' ⟨⟨u, rfl, hO⟩, hbb⟩
    obtain ⟨ua, ul, uc, rfl⟩ := slice_of hO
    exact ⟨⟨ua, ul, uc, rfl, hO⟩, h5.trans (hbb.mono h5.size), h4.trans (hbb.mono h4.size), hbb⟩
  obtain ⟨e1, e2, e3⟩ := PB_yes hg one_g (by omega : (zs.length : Int) + 1 ≤ 62)
  have HZI := Lib.hid (rowsIn_of hg)
  clear hs hT D0 hc hg
  obtain ⟨N, hN⟩ : ∃ N : Int, N = PBN zs.length 1 zs [0] := ⟨_, rfl⟩
  obtain ⟨L, hL⟩ : ∃ L, L = PBL zs.length 1 zs [0] := ⟨_, rfl⟩
  obtain ⟨C, hC⟩ : ∃ C : Int, C = PBC zs.length 1 zs [0] := ⟨_, rfl⟩
  rw [← hN, ← hL, ← hC] at HBE
  have HN := Lib.hid (hN.trans e1)
  have HL := Lib.hid (hL.trans e2)
  have HCC := Lib.hid (hC.trans e3)
  clear hN hL hC e1 e2 e3
  go_enter Tryd.func23, Tryd.ntmps23
  go_upto_region 1 with fail
  rw [← hW]
  clear hW
  have HK := HK0
  obtain ⟨a0, a1, -, -⟩ := two_cells HK.out
  go_cut [4, 5] (fun t c wx => c = .int .i64 C ∧ BoxG W N L t wx)
  case first =>
    have p1 : w.heap.size < W.heap.size := by omega
    have p2 : ¬ w.heap.size = W.heap.size := by omega
    have p3 : ¬ W.heap.size = w.heap.size := by omega
    go_region_with (first
      | (go_at_call 64; refine (HEM.out _ (by first | exact Below.refl _ _ | exact (Below.refl _ _).drew | exact (Below.refl _ _).alloc (Nat.le_refl _) _ | exact ((Below.refl _ _).alloc (Nat.le_refl _) _).drew | exact ((Below.refl _ _).drew).alloc (by simp) _ | exact (((Below.refl _ _).drew).alloc (by simp) _).drew | exact (((Below.refl _ _).alloc (Nat.le_refl _) _).drew).drew)).mono ?_; rintro e w4 ⟨⟨s4, rfl, hC4, hg4⟩, hb4, hs4⟩; have HC4 := Lib.hid hC4; have HB4 := Lib.hid hb4; have q4 := hb4.size; have qs4 := hs4.size; obtain ⟨a0, a1, -, -⟩ := two_cells ((hb4.block w.heap.size (by omega)).trans HK.out); have ql : w.heap.size < w4.heap.size := (by omega); have qn : ¬ w.heap.size = w4.heap.size := (by omega); have qm : ¬ w4.heap.size = w.heap.size := (by omega); (try (have HZ4 : Hid (w4.heap[W.heap.size]? = some (.cells #[.int .i64 0, .slice none 0 0] 26 (0, 0))) := (hs4.block W.heap.size (by simp)).trans (World.alloc_heap_new W _); have z4 := (Array.getElem?_eq_some_iff.1 HZ4.out).1)); clear hC4 hb4 hs4)
      | (go_at_call 63; refine (HBE.out _ _ _ HB4.out HC4.out hg4 (by first | exact Below.refl _ _ | exact (Below.refl _ _).drew | exact (Below.refl _ _).alloc (Nat.le_refl _) _ | exact ((Below.refl _ _).alloc (Nat.le_refl _) _).drew | exact ((Below.refl _ _).drew).alloc (by simp) _ | exact (((Below.refl _ _).drew).alloc (by simp) _).drew | exact (((Below.refl _ _).alloc (Nat.le_refl _) _).drew).drew)).mono ?_; rintro e w5 ⟨⟨ua, ul, uc, rfl, hO5⟩, hb5, h45, hs5⟩; have HB5 := Lib.hid hb5; have HO5 := Lib.hid hO5; have q5 := h45.size; (try (have HZ5 : Hid (w5.heap[W.heap.size]? = some (.cells #[.int .i64 0, .slice none 0 0] 26 (0, 0))) := (h45.block W.heap.size z4).trans HZ4.out; obtain ⟨z0, z1, y0, y1⟩ := two_cells HZ5.out)); (try (have HZ5 : Hid (w5.heap[w4.heap.size]? = some (.cells #[.int .i64 0, .slice none 0 0] 26 (0, 0))) := (hs5.block w4.heap.size (by simp)).trans (World.alloc_heap_new w4 _); obtain ⟨z0, z1, y0, y1⟩ := two_cells HZ5.out)); clear hO5 hb5 h45 hs5))
    all_goals
      go_wp2_with fail
      go_meet
      first
        | exact ⟨rfl, BoxG.new HO5.out HB5.out (by first | (simp; done) | (simp; omega) | omega)⟩
        | exact ⟨rfl, BoxG.old HO5.out HB5.out (by first | (simp; done) | (simp; omega) | omega) (by first | (simp; done) | (simp; omega) | omega) (by first | (simp; done) | (simp; omega) | omega) HZ5.out⟩
  case rest =>
    obtain ⟨rfl, k, u, rfl, hX, hO, hBW, hk, hne⟩ := hcut
    rw [HL.out, coneT_zero] at hO
    rw [HN.out] at hX
    rw [HCC.out]
    obtain ⟨g, cu, rfl, hg0, hg1⟩ := own_some8 hO (coneT_length zs 0) (by omega)
    have hkg : k ≠ g := fun e => hne (by simp [Value.ownBlock, e])
    have hX' := Lib.hid hX
    have HO0 := Lib.hid hO
    have qc := hBW.size
    have HBW := Lib.hid hBW
    obtain ⟨b0, b1, -, -⟩ := two_cells ((hBW.block w.heap.size (by omega)).trans HK.out)
    clear hX hO hBW hne a0 a1 HEM HBE
    go_wp2
    go_loopw [6, 19] (fun _ t wr => ∃ j : Nat, j ≤ zs.length ∧ t = .int .i64 j ∧ Hid (Own wr W.heap.size (.slice (some ⟨g, 0, none⟩) (zs.length + 1) cu) (coneT zs j)) ∧ Hid (wr.heap[k]? = some (.cells #[.int .i64 (zs.length + 1), .slice (some ⟨g, 0, none⟩) (zs.length + 1) cu] 26 (0, 0))) ∧ Hid (Below W.heap.size W wr)) (fun _ t _ => zs.length - (intOf t).toNat)
    case atStart => exact ⟨0, Nat.zero_le _, rfl, HO0, hX', HBW⟩
    case round =>
      obtain ⟨j, hj, rfl, HO, HX, HB⟩ := hrel
      have qr := HB.out.size
      obtain ⟨b0, b1, -, -⟩ := two_cells ((HB.out.block w.heap.size (by omega)).trans HK.out)
      obtain ⟨x0, x1, -, -⟩ := two_cells HX.out
      by_cases hlt : (j : Int) < zs.length
      · have hjl : j < zs.length := by omega
        have hkl := (Array.getElem?_eq_some_iff.1 HX.out).1
        have hB62 : (2 : Int) ^ (zs.length + 1) ≤ 2 ^ 62 := pow_le_pow _ _ (by omega)
        have hbd := fun a ha => coneT_bd HZI.out hj (a := a) ha
        have hte := turn_any W.heap.size g cu (zs.length + 1) (coneT zs j) j zs.length wr (by rw [coneT_length]; exact HO.out) (by rw [coneT_length]; omega) (by rw [coneT_length]; omega) (by omega) (by rw [coneT_length]; omega) (by have := hbd j (by omega); omega) (by have := hbd zs.length (by omega); omega)
        rw [coneT_length, coneT_flip HZI.out hjl] at hte
        have HTE := Lib.hid hte
        clear hte hB62 hbd
        go_wp2_with (go_at_call 65; refine HTE.out.mono ?_; rintro e w6 ⟨⟨v6, rfl⟩, hO6, hg6⟩)
        have HO6 := Lib.hid hO6
        have HX6 := Lib.hid ((hg6.block k hkl (by simp; omega)).trans HX.out)
        have HB6 := Lib.hid (HB.out.grown hg6 HB.out.size (fun q e => by cases e; omega))
        clear hO6 hg6 HTE x0 x1 b0 b1
        go_roundw
        case rel => exact ⟨j + 1, by omega, by go_num, HO6, HX6, HB6⟩
        case measure => simp [intOf]; omega
      · have hje : j = zs.length := by omega
        have HRr := Lib.hid ((HB.out.block (w.heap.size + 1) (by omega)).trans HR0.out)
        have HDr := Lib.hid (HD0.out.trans (HB.out.mono (by omega)))
        have HOf : Hid (Own wr W.heap.size (.slice (some ⟨g, 0, none⟩) (zs.length + 1) cu) (coneT zs zs.length)) := by
          have h := HO.out
          rw [hje] at h
          exact h
        subst hje
        obtain ⟨r0, r1, g0', g1'⟩ := two_cells HRr.out
        clear HO HB
        go_wp2
        have hfin := two_set (a := .int .i64 (zs.length + 1)) (b := .slice (some ⟨g, 0, none⟩) (zs.length + 1) cu) HRr.out
        refine bodyPost_ret (v := .tuple #[.agg #[.int .i64 (zs.length + 1), .slice (some ⟨g, 0, none⟩) (zs.length + 1) cu], .int .i64 0]) (results_cell2 (p := 2) (u := 3) (ty := 26) rfl _ _ (w.heap.size + 1) 26 _ (0, 0) _ rfl hfin Tryd.underlying26 rfl (by exact info27)) rfl ⟨⟨_, rfl, ?_⟩, ?_⟩
        · exact (HOf.out.base (by omega)).kept (grown_set (grown_set ⟨rfl, rfl, rfl, Nat.le_refl _, fun _ _ _ => rfl⟩ _ 0 _) _ 1 _) (.inr (by simp [Value.ownBlock]; omega))
        · exact (HDr.out.setCell (p := ⟨w.heap.size + 1, 0, none⟩) (by simp) _).setCell (p := ⟨w.heap.size + 1, 1, none⟩) (by simp) _

theorem implCo_any9 (n : Int) (v : Value) (zs : List Int) (w : World) (hs : Sl w v zs) (hl : zs.length ≤ 9223372036854775807) (hT : Tab w) :
    Calls Tryd.prog 23 #[.agg #[.int .i64 n, v]] w fun e w' => GRes w.heap.size (coN n zs) (coD n zs) (coC n zs) e w' ∧ Below w.heap.size w w' := by
  unfold coN coD coC coOk
  cases hg : isG n zs with
  | false => exact implCo_err n v zs w hs hl hT 1 (PB_no (by rw [hg]; rfl)).2.2 (by decide)
  | true =>
    obtain ⟨h1, _, h3, _⟩ := isG_parts hg
    by_cases hn : n ≤ 61
    · obtain ⟨b, off, cap, rfl, hb, hc⟩ := sl_some hs (by omega)
      obtain rfl : (zs.length : Int) = n := h3
      simp only [hn, decide_true, Bool.and_self, if_true]
      exact implCo_yes b off cap zs w hb hc hg hn hT
    · simp only [hn, decide_false, Bool.and_false, if_false, if_true, Bool.false_eq_true]
      exact implCo_err n v zs w hs hl hT 3 (PB_big hg one_g (by omega)).2.2 (by decide)
end Go.Proofs.YtabkfihhfkmioaaDoor
