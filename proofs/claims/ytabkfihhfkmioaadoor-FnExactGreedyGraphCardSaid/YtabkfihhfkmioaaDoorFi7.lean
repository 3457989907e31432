/-
  impl.filledGraph.
-/
import Derived.Test.YtabkfihhfkmioaaDoorPj7
import Derived.Test.YtabkfihhfkmioaaDoorTl7
import Derived.Test.YtabkfihhfkmioaaDoorCl9
namespace Go.Proofs.YtabkfihhfkmioaaDoor
set_option maxRecDepth 100000
set_option maxRecDepth 100000
open Go.RowKit Go.Shelf

attribute [local go_sem] Oper.semAt_some

set_option maxHeartbeats 6400000 in
theorem fillI_in (b off cap : Nat) (zs : List Int) (k c : Int) (w : World) (hb : b < w.heap.size) (hc : Cells w b off zs) (hT : Tab w) (hfit : FitD zs.length k zs) :
    CallsIn Fence.wide 7 Tryd.prog 95 #[.agg #[.int .i64 zs.length, .slice (some ⟨b, off, none⟩) zs.length cap], .int .i64 k, .int .i64 c] w fun e w' => (∃ u, e = .returned (.agg #[.int .i64 zs.length, u]) ∧ Own w' w.heap.size u (FR zs (pjV (FR zs) k c zs.length zs.length))) ∧ Below w.heap.size w w' := by
  obtain ⟨g1, g2, -, -, -⟩ := isG_parts hfit.2.1
  have h62 : zs.length ≤ 62 := by omega
  have hn0 : 0 < zs.length := by omega
  have HOK := Lib.hid (fill_ok (c := c) hfit)
  obtain ⟨W0, hW0⟩ : ∃ W0, W0 = (w.alloc (.cells #[.int .i64 zs.length, .slice (some ⟨b, off, none⟩) zs.length cap] 26)).alloc (.cells #[.int .i64 0, .slice none 0 0] 26) := ⟨_, rfl⟩
  have hsz : W0.heap.size = w.heap.size + 2 := by rw [hW0]; simp
  have D0 : Below w.heap.size w W0 := by rw [hW0]; exact ((Below.refl _ _).alloc (Nat.le_refl _) _).alloc (by simp) _
  have HG0 : Hid (W0.heap[w.heap.size]? = some (.cells #[.int .i64 zs.length, .slice (some ⟨b, off, none⟩) zs.length cap] 26 (0, 0))) := by show _ = _; rw [hW0]; exact heap_old_at (World.alloc_heap_new w _) _
  have HR0 : Hid (W0.heap[w.heap.size + 1]? = some (.cells #[.int .i64 0, .slice none 0 0] 26 (0, 0))) := by show _ = _; rw [hW0]; exact heap_new_at _ _ _ (by simp)
  have HCP : Hid (Calls Tryd.prog 71 #[.agg #[.int .i64 zs.length, .slice (some ⟨b, off, none⟩) zs.length cap]] W0 fun e w' => ∃ u, e = .returned (.agg #[.int .i64 zs.length, u]) ∧ Own w' W0.heap.size u zs ∧ Below W0.heap.size W0 w') :=
    copyOf_some zs.length b off cap zs W0 (by omega) (hc.below D0 hb) h62
  have HT0 := Lib.hid hT
  have HD0 := Lib.hid D0
  have hTl := hT.lt
  obtain ⟨a0, a1, -, -⟩ := two_cells HG0.out
  have HSZ := Lib.hid hsz
  have hsz2 : w.heap.size + 2 ≤ W0.heap.size := by omega
  clear hc hT hfit D0 hsz
  refine callsIn_of_wp_marks Tryd.func95 rfl trivial ?_ rfl
  simp only [Tryd.ntmps95, List.size_toArray, List.length_cons, List.length_nil, Nat.reduceAdd, Nat.reduceSub, Array.replicate_succ, Array.replicate_zero, List.push_toArray, List.append_toArray, List.nil_append, List.cons_append]
  gi_upto_region 1 with fail
  rw [← hW0]
  clear hW0
  gi_upto_region 2 with (refine ⟨trivial, ?_⟩; gi_at_call 71; refine (callsIn_wide.2 HCP.out).mono ?_; rintro e Y ⟨u, rfl, hOY, hbY⟩; obtain ⟨g, cu, rfl, hg0, hgY⟩ := own_some8 hOY rfl hn0)
  obtain ⟨Z, hZ⟩ : ∃ Z, Z = Y.alloc (.cells #[.int .i64 zs.length, .slice (some ⟨g, 0, none⟩) zs.length cu] 26) := ⟨_, rfl⟩
  rw [← hZ]
  have hbZ : Below W0.heap.size W0 Z := by rw [hZ]; exact hbY.alloc hbY.size _
  have hH : Z.heap[Y.heap.size]? = some (.cells #[.int .i64 zs.length, .slice (some ⟨g, 0, none⟩) zs.length cu] 26 (0, 0)) := by rw [hZ]; exact World.alloc_heap_new Y _
  have hO : Own Z W0.heap.size (.slice (some ⟨g, 0, none⟩) zs.length cu) zs := by rw [hZ]; exact hOY.below ((Below.refl _ _).alloc (Nat.le_refl _) _)
  have hg1 : g < Z.heap.size := by rw [hZ]; simp; omega
  have hH0 : W0.heap.size ≤ Y.heap.size := hbY.size
  have hHg : Y.heap.size ≠ g := by omega
  clear hZ hOY hbY hgY
  obtain ⟨H, hHe⟩ : ∃ H, H = Y.heap.size := ⟨_, rfl⟩
  rw [← hHe] at hH hH0 hHg ⊢
  clear hHe
  have sZ := hbZ.size
  have HBZ := Lib.hid (HD0.out.trans (hbZ.mono (by omega)))
  have HRZ := Lib.hid ((hbZ.block (w.heap.size + 1) (by omega)).trans HR0.out)
  have hHl := (Array.getElem?_eq_some_iff.1 hH).1
  obtain ⟨z0, z1, -, -⟩ := two_cells hH
  have HHZ := Lib.hid hH
  have HOZ := Lib.hid hO
  clear a0 a1 hH hO HCP
  gi_wp2_with (refine ⟨trivial, ?_⟩; gi_at_call 119; refine (callsIn_wide.2 (pairsToJoin_any _ _ _ _ _)).mono ?_; rintro e w' ⟨rfl, rfl⟩)
  obtain ⟨Wm, hWm⟩ : ∃ Wm, Wm = ((Z.alloc (.cells #[.int .i64 zs.length, .slice (some ⟨g, 0, none⟩) zs.length cu] 26)).alloc (.cells #[.int .i64 k] 2)).alloc (.cells #[.int .i64 c] 2) := ⟨_, rfl⟩
  refine at_world (w' := Wm) ?_ (by rw [hWm])
  have hbm : Below Z.heap.size Z Wm := by rw [hWm]; exact (((Below.refl _ _).alloc (Nat.le_refl _) _).alloc (by simp) _).alloc (by simp; omega) _
  have sm : Wm.heap.size = Z.heap.size + 3 := by rw [hWm]; simp
  have hA : Hid (Wm.heap[Z.heap.size]? = some (.cells #[.int .i64 zs.length, .slice (some ⟨g, 0, none⟩) zs.length cu] 26 (0, 0))) := by show _ = _; rw [hWm]; exact heap_old_at (heap_old_at (World.alloc_heap_new Z _) _) _
  have hK : Hid (Wm.heap[Z.heap.size + 1]? = some (.cells #[.int .i64 k] 2 (0, 0))) := by show _ = _; rw [hWm]; exact heap_old_at (heap_new_at _ _ _ (by simp)) _
  have hC : Hid (Wm.heap[Z.heap.size + 2]? = some (.cells #[.int .i64 c] 2 (0, 0))) := by show _ = _; rw [hWm]; exact heap_new_at _ _ _ (by simp)
  have HHM : Hid (Wm.heap[H]? = some (.cells #[.int .i64 zs.length, .slice (some ⟨g, 0, none⟩) zs.length cu] 26 (0, 0))) := (hbm.block _ hHl).trans HHZ.out
  have HRM : Hid (Wm.heap[w.heap.size + 1]? = some (.cells #[.int .i64 0, .slice none 0 0] 26 (0, 0))) := (hbm.block _ (by omega)).trans HRZ.out
  have HOM : Hid (Own Wm W0.heap.size (.slice (some ⟨g, 0, none⟩) zs.length cu) zs) := HOZ.out.below hbm
  have HBM : Hid (Below w.heap.size w Wm) := HBZ.out.trans (hbm.mono (by omega))
  have HSM := Lib.hid sm
  have sm2 : Z.heap.size + 3 ≤ Wm.heap.size := by omega
  clear hWm z0 z1 HHZ HRZ HOZ HBZ sm
  refine wpIn_rangeO rfl (by omega) (gf := 132) (lb := #[.pointer (some ⟨Z.heap.size, 0, none⟩), .pointer (some ⟨Z.heap.size + 1, 0, none⟩), .pointer (some ⟨Z.heap.size + 2, 0, none⟩)]) rfl trivial (enters_of Tryd.func132 (by kernel_rfl) rfl)
    (pairs_stops 6 (by omega) Z.heap.size (Z.heap.size + 1) (Z.heap.size + 2) g 0 cu zs.length k c (FR zs) HOK.out Wm) (fun _ _ => trivial) (fun _ _ _ _ _ _ _ _ => trivial) (Below.refl _ _) (fun _ => rfl)
    (fun A pre X => Hid (Own X W0.heap.size (.slice (some ⟨g, 0, none⟩) zs.length cu) (FR zs pre)) ∧ Hid (X.heap[H]? = some (.cells #[.int .i64 zs.length, .slice (some ⟨g, 0, none⟩) zs.length cu] 26 (0, 0))) ∧ Hid (Below w.heap.size w X) ∧ Wm.heap.size ≤ X.heap.size ∧ Hid (X.heap[Z.heap.size]? = some (.cells #[.int .i64 zs.length, .slice (some ⟨g, 0, none⟩) zs.length cu] 26 (0, 0))) ∧ Hid (X.heap[Z.heap.size + 1]? = some (.cells #[.int .i64 k] 2 (0, 0))) ∧ Hid (X.heap[Z.heap.size + 2]? = some (.cells #[.int .i64 c] 2 (0, 0))) ∧ Hid (X.heap[w.heap.size + 1]? = some (.cells #[.int .i64 0, .slice none 0 0] 26 (0, 0))) ∧ Hid (∀ q, q ∈ A → q < X.heap.size))
    (fun _ _ _ => False)
    ?hI (fun _ _ _ _ _ hs _ _ => hs) ?hgr ?hRdd ?h0c (fun x => { tmps := #[.agg #[.int .i64 zs.length, .slice (some ⟨b, off, none⟩) zs.length cap], .int .i64 k, .int .i64 c, .pointer (some ⟨w.heap.size, 0, none⟩), undef, undef, .pointer (some ⟨w.heap.size + 1, 0, none⟩), .pointer (some ⟨H, 0, none⟩), .int .i64 x.1, .int .i64 x.2, .agg #[.int .i64 zs.length, .slice (some ⟨b, off, none⟩) zs.length cap], .agg #[.int .i64 zs.length, .slice (some ⟨g, 0, none⟩) zs.length cu], .agg #[.int .i64 zs.length, .slice (some ⟨g, 0, none⟩) zs.length cu], .int .i64 k, .int .i64 c, .func (.func 132) #[] #[.pointer (some ⟨Z.heap.size, 0, none⟩), .pointer (some ⟨Z.heap.size + 1, 0, none⟩), .pointer (some ⟨Z.heap.size + 2, 0, none⟩)], .int .i64 x.1, .int .i64 x.2, undef, undef, undef, undef, undef], defers := [] }) ?assign ?body ?done ?stop
  case hI =>
    rintro A pre X Y row ⟨h1, h2, h3, h4, h5, h6, h7, h8, h9⟩ hg hr
    exact ⟨h1.out.kept hg (.inr (fun e => by have := (hr g (by simpa [Value.ownBlock] using e.symm)).1; omega)), kept_rowP hg hr (by omega) h2.out, h3.out.grown hg h3.out.size (fun q e => by have := (hr q e).1; omega), Nat.le_trans h4 hg.size, kept_rowP hg hr (by omega) h5.out, kept_rowP hg hr (by omega) h6.out, kept_rowP hg hr (by omega) h7.out, kept_rowP hg hr (by omega) h8.out, fun q hq => Nat.lt_of_lt_of_le (h9.out q hq) hg.size⟩
  case hgr =>
    rintro A pre X o hsX ⟨h1, h2, h3, h4, h5, h6, h7, h8, h9⟩
    have hbX : Below X.heap.size X (X.alloc o) := (Below.refl _ _).alloc (Nat.le_refl _) _
    have lo : ∀ {q : Nat} {ob : Obj}, X.heap[q]? = some ob → (X.alloc o).heap[q]? = some ob := fun h => (hbX.block _ (Array.getElem?_eq_some_iff.1 h).1).trans h
    exact ⟨h1.out.below hbX, lo h2.out, h3.out.alloc h3.out.size _, by simp; omega, lo h5.out, lo h6.out, lo h7.out, lo h8.out, fun q hq => (List.mem_cons.1 hq).elim (fun e => by rw [e]; simp) (fun h => Nat.lt_of_lt_of_le (h9.out q h) (by simp))⟩
  case hRdd =>
    rintro A pre X ⟨h1, h2, h3, h4, h5, h6, h7, h8, h9⟩
    exact ⟨h5.out, by rw [cell_of_row X (Z.heap.size + 1) 0 _ _ _ h6.out]; rfl, by rw [cell_of_row X (Z.heap.size + 2) 0 _ _ _ h7.out]; rfl, own_cells8 h1.out (FR_length _ _), HT0.out.belowAll h3.out, by omega⟩
  case h0c => exact ⟨HOM, HHM, HBM, Nat.le_refl _, hA, hK, hC, HRM, fun _ h => by cases h⟩
  case assign =>
    intro l y W K hK
    gi_wp2
    exact hK
  case body =>
    rintro l A pre x W5 _ _ ⟨h1, h2, h3, h4, h5, h6, h7, h8, h9⟩ hAl _ ⟨x1, x2, x3, x4⟩
    have hl := FR_length zs pre
    have hfit := (HOK.out x.1 (by omega)).2 x.2 (by omega)
    rw [← x3] at hfit
    obtain ⟨-, q2, -⟩ := hfit
    have hzx := isG_row_ok q2 x.1 (by omega)
    have hzy := isG_row_ok q2 x.2 (by omega)
    have hte := turn_any W0.heap.size g cu zs.length (FR zs pre) x.1 x.2 W5 (by rw [hl]; exact h1.out) (by omega) (by omega) (by omega) (by omega) hzx hzy
    rw [hl, ← FR_snoc] at hte
    have HTE := Lib.hid hte
    obtain ⟨gO, hgc, hgk⟩ := ownsRow_cells h1.out g rfl
    obtain ⟨z0, z1, -, -⟩ := two_cells h2.out
    have HGC := Lib.hid hgc
    clear hte hl hzx hzy q2 x3 x4 hgc
    obtain ⟨v1, v2⟩ := x
    gi_wp2_with (refine ⟨trivial, ?_⟩; gi_at_call 65; refine (CallsIn.inRound l (callsIn_wide.2 HTE.out)).mono ?_; rintro e w6 ⟨⟨_, rfl⟩, hO6, hg6⟩)
    have s6 := hg6.size
    have lo : ∀ {q : Nat} {ob : Obj}, q ≠ g → W5.heap[q]? = some ob → w6.heap[q]? = some ob := fun hq h => (hg6.block _ (Array.getElem?_eq_some_iff.1 h).1 (fun e => by injection e with e; exact hq e)).trans h
    refine ⟨keeps_grown hg6 (fun r e => by cases e; exact ⟨gO, HGC.out, hgk⟩), ⟨trivial, fun q hq => hg6.block q (h9.out q hq) (fun e => by injection e with e; have := hAl q hq; omega)⟩, hO6, lo hHg h2.out, h3.out.grown hg6 h3.out.size (fun q e => by cases e; omega), by omega, lo (by omega) h5.out, lo (by omega) h6.out, lo (by omega) h7.out, lo (by omega) h8.out, fun q hq => Nat.lt_of_lt_of_le (h9.out q hq) s6⟩
  case done =>
    rintro D A ys W2 hDD rfl ⟨h1, h2, h3, h4, h5, h6, h7, h8, h9⟩ hK
    obtain ⟨z0, z1, -, -⟩ := two_cells h2.out
    obtain ⟨r0, r1, f0, f1⟩ := two_cells h8.out
    gi_wp2
    have hg : W2.grownBy ((W2.setCell ⟨w.heap.size + 1, 0, none⟩ (.int .i64 zs.length)).setCell ⟨w.heap.size + 1, 1, none⟩ (.slice (some ⟨g, 0, none⟩) zs.length cu)) (some (w.heap.size + 1)) := grown_set (grown_set ⟨rfl, rfl, rfl, Nat.le_refl _, fun _ _ _ => rfl⟩ _ 0 _) _ 1 _
    have hDl := (Array.getElem?_eq_some_iff.1 hK).1
    have hK3 := (hg.block D hDl (fun e => by injection e with e; omega)).trans hK
    have hfin := two_set (a := .int .i64 zs.length) (b := .slice (some ⟨g, 0, none⟩) zs.length cu) h8.out
    have hO3 := h1.out.kept hg (.inr (by simp [Value.ownBlock]; omega))
    have hB3 : Below w.heap.size w ((W2.setCell ⟨w.heap.size + 1, 0, none⟩ (.int .i64 zs.length)).setCell ⟨w.heap.size + 1, 1, none⟩ (.slice (some ⟨g, 0, none⟩) zs.length cu)) := (h3.out.setCell (p := ⟨w.heap.size + 1, 0, none⟩) (by simp) _).setCell (p := ⟨w.heap.size + 1, 1, none⟩) (by simp) _
    refine leaves_marks (H := w.heap.size) [D] _ ⟨by simp, fun E hE => ?_⟩ fun W' hss hb' => ?_
    · obtain rfl : E = D := by simpa using hE
      exact ⟨by omega, hK3⟩
    · have hf2 := (hss (w.heap.size + 1) (by simp; omega)).trans hfin
      refine ⟨_, results_cell_row (p := 6) (ty := 26) rfl _ W' (w.heap.size + 1) 26 _ (0, 0) _ rfl hf2 Tryd.underlying26 rfl (by exact info27), ⟨_, rfl, ?_⟩, hB3.trans hb'⟩
      exact (hO3.kept (row := some D) ⟨hb'.os, hb'.tape, hb'.output, hb'.size, fun k _ hne => hss k (fun e => hne (by simpa using e))⟩ (.inr (by simp [Value.ownBlock]; omega))).base (by omega)
  case stop =>
    rintro D c pre W _ _ h _
    exact h.elim
end Go.Proofs.YtabkfihhfkmioaaDoor
