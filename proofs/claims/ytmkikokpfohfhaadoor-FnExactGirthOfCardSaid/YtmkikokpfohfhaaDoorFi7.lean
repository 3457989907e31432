/-
  impl.filledGraph.
-/
import Derived.Test.YtmkikokpfohfhaaDoorPj7
import Derived.Test.YtmkikokpfohfhaaDoorTl7
namespace Go.Proofs.YtmkikokpfohfhaaDoor
set_option maxRecDepth 100000
open Go.RowKit Go.Shelf

/-- What Clone leaves. -/
def ClonedT (w : World) (L : List Int) (e : Ending) (w' : World) : Prop := ∃ u, e = .returned u ∧ Own w' w.heap.size u L
set_option maxHeartbeats 800000 in
theorem cloneT_some (b off cap : Nat) (zs : List Int) (w : World) (hb : b < w.heap.size) (hc : Cells w b off zs) (hl : zs.length ≤ 62) :
    Calls Tryd.prog 90 #[.slice (some ⟨b, off, none⟩) zs.length cap] w fun e w' => ClonedT w zs e w' ∧ Below w.heap.size w w' := by
  have hq := fun W => Lib.run_eql_slice_nil (P := Tryd.prog) W 22 2 (some ⟨b, off, none⟩) zs.length cap 0 0 Tryd.underlying22
  obtain ⟨i0, hi, hz0, hz1, hz2⟩ := info_parts mk_info
  have HI := Lib.hid hi; have HI0 := Lib.hid hz0; have HI1 := Lib.hid hz1; have HI2 := Lib.hid hz2
  clear hi hz0 hz1 hz2
  have D0 : Below w.heap.size w (w.alloc (.cells #[] 2)) := (Below.refl _ _).alloc (Nat.le_refl _) _
  have hnil : (w.alloc (.cells #[] 2)).ownsRow w.heap.size 2 1 (.slice (some ⟨w.heap.size, 0, none⟩) 0 0) 0 [] := World.ownsRow_made w #[] 0 (base := w.heap.size) (e := 2) (size := 1) (Nat.le_refl _) (by decide) rfl
  have hcc := Lib.hid (hc.below D0 hb)
  have hnews : ∀ j u, (zs.map (Value.int .i64))[j]? = some u → (w.alloc (.cells #[] 2)).cell? ((⟨b, off, none⟩ : Addr).add j) = some u := by
    intro j u hj
    have hjl : j < zs.length := by
      have := (List.getElem?_eq_some_iff.1 hj).1
      simpa using this
    rw [map_at zs j hjl] at hj
    cases hj
    have hz := hcc.out j hjl
    simp only [Addr.add]
    split
    · rename_i h0; subst h0; simpa using hz
    · exact hz
  have HN := Lib.hid hnews
  have HW := Lib.hid hnil
  clear hnews hnil hc
  go_enter Tryd.func90, Tryd.ntmps90
  go_wp2_with (at_builtin; refine wpList_append_own _ rfl _ _ 22 rfl w.heap.size 2 i0 (.int .i64 0) 1 8 Tryd.underlying22 HI.out HI0.out HI1.out HI2.out rfl (by decide) _ _ _ rfl HW.out ⟨b, off, none⟩ zs.length cap (zs.map (Value.int .i64)) rfl (by simp) HN.out (by simp [Value.oneCell']) (by unfold maxLen; omega) (by omega) (by simp) ?_; intro u' w3 hown3 hgr3 _)
  have E3 := D0.grown hgr3 (by simp) (fun k e => (World.ownsRow.lt HW.out k e).1)
  have HO : Hid (Own w3 w.heap.size u' zs) := by
    show World.ownsRow _ _ _ _ _ _ _
    rw [Nat.zero_add, List.nil_append] at hown3
    exact hown3
  clear hown3 hgr3
  go_wp2
  go_ret
  exact ⟨⟨_, rfl, HO.out⟩, E3⟩


theorem own_some8 {w : World} {B : Nat} {u : Value} {L : List Int} {m : Nat} (h : Own w B u L) (hl : L.length = m) (hm : 0 < m) : ∃ g cap, u = .slice (some ⟨g, 0, none⟩) m cap ∧ B ≤ g ∧ g < w.heap.size := by
  subst hl
  rcases h.form with ⟨_, h0⟩ | ⟨g, cap, h1, h2, h3⟩
  · rw [h0] at hm; cases hm
  · exact ⟨g, cap, h1, h2, h3⟩
theorem own_cells8 {w : World} {B g cap m : Nat} {L : List Int} (h : Own w B (.slice (some ⟨g, 0, none⟩) m cap) L) (hl : L.length = m) : Cells w g 0 L := fun i hi => by
  subst hl
  rw [Nat.zero_add]
  exact (World.ownsRow.cellAt h i (by simpa using hi)).trans (map_at L i hi)

/-- What the copy's making leaves: the box of the graph that is filled, and its rows. -/
def FilB (W0 : World) (n : Nat) (zs : List Int) (t : Value) (X : World) : Prop := ∃ H g cu : Nat, t = .pointer (some ⟨H, 0, none⟩) ∧ X.heap[H]? = some (.cells #[.int .i64 n, .slice (some ⟨g, 0, none⟩) n cu] 28 (0, 0)) ∧ Own X W0.heap.size (.slice (some ⟨g, 0, none⟩) n cu) zs ∧ Below W0.heap.size W0 X ∧ W0.heap.size ≤ H ∧ W0.heap.size ≤ g ∧ g < X.heap.size ∧ H ≠ g

theorem FilB.a {W0 w5 : World} {n ug cu : Nat} {zs : List Int} (hO : Own w5 W0.drew.heap.size (.slice (some ⟨ug, 0, none⟩) n cu) zs) (hb5 : Below W0.drew.heap.size W0.drew w5) (h0 : W0.drew.heap.size ≤ ug) (h1 : ug < w5.heap.size) :
    FilB W0 n zs (.pointer (some ⟨w5.heap.size, 0, none⟩)) (w5.alloc (.cells #[.int .i64 n, .slice (some ⟨ug, 0, none⟩) n cu] 28)) := by
  have e : W0.drew.heap.size = W0.heap.size := rfl
  have hs := hb5.size
  have hb : Below W0.heap.size W0 w5 := ((Below.refl _ _).drew).trans (hb5.mono (by omega))
  exact ⟨w5.heap.size, ug, cu, rfl, World.alloc_heap_new w5 _, (hO.base (by omega)).below ((Below.refl _ _).alloc (Nat.le_refl _) _), hb.alloc hb.size _, by omega, by omega, by simp; omega, by omega⟩
theorem FilB.b {W0 w5 : World} {n ug cu : Nat} {zs : List Int} (hO : Own w5 (World.drew (W0.alloc (.cells #[.int .i64 0, .slice none 0 0] 28))).heap.size (.slice (some ⟨ug, 0, none⟩) n cu) zs) (hb5 : Below (World.drew (W0.alloc (.cells #[.int .i64 0, .slice none 0 0] 28))).heap.size (World.drew (W0.alloc (.cells #[.int .i64 0, .slice none 0 0] 28))) w5)
    (qq : w5.heap[W0.heap.size]? = some (.cells #[.int .i64 0, .slice none 0 0] 28 (0, 0))) (h0 : (World.drew (W0.alloc (.cells #[.int .i64 0, .slice none 0 0] 28))).heap.size ≤ ug) (h1 : ug < w5.heap.size) :
    FilB W0 n zs (.pointer (some ⟨W0.heap.size, 0, none⟩)) ((w5.setCell ⟨W0.heap.size, 0, none⟩ (.int .i64 n)).setCell ⟨W0.heap.size, 1, none⟩ (.slice (some ⟨ug, 0, none⟩) n cu)) := by
  have e : (World.drew (W0.alloc (.cells #[.int .i64 0, .slice none 0 0] 28))).heap.size = W0.heap.size + 1 := by simp
  have hs := hb5.size
  have hb : Below W0.heap.size W0 w5 := (((Below.refl _ W0).alloc (Nat.le_refl _) (.cells #[.int .i64 0, .slice none 0 0] 28)).drew).trans (hb5.mono (by omega))
  have hg : w5.grownBy ((w5.setCell ⟨W0.heap.size, 0, none⟩ (.int .i64 n)).setCell ⟨W0.heap.size, 1, none⟩ (.slice (some ⟨ug, 0, none⟩) n cu)) (some W0.heap.size) := grown_set (grown_set ⟨rfl, rfl, rfl, Nat.le_refl _, fun _ _ _ => rfl⟩ _ 0 _) _ 1 _
  exact ⟨W0.heap.size, ug, cu, rfl, two_set qq, (hO.base (by omega)).kept hg (.inr (by simp [Value.ownBlock]; omega)), (hb.setCell (p := ⟨W0.heap.size, 0, none⟩) (by simp) _).setCell (p := ⟨W0.heap.size, 1, none⟩) (by simp) _, Nat.le_refl _, by omega, by simp; omega, by omega⟩

attribute [local go_sem] Oper.semAt_some

set_option maxHeartbeats 6400000 in
theorem fillI_in (b off cap : Nat) (zs : List Int) (k c : Int) (w : World) (hb : b < w.heap.size) (hc : Cells w b off zs) (hT : Tab w) (hfit : FitD zs.length k zs) :
    CallsIn Fence.wide 7 Tryd.prog 59 #[.agg #[.int .i64 zs.length, .slice (some ⟨b, off, none⟩) zs.length cap], .int .i64 k, .int .i64 c] w fun e w' => (∃ u, e = .returned (.agg #[.int .i64 zs.length, u]) ∧ Own w' w.heap.size u (FR zs (pjV (FR zs) k c zs.length zs.length))) ∧ Below w.heap.size w w' := by
  obtain ⟨g1, g2, -, -, -⟩ := isG_parts hfit.2.1
  have h62 : zs.length ≤ 62 := by omega
  have hn0 : 0 < zs.length := by omega
  have HOK := Lib.hid (fill_ok (c := c) hfit)
  obtain ⟨W0, hW0⟩ : ∃ W0, W0 = (w.alloc (.cells #[.int .i64 zs.length, .slice (some ⟨b, off, none⟩) zs.length cap] 28)).alloc (.cells #[.int .i64 0, .slice none 0 0] 28) := ⟨_, rfl⟩
  have hsz : W0.heap.size = w.heap.size + 2 := by rw [hW0]; simp
  have D0 : Below w.heap.size w W0 := by rw [hW0]; exact ((Below.refl _ _).alloc (Nat.le_refl _) _).alloc (by simp) _
  have HG0 : Hid (W0.heap[w.heap.size]? = some (.cells #[.int .i64 zs.length, .slice (some ⟨b, off, none⟩) zs.length cap] 28 (0, 0))) := by show _ = _; rw [hW0]; exact heap_old_at (World.alloc_heap_new w _) _
  have HR0 : Hid (W0.heap[w.heap.size + 1]? = some (.cells #[.int .i64 0, .slice none 0 0] 28 (0, 0))) := by show _ = _; rw [hW0]; exact heap_new_at _ _ _ (by simp)
  have HCL : Hid (∀ W, Below W0.heap.size W0 W → Calls Tryd.prog 90 #[.slice (some ⟨b, off, none⟩) zs.length cap] W fun e w' => ClonedT W zs e w' ∧ Below W.heap.size W w') := fun W h =>
    cloneT_some b off cap zs W (Nat.lt_of_lt_of_le (show b < W0.heap.size by omega) h.size) ((hc.below D0 hb).below h (by omega)) h62
  have HT0 := Lib.hid hT
  have HD0 := Lib.hid D0
  have hTl := hT.lt
  obtain ⟨a0, a1, -, -⟩ := two_cells HG0.out
  have HSZ := Lib.hid hsz
  have hsz2 : w.heap.size + 2 ≤ W0.heap.size := by omega
  clear hc hT hfit D0 hsz
  refine callsIn_of_wp_marks Tryd.func59 rfl trivial ?_ rfl
  simp only [Tryd.ntmps59, List.size_toArray, List.length_cons, List.length_nil, Nat.reduceAdd, Nat.reduceSub, Array.replicate_succ, Array.replicate_zero, List.push_toArray, List.append_toArray, List.nil_append, List.cons_append]
  gi_upto_region 1 with fail
  rw [← hW0]
  clear hW0
  gi_cut [7] from 10 (fun t wx => FilB W0 zs.length zs t wx)
  case first =>
    have hmix := mixed
    have p1 : w.heap.size < W0.heap.size := by omega
    have p2 : ¬ w.heap.size = W0.heap.size := by omega
    have p3 : ¬ W0.heap.size = w.heap.size := by omega
    refine wpIn_calm ?_
    gi_region_with_o (first
      | (refine ⟨trivial, ?_⟩; gi_at_call 90; refine (callsIn_wide.2 (HCL.out _ (by first | exact (Below.refl _ _).drew | exact ((Below.refl _ _).alloc (Nat.le_refl _) _).drew | exact ((Below.refl _ _).drew).alloc (by simp) _))).mono ?_; rintro e w5 ⟨⟨u, rfl, hO⟩, hb5⟩; obtain ⟨ug, cu, rfl, hu0, hu1⟩ := own_some8 hO rfl hn0; obtain ⟨c0, c1, -, -⟩ := two_cells ((hb5.block w.heap.size (by simp; omega)).trans (by first | exact HG0.out | exact heap_old_at HG0.out _)); have q0 : W0.heap.size ≤ w5.heap.size := Nat.le_trans (by simp) hb5.size; have q1 : w.heap.size < w5.heap.size := (by omega); have q2 : ¬ w.heap.size = w5.heap.size := (by omega); have q3 : ¬ w5.heap.size = w.heap.size := (by omega); (try (have qq : w5.heap[W0.heap.size]? = some (.cells #[.int .i64 0, .slice none 0 0] 28 (0, 0)) := (hb5.block W0.heap.size (show W0.heap.size < (World.drew (W0.alloc (.cells #[.int .i64 0, .slice none 0 0] 28))).heap.size by simp)).trans (World.alloc_heap_new W0 _); obtain ⟨r0, r1, f0, f1⟩ := two_cells qq))))
    all_goals
      gi_wp2_with fail
      gi_meet
      first
        | exact FilB.a hO hb5 hu0 hu1
        | exact FilB.b hO hb5 qq hu0 hu1
  case rest =>
  obtain ⟨H, g, cu, rfl, hH, hO, hbZ, hH0, hg0, hg1, hHg⟩ := hcut
  obtain ⟨Z, rfl⟩ : ∃ Z : World, Z = wc := ⟨_, rfl⟩
  have sZ := hbZ.size
  have HBZ := Lib.hid (HD0.out.trans (hbZ.mono (by omega)))
  have HRZ := Lib.hid ((hbZ.block (w.heap.size + 1) (by omega)).trans HR0.out)
  have hHl := (Array.getElem?_eq_some_iff.1 hH).1
  obtain ⟨z0, z1, -, -⟩ := two_cells hH
  have HHZ := Lib.hid hH
  have HOZ := Lib.hid hO
  clear a0 a1 hH hO HCL
  gi_wp2_with (refine ⟨trivial, ?_⟩; gi_at_call 56; refine (callsIn_wide.2 (pairsToJoin_any _ _ _ _ _)).mono ?_; rintro e w' ⟨rfl, rfl⟩)
  obtain ⟨Wm, hWm⟩ : ∃ Wm, Wm = ((Z.alloc (.cells #[.int .i64 zs.length, .slice (some ⟨g, 0, none⟩) zs.length cu] 28)).alloc (.cells #[.int .i64 k] 2)).alloc (.cells #[.int .i64 c] 2) := ⟨_, rfl⟩
  refine at_world (w' := Wm) ?_ (by rw [hWm])
  have hbm : Below Z.heap.size Z Wm := by rw [hWm]; exact (((Below.refl _ _).alloc (Nat.le_refl _) _).alloc (by simp) _).alloc (by simp; omega) _
  have sm : Wm.heap.size = Z.heap.size + 3 := by rw [hWm]; simp
  have hA : Hid (Wm.heap[Z.heap.size]? = some (.cells #[.int .i64 zs.length, .slice (some ⟨g, 0, none⟩) zs.length cu] 28 (0, 0))) := by show _ = _; rw [hWm]; exact heap_old_at (heap_old_at (World.alloc_heap_new Z _) _) _
  have hK : Hid (Wm.heap[Z.heap.size + 1]? = some (.cells #[.int .i64 k] 2 (0, 0))) := by show _ = _; rw [hWm]; exact heap_old_at (heap_new_at _ _ _ (by simp)) _
  have hC : Hid (Wm.heap[Z.heap.size + 2]? = some (.cells #[.int .i64 c] 2 (0, 0))) := by show _ = _; rw [hWm]; exact heap_new_at _ _ _ (by simp)
  have HHM : Hid (Wm.heap[H]? = some (.cells #[.int .i64 zs.length, .slice (some ⟨g, 0, none⟩) zs.length cu] 28 (0, 0))) := (hbm.block _ hHl).trans HHZ.out
  have HRM : Hid (Wm.heap[w.heap.size + 1]? = some (.cells #[.int .i64 0, .slice none 0 0] 28 (0, 0))) := (hbm.block _ (by omega)).trans HRZ.out
  have HOM : Hid (Own Wm W0.heap.size (.slice (some ⟨g, 0, none⟩) zs.length cu) zs) := HOZ.out.below hbm
  have HBM : Hid (Below w.heap.size w Wm) := HBZ.out.trans (hbm.mono (by omega))
  have HSM := Lib.hid sm
  have sm2 : Z.heap.size + 3 ≤ Wm.heap.size := by omega
  clear hWm z0 z1 HHZ HRZ HOZ HBZ sm
  refine wpIn_rangeO rfl (by omega) (gf := 86) (lb := #[.pointer (some ⟨Z.heap.size, 0, none⟩), .pointer (some ⟨Z.heap.size + 1, 0, none⟩), .pointer (some ⟨Z.heap.size + 2, 0, none⟩)]) rfl trivial (enters_of Tryd.func86 (by kernel_rfl) rfl)
    (pairs_stops 6 (by omega) Z.heap.size (Z.heap.size + 1) (Z.heap.size + 2) g 0 cu zs.length k c (FR zs) HOK.out Wm) (fun _ _ => trivial) (fun _ _ _ _ _ _ _ _ => trivial) (Below.refl _ _) (fun _ => rfl)
    (fun A pre X => Hid (Own X W0.heap.size (.slice (some ⟨g, 0, none⟩) zs.length cu) (FR zs pre)) ∧ Hid (X.heap[H]? = some (.cells #[.int .i64 zs.length, .slice (some ⟨g, 0, none⟩) zs.length cu] 28 (0, 0))) ∧ Hid (Below w.heap.size w X) ∧ Wm.heap.size ≤ X.heap.size ∧ Hid (X.heap[Z.heap.size]? = some (.cells #[.int .i64 zs.length, .slice (some ⟨g, 0, none⟩) zs.length cu] 28 (0, 0))) ∧ Hid (X.heap[Z.heap.size + 1]? = some (.cells #[.int .i64 k] 2 (0, 0))) ∧ Hid (X.heap[Z.heap.size + 2]? = some (.cells #[.int .i64 c] 2 (0, 0))) ∧ Hid (X.heap[w.heap.size + 1]? = some (.cells #[.int .i64 0, .slice none 0 0] 28 (0, 0))) ∧ Hid (∀ q, q ∈ A → q < X.heap.size))
    (fun _ _ _ => False)
    ?hI (fun _ _ _ _ _ hs _ _ => hs) ?hgr ?hRdd ?h0c (fun x => { tmps := #[.agg #[.int .i64 zs.length, .slice (some ⟨b, off, none⟩) zs.length cap], .int .i64 k, .int .i64 c, .pointer (some ⟨w.heap.size, 0, none⟩), undef, undef, .pointer (some ⟨w.heap.size + 1, 0, none⟩), .pointer (some ⟨H, 0, none⟩), .int .i64 x.1, .int .i64 x.2, u10, u11, u12, u13, u14, u15, .agg #[.int .i64 zs.length, .slice (some ⟨g, 0, none⟩) zs.length cu], .int .i64 k, .int .i64 c, .func (.func 86) #[] #[.pointer (some ⟨Z.heap.size, 0, none⟩), .pointer (some ⟨Z.heap.size + 1, 0, none⟩), .pointer (some ⟨Z.heap.size + 2, 0, none⟩)], .int .i64 x.1, .int .i64 x.2, u22, u23, u24, u25, u26], defers := [] }) ?assign ?body ?done ?stop
  case hI =>
    rintro A pre X Y row ⟨h1, h2, h3, h4, h5, h6, h7, h8, h9⟩ hg hr
    exact ⟨h1.out.kept hg (.inr (fun e => by have := (hr g (by simpa [Value.ownBlock] using e.symm)).1; omega)), kept_rowP hg hr (by omega) h2.out, h3.out.grown hg h3.out.size (fun q e => by have := (hr q e).1; omega), Nat.le_trans h4 hg.size, kept_rowP hg hr (by omega) h5.out, kept_rowP hg hr (by omega) h6.out, kept_rowP hg hr (by omega) h7.out, kept_rowP hg hr (by omega) h8.out, fun q hq => Nat.lt_of_lt_of_le (h9.out q hq) hg.size⟩
  case hgr =>
    rintro A pre X o hsX ⟨h1, h2, h3, h4, h5, h6, h7, h8, h9⟩
    have hbX : Below X.heap.size X (X.alloc o) := (Below.refl _ _).alloc (Nat.le_refl _) _
    have lo : ∀ {q : Nat} {ob : Obj}, X.heap[q]? = some ob → (X.alloc o).heap[q]? = some ob := fun h => (hbX.block _ (Array.getElem?_eq_some_iff.1 h).1).trans h
    exact ⟨h1.out.below hbX, lo h2.out, h3.out.alloc h3.out.size _, by simp; omega, lo h5.out, lo h6.out, lo h7.out, lo h8.out, fun q hq => (List.mem_cons.1 hq).elim (fun e => by rw [e]; simp) (fun h => Nat.lt_of_lt_of_le (h9.out q h) (by simp))⟩
  case hRdd =>
    rintro A pre X ⟨h1, h2, h3, h4, h5, h6, h7, h8, h9⟩
    exact ⟨h5.out, by rw [cell_of_row X (Z.heap.size + 1) 0 _ _ _ h6.out]; rfl, by rw [cell_of_row X (Z.heap.size + 2) 0 _ _ _ h7.out]; rfl, own_cells8 h1.out (FR_length _ _), HT0.out.belowAll h3.out, by omega⟩
  case h0c => exact ⟨HOM, HHM, HBM, Nat.le_refl _, hA, hK, hC, HRM, fun _ h => by cases h⟩
  case assign =>
    intro l y W K hK
    gi_wp2
    exact hK
  case body =>
    rintro l A pre x W5 _ _ ⟨h1, h2, h3, h4, h5, h6, h7, h8, h9⟩ hAl _ ⟨x1, x2, x3, x4⟩
    have hl := FR_length zs pre
    have hfit := (HOK.out x.1 (by omega)).2 x.2 (by omega)
    rw [← x3] at hfit
    obtain ⟨-, q2, -⟩ := hfit
    have hzx := isG_row_ok q2 x.1 (by omega)
    have hzy := isG_row_ok q2 x.2 (by omega)
    have hte := turn_any W0.heap.size g cu zs.length (FR zs pre) x.1 x.2 W5 (by rw [hl]; exact h1.out) (by omega) (by omega) (by omega) (by omega) hzx hzy
    rw [hl, ← FR_snoc] at hte
    have HTE := Lib.hid hte
    obtain ⟨gO, hgc, hgk⟩ := ownsRow_cells h1.out g rfl
    obtain ⟨z0, z1, -, -⟩ := two_cells h2.out
    have HGC := Lib.hid hgc
    clear hte hl hzx hzy q2 x3 x4 hgc
    obtain ⟨v1, v2⟩ := x
    gi_wp2_with (refine ⟨trivial, ?_⟩; gi_at_call 91; refine (CallsIn.inRound l (callsIn_wide.2 HTE.out)).mono ?_; rintro e w6 ⟨⟨_, rfl⟩, hO6, hg6⟩)
    have s6 := hg6.size
    have lo : ∀ {q : Nat} {ob : Obj}, q ≠ g → W5.heap[q]? = some ob → w6.heap[q]? = some ob := fun hq h => (hg6.block _ (Array.getElem?_eq_some_iff.1 h).1 (fun e => by injection e with e; exact hq e)).trans h
    refine ⟨keeps_grown hg6 (fun r e => by cases e; exact ⟨gO, HGC.out, hgk⟩), ⟨trivial, fun q hq => hg6.block q (h9.out q hq) (fun e => by injection e with e; have := hAl q hq; omega)⟩, hO6, lo hHg h2.out, h3.out.grown hg6 h3.out.size (fun q e => by cases e; omega), by omega, lo (by omega) h5.out, lo (by omega) h6.out, lo (by omega) h7.out, lo (by omega) h8.out, fun q hq => Nat.lt_of_lt_of_le (h9.out q hq) s6⟩
  case done =>
    rintro D A ys W2 hDD rfl ⟨h1, h2, h3, h4, h5, h6, h7, h8, h9⟩ hK
    obtain ⟨z0, z1, -, -⟩ := two_cells h2.out
    obtain ⟨r0, r1, f0, f1⟩ := two_cells h8.out
    gi_wp2
    have hg : W2.grownBy ((W2.setCell ⟨w.heap.size + 1, 0, none⟩ (.int .i64 zs.length)).setCell ⟨w.heap.size + 1, 1, none⟩ (.slice (some ⟨g, 0, none⟩) zs.length cu)) (some (w.heap.size + 1)) := grown_set (grown_set ⟨rfl, rfl, rfl, Nat.le_refl _, fun _ _ _ => rfl⟩ _ 0 _) _ 1 _
    have hDl := (Array.getElem?_eq_some_iff.1 hK).1
    have hK3 := (hg.block D hDl (fun e => by injection e with e; omega)).trans hK
    have hfin := two_set (a := .int .i64 zs.length) (b := .slice (some ⟨g, 0, none⟩) zs.length cu) h8.out
    have hO3 := h1.out.kept hg (.inr (by simp [Value.ownBlock]; omega))
    have hB3 : Below w.heap.size w ((W2.setCell ⟨w.heap.size + 1, 0, none⟩ (.int .i64 zs.length)).setCell ⟨w.heap.size + 1, 1, none⟩ (.slice (some ⟨g, 0, none⟩) zs.length cu)) := (h3.out.setCell (p := ⟨w.heap.size + 1, 0, none⟩) (by simp) _).setCell (p := ⟨w.heap.size + 1, 1, none⟩) (by simp) _
    refine leaves_marks (H := w.heap.size) [D] _ ⟨by simp, fun E hE => ?_⟩ fun W' hss hb' => ?_
    · obtain rfl : E = D := by simpa using hE
      exact ⟨by omega, hK3⟩
    · have hf2 := (hss (w.heap.size + 1) (by simp; omega)).trans hfin
      refine ⟨_, results_cell_row (p := 6) (ty := 28) rfl _ W' (w.heap.size + 1) 28 _ (0, 0) _ rfl hf2 Tryd.underlying28 rfl (by exact info27), ⟨_, rfl, ?_⟩, hB3.trans hb'⟩
      exact (hO3.kept (row := some D) ⟨hb'.os, hb'.tape, hb'.output, hb'.size, fun k _ hne => hss k (fun e => hne (by simpa using e))⟩ (.inr (by simp [Value.ownBlock]; omega))).base (by omega)
  case stop =>
    rintro D c pre W _ _ h _
    exact h.elim
end Go.Proofs.YtmkikokpfohfhaaDoor
