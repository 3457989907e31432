/-
  impl.RenumberGraph.
-/
import Derived.Test.YtabkfihhfkmioaaDoorRq9
import Derived.Test.YtabkfihhfkmioaaDoorTl7
import Derived.Test.YtabkfihhfkmioaaDoorRr
namespace Go.Proofs.YtabkfihhfkmioaaDoor
set_option maxRecDepth 100000
open Go.RowKit Go.Shelf

theorem edP_lenR (zs : List Int) : ∀ k, (edP zs k).length ≤ 64 * k
  | 0 => Nat.le_refl _
  | k + 1 => by
    have h1 := edP_lenR zs k
    rw [edP_succ, List.length_append, List.length_map]
    have h2 := mem_len64 (hiN zs k)
    omega
theorem edL_len {zs : List Int} (h62 : zs.length ≤ 62) : (edL zs).length ≤ 100000 := by
  have := edP_lenR zs zs.length
  unfold edL; omega

set_option maxHeartbeats 1600000 in
theorem implRn_no (n : Int) (v : Value) (a2 : Option Addr) (l2 c2 : Nat) (zs : List Int) (w : World) (hs : Sl w v zs) (hl : zs.length ≤ 9223372036854775807) (hT : Tab w) (hg : isG n zs = false) :
    Calls Tryd.prog 30 #[.agg #[.int .i64 n, v], .slice a2 l2 c2] w fun e w' => GRes w.heap.size 0 [] 1 e w' ∧ Below w.heap.size w w' := by
  obtain ⟨W, hW⟩ : ∃ W, W = ((w.alloc (.cells #[.int .i64 n, v] 26)).alloc (.cells #[.slice a2 l2 c2] 22)).alloc (.cells #[.int .i64 0, .slice none 0 0] 26) := ⟨_, rfl⟩
  have D0 : Below w.heap.size w W := by rw [hW]; exact (((Below.refl _ _).alloc (Nat.le_refl _) _).alloc (by simp) _).alloc (by simp; omega) _
  have hsz : w.heap.size + 3 ≤ W.heap.size := by rw [hW]; simp
  have HK0 : Hid (W.heap[w.heap.size]? = some (.cells #[.int .i64 n, v] 26 (0, 0))) := by show _ = _; rw [hW]; exact heap_old_at (heap_old_at (heap_new_at w _ w.heap.size rfl) _) _
  have HP0 : Hid (Bx W (w.heap.size + 1) 22 (.slice a2 l2 c2)) := by show _ = _; rw [hW]; exact heap_old_at (heap_new_at _ _ _ (by simp)) _
  have HR0 : Hid (W.heap[w.heap.size + 1 + 1]? = some (.cells #[.int .i64 0, .slice none 0 0] 26 (0, 0))) := by show _ = _; rw [hW]; exact heap_new_at _ _ _ (by simp)
  have HD0 := Lib.hid D0
  have his := implIs_any n (v) zs W (hs.below D0) hl (hT.belowAll D0)
  rw [hg] at his
  clear hs hg D0 hT
  go_enter Tryd.func30, Tryd.ntmps30
  go_wp2_with (go_at_call 73; rw [← hW]; refine his.mono ?_; rintro e w1 ⟨rfl, hb1⟩; have q1 := hb1.size; obtain ⟨a0, a1, -, -⟩ := two_cells ((hb1.block w.heap.size (by omega)).trans HK0.out); have p0 := Bx.cell ((hb1.block (w.heap.size + 1) (by omega)).trans HP0.out); have HR1 := Lib.hid ((hb1.block (w.heap.size + 1 + 1) (by omega)).trans HR0.out); have HB1 := Lib.hid hb1; obtain ⟨r0, r1, g0, g1⟩ := two_cells HR1.out; clear hb1)
  have hfin := two_set (a := .int .i64 0) (b := .slice none 0 0) HR1.out
  refine bodyPost_ret (v := .tuple #[.agg #[.int .i64 0, .slice none 0 0], .int .i64 1]) (results_cell2 (p := 4) (u := 5) (ty := 26) rfl _ _ (w.heap.size + 1 + 1) 26 _ (0, 0) _ rfl hfin Tryd.underlying26 rfl (by exact info27)) rfl ⟨⟨_, rfl, Own.nil _ _⟩, ?_⟩
  exact ((HD0.out.trans (HB1.out.mono (by omega))).setCell (p := ⟨w.heap.size + 1 + 1, 0, none⟩) (by simp; try omega) _).setCell (p := ⟨w.heap.size + 1 + 1, 1, none⟩) (by simp; try omega) _

set_option maxHeartbeats 1600000 in
theorem implRn_bad (n : Int) (v : Value) (a2 : Option Addr) (l2 c2 : Nat) (zs ps : List Int) (w : World) (hs : Sl w v zs) (hs2 : Sl w (.slice a2 l2 c2) ps) (hl : zs.length ≤ 9223372036854775807) (hl2 : ps.length ≤ 1048576) (hT : Tab w) (hg : isG n zs = true) (hr : renB n ps = false) :
    Calls Tryd.prog 30 #[.agg #[.int .i64 n, v], .slice a2 l2 c2] w fun e w' => GRes w.heap.size 0 [] 2 e w' ∧ Below w.heap.size w w' := by
  obtain ⟨h1a, h1b, -, -, -⟩ := isG_parts hg
  obtain ⟨W, hW⟩ : ∃ W, W = ((w.alloc (.cells #[.int .i64 n, v] 26)).alloc (.cells #[.slice a2 l2 c2] 22)).alloc (.cells #[.int .i64 0, .slice none 0 0] 26) := ⟨_, rfl⟩
  have D0 : Below w.heap.size w W := by rw [hW]; exact (((Below.refl _ _).alloc (Nat.le_refl _) _).alloc (by simp) _).alloc (by simp; omega) _
  have hsz : w.heap.size + 3 ≤ W.heap.size := by rw [hW]; simp
  have HK0 : Hid (W.heap[w.heap.size]? = some (.cells #[.int .i64 n, v] 26 (0, 0))) := by show _ = _; rw [hW]; exact heap_old_at (heap_old_at (heap_new_at w _ w.heap.size rfl) _) _
  have HP0 : Hid (Bx W (w.heap.size + 1) 22 (.slice a2 l2 c2)) := by show _ = _; rw [hW]; exact heap_old_at (heap_new_at _ _ _ (by simp)) _
  have HR0 : Hid (W.heap[w.heap.size + 1 + 1]? = some (.cells #[.int .i64 0, .slice none 0 0] 26 (0, 0))) := by show _ = _; rw [hW]; exact heap_new_at _ _ _ (by simp)
  have HD0 := Lib.hid D0
  have his := implIs_any n (v) zs W (hs.below D0) hl (hT.belowAll D0)
  rw [hg] at his
  have HIR : Hid (∀ X, Below W.heap.size W X → Calls Tryd.prog 81 #[.int .i64 n, .slice a2 l2 c2] X fun e w' => e = .returned (.bool false) ∧ X = w') := fun X hX => by
    have h := isRen_any n (.slice a2 l2 c2) ps X ((hs2.below D0).below hX) (by omega) h1a h1b
    rw [hr] at h
    exact h
  clear hs hs2 hg D0 hT hr
  go_enter Tryd.func30, Tryd.ntmps30
  go_wp2_with (first | (go_at_call 73; rw [← hW]; refine his.mono ?_; rintro e w1 ⟨rfl, hb1⟩; have q1 := hb1.size; obtain ⟨a0, a1, -, -⟩ := two_cells ((hb1.block w.heap.size (by omega)).trans HK0.out); have p0 := Bx.cell ((hb1.block (w.heap.size + 1) (by omega)).trans HP0.out); have HR1 := Lib.hid ((hb1.block (w.heap.size + 1 + 1) (by omega)).trans HR0.out); have HB1 := Lib.hid hb1; obtain ⟨r0, r1, g0, g1⟩ := two_cells HR1.out; clear hb1) | (go_at_call 81; refine (HIR.out _ HB1.out).mono ?_; rintro e w9 ⟨rfl, rfl⟩))
  have hfin := two_set (a := .int .i64 0) (b := .slice none 0 0) HR1.out
  refine bodyPost_ret (v := .tuple #[.agg #[.int .i64 0, .slice none 0 0], .int .i64 2]) (results_cell2 (p := 4) (u := 5) (ty := 26) rfl _ _ (w.heap.size + 1 + 1) 26 _ (0, 0) _ rfl hfin Tryd.underlying26 rfl (by exact info27)) rfl ⟨⟨_, rfl, Own.nil _ _⟩, ?_⟩
  exact ((HD0.out.trans (HB1.out.mono (by omega))).setCell (p := ⟨w.heap.size + 1 + 1, 0, none⟩) (by simp; try omega) _).setCell (p := ⟨w.heap.size + 1 + 1, 1, none⟩) (by simp; try omega) _

attribute [local go_sem] Oper.semAt_some

set_option maxHeartbeats 6400000 in
theorem implRn_in (b off cap b2 off2 cap2 : Nat) (zs ps : List Int) (w : World) (hb : b < w.heap.size) (hc : Cells w b off zs) (hb2 : b2 < w.heap.size) (hc2 : Cells w b2 off2 ps) (hg : isG zs.length zs = true) (hr : renB zs.length ps = true) (hT : Tab w) :
    CallsIn Fence.wide 6 Tryd.prog 30 #[.agg #[.int .i64 zs.length, .slice (some ⟨b, off, none⟩) zs.length cap], .slice (some ⟨b2, off2, none⟩) ps.length cap2] w fun e w' => GRes w.heap.size zs.length (rowsF zs.length (adjS (imE zs ps))) 0 e w' ∧ Below w.heap.size w w' := by
  obtain ⟨h1a, h1b, -, -, -⟩ := isG_parts hg
  have h62 : zs.length ≤ 62 := by omega
  obtain ⟨hpl, hpv⟩ := ren_parts hr
  have hple : ps.length ≤ zs.length := by omega
  have hpge : zs.length ≤ ps.length := by omega
  clear hpl
  have hs : Sl w (.slice (some ⟨b, off, none⟩) zs.length cap) zs := .inr ⟨b, off, cap, rfl, hb, hc⟩
  have hl : zs.length ≤ 9223372036854775807 := by omega
  obtain ⟨W, hW⟩ : ∃ W, W = ((w.alloc (.cells #[.int .i64 zs.length, .slice (some ⟨b, off, none⟩) zs.length cap] 26)).alloc (.cells #[.slice (some ⟨b2, off2, none⟩) ps.length cap2] 22)).alloc (.cells #[.int .i64 0, .slice none 0 0] 26) := ⟨_, rfl⟩
  have D0 : Below w.heap.size w W := by rw [hW]; exact (((Below.refl _ _).alloc (Nat.le_refl _) _).alloc (by simp) _).alloc (by simp; omega) _
  have hsz : w.heap.size + 3 ≤ W.heap.size := by rw [hW]; simp
  have HK0 : Hid (W.heap[w.heap.size]? = some (.cells #[.int .i64 zs.length, .slice (some ⟨b, off, none⟩) zs.length cap] 26 (0, 0))) := by show _ = _; rw [hW]; exact heap_old_at (heap_old_at (heap_new_at w _ w.heap.size rfl) _) _
  have HP0 : Hid (Bx W (w.heap.size + 1) 22 (.slice (some ⟨b2, off2, none⟩) ps.length cap2)) := by show _ = _; rw [hW]; exact heap_old_at (heap_new_at _ _ _ (by simp)) _
  have HR0 : Hid (W.heap[w.heap.size + 1 + 1]? = some (.cells #[.int .i64 0, .slice none 0 0] 26 (0, 0))) := by show _ = _; rw [hW]; exact heap_new_at _ _ _ (by simp)
  have HD0 := Lib.hid D0
  have his := implIs_any zs.length (.slice (some ⟨b, off, none⟩) zs.length cap) zs W (hs.below D0) hl (hT.belowAll D0)
  rw [hg] at his
  have HIR : Hid (∀ X, Below W.heap.size W X → Calls Tryd.prog 81 #[.int .i64 zs.length, .slice (some ⟨b2, off2, none⟩) ps.length cap2] X fun e w' => e = .returned (.bool true) ∧ X = w') := fun X hX => by
    have h := isRen_some zs.length b2 off2 cap2 ps X ((hc2.below D0 hb2).below hX (by omega)) (by omega) h1a h1b
    rw [hr] at h
    exact h
  have hmm := @run_makeMap Tryd.prog
  have HG := Lib.hid hg
  have HT0 := Lib.hid hT
  have HC0 := Lib.hid hc
  have HC2 := Lib.hid hc2
  have HPV := Lib.hid hpv
  have hTl := hT.lt
  clear hs hg D0 hT hr hc hc2 hpv
  refine callsIn_of_wp_marks Tryd.func30 rfl trivial ?_ rfl
  simp only [Tryd.ntmps30, List.size_toArray, List.length_cons, List.length_nil, Nat.reduceAdd, Nat.reduceSub, Array.replicate_succ, Array.replicate_zero, List.push_toArray, List.append_toArray, List.nil_append, List.cons_append]
  gi_upto_region 5 with (first
    | (refine ⟨trivial, ?_⟩; gi_at_call 73; rw [← hW]; refine (callsIn_wide.2 his).mono ?_; rintro e w1 ⟨rfl, hb1⟩; have q1 := hb1.size; obtain ⟨a0, a1, -, -⟩ := two_cells ((hb1.block w.heap.size (by omega)).trans HK0.out); have p0 := Bx.cell ((hb1.block (w.heap.size + 1) (by omega)).trans HP0.out); have HB1 := Lib.hid hb1; clear hb1)
    | (refine ⟨trivial, ?_⟩; gi_at_call 81; refine (callsIn_wide.2 (HIR.out _ HB1.out)).mono ?_; rintro e w9 ⟨rfl, rfl⟩))
  have HK1 := Lib.hid ((HB1.out.block w.heap.size (by omega)).trans HK0.out)
  have HP1 : Hid (Bx w1 (w.heap.size + 1) 22 (.slice (some ⟨b2, off2, none⟩) ps.length cap2)) := (HB1.out.block (w.heap.size + 1) (by omega)).trans HP0.out
  have HR1 := Lib.hid ((HB1.out.block (w.heap.size + 1 + 1) (by omega)).trans HR0.out)
  have HE1 := Lib.hid (HD0.out.trans (HB1.out.mono (by omega)))
  clear hW his HIR p0
  gi_upto_region 6 with fail
  obtain ⟨Wb, hWb⟩ : ∃ Wb, Wb = (w1.alloc (.map #[] 0)).alloc (.cells #[.map (some w1.heap.size)] 81) := ⟨_, rfl⟩
  refine at_world (w' := Wb) ?_ (by rw [hWb])
  have hbb : Below w1.heap.size w1 Wb := by rw [hWb]; exact ((Below.refl _ _).alloc (Nat.le_refl _) _).alloc (by simp) _
  have sb : w1.heap.size + 2 ≤ Wb.heap.size := by rw [hWb]; simp
  have HPSb : Hid (PS Wb w1.heap.size []) := by show PS _ _ _; rw [hWb]; exact (PS.made w1).below ((Below.refl _ _).alloc (Nat.le_refl _) _)
  have HBXb : Hid (Bx Wb (w1.heap.size + 1) 81 (.map (some w1.heap.size))) := by show _ = _; rw [hWb]; exact heap_new_at _ _ _ (by simp)
  obtain ⟨a0, a1, -, -⟩ := two_cells ((hbb.block w.heap.size (by omega)).trans HK1.out)
  clear hWb hmm
  gi_wp2_with (refine ⟨trivial, ?_⟩; gi_at_call 82; refine (callsIn_wide.2 (edgesIn_any _ _ _)).mono ?_; rintro e w' ⟨rfl, rfl⟩)
  obtain ⟨Wm, hWm⟩ : ∃ Wm, Wm = Wb.alloc (.cells #[.int .i64 zs.length, .slice (some ⟨b, off, none⟩) zs.length cap] 26) := ⟨_, rfl⟩
  refine at_world (w' := Wm) ?_ (by rw [hWm])
  have hbm : Below Wb.heap.size Wb Wm := by rw [hWm]; exact (Below.refl _ _).alloc (Nat.le_refl _) _
  have sm : Wb.heap.size + 1 ≤ Wm.heap.size := by rw [hWm]; simp
  have HPSm : Hid (PS Wm w1.heap.size (([] : List (Nat × Nat)).map fun x => (pN ps x.1, pN ps x.2))) := HPSb.out.below hbm
  have HBXm : Hid (Bx Wm (w1.heap.size + 1) 81 (.map (some w1.heap.size))) := (hbm.block _ (by omega)).trans HBXb.out
  have haM : Hid (Wm.heap[Wb.heap.size]? = some (.cells #[.int .i64 zs.length, .slice (some ⟨b, off, none⟩) zs.length cap] 26 (0, 0))) := by show _ = _; rw [hWm]; exact World.alloc_heap_new Wb _
  have hEm : Below w1.heap.size w1 Wm := hbb.trans (hbm.mono (by omega))
  have hEw : Below w.heap.size w Wm := HE1.out.trans (hEm.mono (by omega))
  have hKm : Hid (Wm.heap[w.heap.size]? = some (.cells #[.int .i64 zs.length, .slice (some ⟨b, off, none⟩) zs.length cap] 26 (0, 0))) := (hEm.block _ (by omega)).trans HK1.out
  have hPm : Hid (Bx Wm (w.heap.size + 1) 22 (.slice (some ⟨b2, off2, none⟩) ps.length cap2)) := (hEm.block _ (by omega)).trans HP1.out
  have hRm : Hid (Wm.heap[w.heap.size + 1 + 1]? = some (.cells #[.int .i64 0, .slice none 0 0] 26 (0, 0))) := (hEm.block _ (by omega)).trans HR1.out
  have hst := edges_stops 5 (by omega) Wb.heap.size b off cap zs HG.out Wm
  clear hWm a0 a1 HPSb HBXb hbm hbb
  refine wpIn_rangeO rfl (by omega) (gf := 110) (lb := #[.pointer (some ⟨Wb.heap.size, 0, none⟩)]) rfl trivial (enters_of Tryd.func110 (by kernel_rfl) rfl)
    hst (fun _ _ => trivial) (fun _ _ _ _ _ _ _ _ => trivial) (Below.refl _ _) (fun _ => rfl)
    (fun L pre X => Hid (PS X w1.heap.size (pre.map fun x => (pN ps x.1, pN ps x.2))) ∧ Hid (Bx X (w1.heap.size + 1) 81 (.map (some w1.heap.size))) ∧ Below w.heap.size w X ∧ Wm.heap.size ≤ X.heap.size ∧ Hid (X.heap[Wb.heap.size]? = some (.cells #[.int .i64 zs.length, .slice (some ⟨b, off, none⟩) zs.length cap] 26 (0, 0))) ∧ Hid (X.heap[w.heap.size]? = some (.cells #[.int .i64 zs.length, .slice (some ⟨b, off, none⟩) zs.length cap] 26 (0, 0))) ∧ Hid (Bx X (w.heap.size + 1) 22 (.slice (some ⟨b2, off2, none⟩) ps.length cap2)) ∧ Hid (X.heap[w.heap.size + 1 + 1]? = some (.cells #[.int .i64 0, .slice none 0 0] 26 (0, 0))) ∧ Hid (∀ k, k ∈ L → k < X.heap.size) ∧ pre.length ≤ 100000)
    (fun _ _ _ => False)
    ?hI (fun _ _ _ _ _ hs _ _ => hs) ?hgr ?hRdd ?h0c (fun x => { tmps := #[.agg #[.int .i64 zs.length, .slice (some ⟨b, off, none⟩) zs.length cap], .slice (some ⟨b2, off2, none⟩) ps.length cap2, .pointer (some ⟨w.heap.size, 0, none⟩), .pointer (some ⟨w.heap.size + 1, 0, none⟩), .pointer (some ⟨w.heap.size + 1 + 1, 0, none⟩), .int .i64 0, .pointer (some ⟨w1.heap.size + 1, 0, none⟩), .int .i64 x.1, .int .i64 x.2, .agg #[.int .i64 zs.length, .slice (some ⟨b, off, none⟩) zs.length cap], .bool true, .bool false, undef, .pointer (some ⟨w.heap.size, 0, none⟩), .int .i64 zs.length, .slice (some ⟨b2, off2, none⟩) ps.length cap2, .bool true, .bool false, undef, .map (some w1.heap.size), .agg #[.int .i64 zs.length, .slice (some ⟨b, off, none⟩) zs.length cap], .func (.func 110) #[] #[.pointer (some ⟨Wb.heap.size, 0, none⟩)], .int .i64 x.1, .int .i64 x.2, undef, undef, undef, undef, undef, undef, undef, undef, undef, undef, undef, undef, undef, undef], defers := [] }) ?assign ?body ?done ?stop
  case hI =>
    rintro L pre X Y row ⟨h1, h2, h3, h4, h5, h6, h7, h8, h9, h10⟩ hg hr
    exact ⟨h1.out.kept hg (fun e => by have := (hr _ e.symm).1; omega), kept_rowP hg hr (by omega) h2.out, h3.grown hg h3.size (fun k e => by have := (hr k e).1; omega), Nat.le_trans h4 hg.size, kept_rowP hg hr (by omega) h5.out, kept_rowP hg hr (by omega) h6.out, kept_rowP hg hr (by omega) h7.out, kept_rowP hg hr (by omega) h8.out, fun k hk => Nat.lt_of_lt_of_le (h9.out k hk) hg.size, h10⟩
  case hgr =>
    rintro L pre X o hsX ⟨h1, h2, h3, h4, h5, h6, h7, h8, h9, h10⟩
    have hbX : Below X.heap.size X (X.alloc o) := (Below.refl _ _).alloc (Nat.le_refl _) _
    have lo : ∀ {q : Nat} {ob : Obj}, X.heap[q]? = some ob → (X.alloc o).heap[q]? = some ob := fun h => (hbX.block _ (Array.getElem?_eq_some_iff.1 h).1).trans h
    exact ⟨h1.out.below hbX, lo h2.out, h3.alloc h3.size _, by simp; omega, lo h5.out, lo h6.out, lo h7.out, lo h8.out, fun q hq => (List.mem_cons.1 hq).elim (fun e => by rw [e]; simp) (fun h => Nat.lt_of_lt_of_le (h9.out q h) (by simp)), h10⟩
  case hRdd =>
    rintro L pre X ⟨h1, h2, h3, h4, h5, h6, h7, h8, h9, h10⟩
    exact ⟨h5.out, HC0.out.below h3 hb, HT0.out.belowAll h3⟩
  case h0c => exact ⟨HPSm, HBXm, hEw, Nat.le_refl _, haM, hKm, hPm, hRm, (fun k hk => by cases hk), by simp⟩
  case assign =>
    intro l y W K hK
    gi_wp2
    exact hK
  case body =>
    rintro l L pre x W5 _ _ ⟨h1, h2, h3, h4, h5, h6, h7, h8, h9, h10⟩ hAl _ hnx
    have hxm := edL_in HG.out (hnx.subset (List.mem_append_right _ List.mem_cons_self))
    have hln : (pre ++ [x]).length ≤ 100000 := Nat.le_trans hnx.length_le (edL_len h62)
    obtain ⟨v1, v2⟩ := x
    have hx1 : v1 < ps.length := by have := hxm.1; have := hxm.2.1; simp only at *; omega
    have hx2 : v2 < ps.length := by have := hxm.2.1; simp only at *; omega
    obtain ⟨e1, e2⟩ := HPV.out v1 hx1
    obtain ⟨f1, f2⟩ := HPV.out v2 hx2
    have z1 := (HC2.out.below h3 hb2) v1 hx1
    have z2 := (HC2.out.below h3 hb2) v2 hx2
    rw [e1] at z1
    rw [f1] at z2
    have i0 : (0 : Int) ≤ v1 := by omega
    have i1 : (v1 : Int) < ps.length := by omega
    have j0 : (0 : Int) ≤ v2 := by omega
    have j1 : (v2 : Int) < ps.length := by omega
    have cm := h2.out.cell
    have cp := h7.out.cell
    have HSN : Hid ((pre ++ [(v1, v2)]).map (fun x => (pN ps x.1, pN ps x.2)) = pre.map (fun x => (pN ps x.1, pN ps x.2)) ++ [(pN ps v1, pN ps v2)]) := by show _ = _; rw [List.map_append]; rfl
    obtain ⟨pa, hpa⟩ : ∃ pa, pa = pN ps v1 := ⟨_, rfl⟩
    obtain ⟨pb, hpb⟩ : ∃ pb, pb = pN ps v2 := ⟨_, rfl⟩
    rw [← hpa] at z1 e2 HSN
    rw [← hpb] at z2 f2 HSN
    have HJN : Hid (∀ X, PS X w1.heap.size (pre.map fun x => (pN ps x.1, pN ps x.2)) → Calls Tryd.prog 83 #[.map (some w1.heap.size), .int .i64 pa, .int .i64 pb] X fun e w' => (∃ v, e = .returned v) ∧ PS w' w1.heap.size (pre.map (fun x => (pN ps x.1, pN ps x.2)) ++ [(pa, pb)]) ∧ X.grownBy w' (some w1.heap.size)) := fun X hX =>
      join_any w1.heap.size _ pa pb X hX (by rw [List.length_map]; simp at hln; omega) (by omega) (by omega)
    have hmx : Tryd.prog.follows Departure.mixedOrders = true := mixed
    have w5a := h2.out.lt
    have w5b := (Array.getElem?_eq_some_iff.1 h8.out).1
    have hb2w : b2 < W5.heap.size := Nat.lt_of_lt_of_le hb2 h3.size
    clear hnx hxm e1 f1 hpa hpb
    gi_wp2
    refine region_round (fun w' => w'.cell? ⟨w1.heap.size + 1, 0, none⟩ = some (.map (some w1.heap.size)) ∧ w'.cell? ⟨w.heap.size + 1, 0, none⟩ = some (.slice (some ⟨b2, off2, none⟩) ps.length cap2) ∧ w'.cell? ⟨b2, off2 + v1, none⟩ = some (.int .i64 pa) ∧ w'.cell? ⟨b2, off2 + v2, none⟩ = some (.int .i64 pb)) hmx (by kernel_rfl) ⟨cm, cp, z1, z2⟩ (fun hHeld => ?_)
    show wpAnyH _ _ _ _ _ 10 (Array.replicate 10 false) _ _
    refine wpAnyH_take (i := 0) (v := .map (some w1.heap.size)) rfl (by kernel_rfl) (by kernel_rfl) (by kernel_rfl) (fun _ _ _ h => h) (Or.inl ⟨by rfl, fun Wt hSw => by go_split_ands; go_simp⟩) (by assumption) ?_
    simp only [List.getElem_toArray, List.getElem_cons_zero, Act.put, List.setIfInBounds_toArray, List.set_cons_zero, List.set_cons_succ]
    refine wpAnyH_take (i := 1) (v := .slice (some ⟨b2, off2, none⟩) ps.length cap2) rfl (by kernel_rfl) (by kernel_rfl) (by kernel_rfl) (fun _ _ _ h => h) (Or.inl ⟨by rfl, fun Wt hSw => by go_split_ands; go_simp⟩) (by assumption) ?_
    simp only [List.getElem_toArray, List.getElem_cons_zero, List.getElem_cons_succ, Act.put, List.setIfInBounds_toArray, List.set_cons_zero, List.set_cons_succ]
    refine wpAnyH_take (i := 2) (v := .int .i64 v1) rfl (by kernel_rfl) (by kernel_rfl) (by kernel_rfl) (fun _ _ _ h => h) (Or.inl ⟨by rfl, fun Wt hSw => by go_split_ands; go_simp⟩) (by assumption) ?_
    simp only [List.getElem_toArray, List.getElem_cons_zero, List.getElem_cons_succ, Act.put, List.setIfInBounds_toArray, List.set_cons_zero, List.set_cons_succ]
    refine wpAnyH_take (i := 3) (v := .pointer (some ⟨b2, off2 + v1, none⟩)) rfl (by kernel_rfl) (by kernel_rfl) (by kernel_rfl) (fun _ _ _ h => h) (Or.inl ⟨by rfl, fun Wt hSw => by go_split_ands; go_simp⟩) (by assumption) ?_
    simp only [List.getElem_toArray, List.getElem_cons_zero, List.getElem_cons_succ, Act.put, List.setIfInBounds_toArray, List.set_cons_zero, List.set_cons_succ]
    refine wpAnyH_take (i := 4) (v := .int .i64 pa) rfl (by kernel_rfl) (by kernel_rfl) (by kernel_rfl) (fun _ _ _ h => h) (Or.inl ⟨by rfl, fun Wt hSw => by go_split_ands; go_simp⟩) (by assumption) ?_
    simp only [List.getElem_toArray, List.getElem_cons_zero, List.getElem_cons_succ, Act.put, List.setIfInBounds_toArray, List.set_cons_zero, List.set_cons_succ]
    refine wpAnyH_take (i := 5) (v := .slice (some ⟨b2, off2, none⟩) ps.length cap2) rfl (by kernel_rfl) (by kernel_rfl) (by kernel_rfl) (fun _ _ _ h => h) (Or.inl ⟨by rfl, fun Wt hSw => by go_split_ands; go_simp⟩) (by assumption) ?_
    simp only [List.getElem_toArray, List.getElem_cons_zero, List.getElem_cons_succ, Act.put, List.setIfInBounds_toArray, List.set_cons_zero, List.set_cons_succ]
    refine wpAnyH_take (i := 6) (v := .int .i64 v2) rfl (by kernel_rfl) (by kernel_rfl) (by kernel_rfl) (fun _ _ _ h => h) (Or.inl ⟨by rfl, fun Wt hSw => by go_split_ands; go_simp⟩) (by assumption) ?_
    simp only [List.getElem_toArray, List.getElem_cons_zero, List.getElem_cons_succ, Act.put, List.setIfInBounds_toArray, List.set_cons_zero, List.set_cons_succ]
    refine wpAnyH_take (i := 7) (v := .pointer (some ⟨b2, off2 + v2, none⟩)) rfl (by kernel_rfl) (by kernel_rfl) (by kernel_rfl) (fun _ _ _ h => h) (Or.inl ⟨by rfl, fun Wt hSw => by go_split_ands; go_simp⟩) (by assumption) ?_
    simp only [List.getElem_toArray, List.getElem_cons_zero, List.getElem_cons_succ, Act.put, List.setIfInBounds_toArray, List.set_cons_zero, List.set_cons_succ]
    refine wpAnyH_take (i := 8) (v := .int .i64 pb) rfl (by kernel_rfl) (by kernel_rfl) (by kernel_rfl) (fun _ _ _ h => h) (Or.inl ⟨by rfl, fun Wt hSw => by go_split_ands; go_simp⟩) (by assumption) ?_
    simp only [List.getElem_toArray, List.getElem_cons_zero, List.getElem_cons_succ, Act.put, List.setIfInBounds_toArray, List.set_cons_zero, List.set_cons_succ]
    refine wpAnyH_ready (rs := [9]) (by kernel_rfl) (by simp) ?_
    refine AllReadyH.cons rfl (fun K hK => ?_) AllReadyH.nil
    go_simp
    refine (HJN.out _ (h1.out.below ((Below.refl _ _).drew))).mono ?_
    rintro e w6 ⟨⟨v6, rfl⟩, hP6, hg6⟩
    have hg6 : W5.grownBy w6 (some w1.heap.size) := ⟨hg6.os, hg6.tape, hg6.output, hg6.size, hg6.block⟩
    have s6 := hg6.size
    have lo : ∀ {q : Nat} {ob : Obj}, q ≠ w1.heap.size → W5.heap[q]? = some ob → w6.heap[q]? = some ob := fun hq h => (hg6.block _ (Array.getElem?_eq_some_iff.1 h).1 (fun e => by injection e with e; exact hq e)).trans h
    have cm6 := Bx.cell (show Bx w6 (w1.heap.size + 1) 81 (.map (some w1.heap.size)) from lo (by omega) h2.out)
    have cp6 := Bx.cell (show Bx w6 (w.heap.size + 1) 22 (.slice (some ⟨b2, off2, none⟩) ps.length cap2) from lo (by omega) h7.out)
    have z16 := (cell_same9 (i := off2 + v1) (hg6.block b2 hb2w (fun e => by injection e with e; omega))).trans z1
    have z26 := (cell_same9 (i := off2 + v2) (hg6.block b2 hb2w (fun e => by injection e with e; omega))).trans z2
    refine hK.out _ _ ⟨cm6, cp6, z16, z26⟩ (fun hHeld => ?_)
    refine wpAnyH_done (by kernel_rfl) ?_ _
    have hkf : KeepsFrom Wm.heap.size W5 w6 := ⟨hg6.size, fun k o hB hk _ => (hg6.block k (Array.getElem?_eq_some_iff.1 hk).1 (fun e => by injection e with e; omega)).trans hk⟩
    exact ⟨hkf, ⟨trivial, fun q hq => hg6.block q (h9.out q hq) (fun e => by injection e with e; have := hAl q hq; omega)⟩, by show PS _ _ _; rw [HSN.out]; exact hP6, lo (by omega) h2.out, h3.grown hg6 h3.size (fun q e => by injection e with e; omega), by omega, lo (by omega) h5.out, lo (by omega) h6.out, lo (by omega) h7.out, lo (by omega) h8.out, fun q hq => Nat.lt_of_lt_of_le (h9.out q hq) s6, hln⟩
  case done =>
    rintro D L ys W2 hDD rfl ⟨h1, h2, h3, h4, h5, h6, h7, h8, h9, h10⟩ hK
    obtain ⟨a0, a1, -, -⟩ := two_cells h6.out
    have cm := h2.out.cell
    have HGP : Hid (Calls Tryd.prog 84 #[.int .i64 zs.length, .map (some w1.heap.size)] W2 fun e w' => GRet W2.heap.size zs.length (rowsF zs.length (adjS (imE zs ps))) e w' ∧ Below W2.heap.size W2 w') :=
      gop_any zs.length w1.heap.size (imE zs ps) W2 h1.out h62 (fun p hp => by
        obtain ⟨q, hq, rfl⟩ := List.mem_map.1 hp
        obtain ⟨c1, c2, -⟩ := edL_in HG.out hq
        have d1 := (HPV.out q.1 (by omega)).2
        have d2 := (HPV.out q.2 (by omega)).2
        exact ⟨by simp only; omega, by simp only; omega⟩)
    have hDl := (Array.getElem?_eq_some_iff.1 hK).1
    have w2r := (Array.getElem?_eq_some_iff.1 h8.out).1
    clear h1 h5
    gi_wp2_with (refine ⟨trivial, ?_⟩; gi_at_call 84; refine (callsIn_wide.2 HGP.out).mono ?_; rintro e w3 ⟨⟨g, rfl, hB, hg⟩, hb3⟩; obtain ⟨r0, r1, g0, g1⟩ := two_cells ((hb3.block _ w2r).trans h8.out))
    have hR3 := (hb3.block _ w2r).trans h8.out
    have hK3 := (hb3.block D hDl).trans hK
    have hgr : w3.grownBy ((w3.setCell ⟨w.heap.size + 1 + 1, 0, none⟩ (.int .i64 zs.length)).setCell ⟨w.heap.size + 1 + 1, 1, none⟩ (.slice (some ⟨g, 0, none⟩) zs.length zs.length)) (some (w.heap.size + 1 + 1)) := grown_set (grown_set ⟨rfl, rfl, rfl, Nat.le_refl _, fun _ _ _ => rfl⟩ _ 0 _) _ 1 _
    have hK4 := (hgr.block D (Array.getElem?_eq_some_iff.1 hK3).1 (fun e => by injection e with e; omega)).trans hK3
    have hfin := two_set (a := .int .i64 zs.length) (b := .slice (some ⟨g, 0, none⟩) zs.length zs.length) hR3
    have hO := Own.of_blk hB hg (by rw [rowsF_length]; unfold maxLen; omega)
    rw [rowsF_length] at hO
    have hO3 := Own.kept hO hgr (.inr (by simp [Value.ownBlock]; omega))
    have hB3 : Below w.heap.size w ((w3.setCell ⟨w.heap.size + 1 + 1, 0, none⟩ (.int .i64 zs.length)).setCell ⟨w.heap.size + 1 + 1, 1, none⟩ (.slice (some ⟨g, 0, none⟩) zs.length zs.length)) := ((h3.trans (hb3.mono h3.size)).setCell (p := ⟨w.heap.size + 1 + 1, 0, none⟩) (by simp; omega) _).setCell (p := ⟨w.heap.size + 1 + 1, 1, none⟩) (by simp; omega) _
    refine leaves_marks (H := w.heap.size) [D] _ ⟨by simp, fun E hE => ?_⟩ fun W' hss hb' => ?_
    · obtain rfl : E = D := by simpa using hE
      exact ⟨by omega, hK4⟩
    · have hf2 := (hss (w.heap.size + 1 + 1) (by simp; omega)).trans hfin
      refine ⟨_, results_cell2 (p := 4) (u := 5) (ty := 26) rfl _ W' (w.heap.size + 1 + 1) 26 _ (0, 0) _ rfl hf2 Tryd.underlying26 rfl (by exact info27), ⟨_, rfl, ?_⟩, hB3.trans hb'⟩
      exact (hO3.kept (row := some D) ⟨hb'.os, hb'.tape, hb'.output, hb'.size, fun k _ hne => hss k (fun e => hne (by simpa using e))⟩ (.inr (by simp [Value.ownBlock]; omega))).base (by omega)
  case stop =>
    rintro D c pre W _ _ h _
    exact h.elim

theorem implRn_any (n : Int) (v v2 : Value) (zs ps : List Int) (w : World) (hs : Sl w v zs) (hs2 : Sl w v2 ps) (hl : zs.length ≤ 9223372036854775807) (hl2 : ps.length ≤ 1048576) (hT : Tab w) :
    Calls Tryd.prog 30 #[.agg #[.int .i64 n, v], v2] w fun e w' => GRes w.heap.size (rnN n zs ps) (rnD n zs ps) (rnC n zs ps) e w' ∧ Below w.heap.size w w' := by
  unfold rnN rnD rnC rnOk
  obtain ⟨a2, l2, c2, rfl⟩ : ∃ a l c, v2 = .slice a l c := by
    rcases hs2 with ⟨a, c, rfl, _⟩ | ⟨b, off, cap, rfl, _⟩
    · exact ⟨_, _, _, rfl⟩
    · exact ⟨_, _, _, rfl⟩
  cases hg : isG n zs with
  | false => exact implRn_no n v a2 l2 c2 zs w hs hl hT hg
  | true =>
    obtain ⟨h1, _, h3, _⟩ := isG_parts hg
    cases hr : renB n ps with
    | false => exact implRn_bad n v a2 l2 c2 zs ps w hs hs2 hl hl2 hT hg hr
    | true =>
      obtain ⟨b, off, cap, rfl, hb, hc⟩ := sl_some hs (by omega)
      obtain rfl : (zs.length : Int) = n := h3
      have hpl := (ren_parts hr).1
      obtain ⟨b2, off2, cap2, he, hb2, hc2⟩ := sl_some hs2 (by omega)
      rw [he]
      exact callsIn_wide.1 (implRn_in b off cap b2 off2 cap2 zs ps w hb hc hb2 hc2 hg hr hT)
end Go.Proofs.YtabkfihhfkmioaaDoor
