/-
  impl.GirthAt.
-/
import Derived.Test.YtehpafbhejcbmaaDoorGx8
import Derived.Test.YtehpafbhejcbmaaDoorCk2
namespace Go.Proofs.YtehpafbhejcbmaaDoor
set_option maxRecDepth 100000
set_option maxRecDepth 100000
open Go.RowKit Go.Shelf

attribute [local go_sem] Oper.semAt_some

/-- The answer of GirthAt. -/
def gaN (zs : List Int) (x : Nat) : Int := if gF zs (gaL zs x) = 63 then 0 else gF zs (gaL zs x)
def gaC (zs : List Int) (x : Nat) : Int := if gF zs (gaL zs x) = 63 then 4 else 0
theorem lenOr_gA (zs : List Int) (x : Nat) (w : World) : Calls Tryd.prog 35 #[.int .i64 (gF zs (gaL zs x))] w fun e w' => e = .returned (.tuple #[.int .i64 (gaN zs x), .int .i64 (gaC zs x)]) ∧ w = w' := lenOr_any _ _

set_option maxHeartbeats 4000000 in
theorem implGa_in (b off cap : Nat) (zs : List Int) (x : Nat) (w : World) (hb : b < w.heap.size) (hc : Cells w b off zs) (hg : isG zs.length zs = true) (hx : x < zs.length) (hT : Tab w) :
    CallsIn Fence.wide 6 Tryd.prog 15 #[.agg #[.int .i64 zs.length, .slice (some ⟨b, off, none⟩) zs.length cap], .int .i64 x] w fun e w' => e = .returned (.tuple #[.int .i64 (gaN zs x), .int .i64 (gaC zs x)]) ∧ Below w.heap.size w w' := by
  obtain ⟨g1, g2, -, g4, -⟩ := isG_iff.1 hg
  have h62 : zs.length ≤ 62 := by omega
  have hr0 := (g4 x hx).1
  have hr1 := (g4 x hx).2.1
  have hpw : 2 ^ zs.length ≤ 2 ^ 62 := Nat.pow_le_pow_right (by decide) h62
  obtain ⟨Wc, hWc⟩ : ∃ Wc, Wc = ((w.alloc (.cells #[.int .i64 zs.length, .slice (some ⟨b, off, none⟩) zs.length cap] 28)).alloc (.cells #[.int .i64 x] 2)).alloc (.cells #[.int .i64 x] 2) := ⟨_, rfl⟩
  have D0 : Below w.heap.size w Wc := by rw [hWc]; exact (((Below.refl _ _).alloc (Nat.le_refl _) _).alloc (by simp) _).alloc (by simp; omega) _
  have sc : Wc.heap.size = w.heap.size + 3 := by rw [hWc]; simp
  have hx1 := cell_one_new ((w.alloc (.cells #[.int .i64 zs.length, .slice (some ⟨b, off, none⟩) zs.length cap] 28)).alloc (.cells #[.int .i64 x] 2)) (.int .i64 x) 2
  rw [World.size_alloc, World.size_alloc, ← hWc] at hx1
  have hv := chk_some zs.length b off cap zs (w.heap.size + 1 + 1) 0 1 [(x : Int)] Wc (Nat.lt_of_lt_of_le hb D0.size) (hc.below D0 hb) (by omega) (cells_one (hx1 0 _ rfl)) hg (by omega) (by simp) (hT.belowAll D0)
  rw [vc_yes (by rw [show [(x : Int)].length = 1 from rfl, vs_one]; simp; omega)] at hv
  have HGC : Hid (Wc.heap[w.heap.size]? = some (.cells #[.int .i64 zs.length, .slice (some ⟨b, off, none⟩) zs.length cap] 28 (0, 0))) := by show _ = _; rw [hWc]; exact heap_old_at (heap_old_at (World.alloc_heap_new w _) _) _
  have HXC : Hid (Wc.heap[w.heap.size + 1]? = some (.cells #[.int .i64 x] 2 (0, 0))) := by show _ = _; rw [hWc]; exact heap_old_at (heap_new_at _ _ _ (by simp)) _
  have HCY : Hid (∀ (y : Nat) (W : World), y < zs.length → Below w.heap.size w W → Calls Tryd.prog 34 #[.agg #[.int .i64 zs.length, .slice (some ⟨b, off, none⟩) zs.length cap], .int .i64 x, .int .i64 y] W fun e w' => e = .returned (.int .i64 (cyc zs x y)) ∧ Below W.heap.size W w') := fun y W hy h =>
    cycle_some b off cap zs x y W (Nat.lt_of_lt_of_le hb h.size) (hc.below h hb) (hT.belowAll h) hg hx hy
  have HROW : Hid (∀ W, Below w.heap.size w W → W.cell? ⟨b, off + x, none⟩ = some (.int .i64 ((el zs x).toNat : Nat))) := fun W h => by
    have h1 := (hc.below h hb) x hx
    rw [h1]
    congr 2
    omega
  have HLT : Hid (∀ y, (el zs x).toNat.testBit y = true → y < zs.length) := fun y hy => by
    refine Nat.lt_of_not_le fun hle => ?_
    rw [Nat.testBit_lt_two_pow (Nat.lt_of_lt_of_le hr1 (Nat.pow_le_pow_right (by decide) hle))] at hy
    cases hy
  have HT0 := Lib.hid hT
  have HD0 := Lib.hid D0
  have hx0 : (0 : Int) ≤ x := by omega
  have hxl : (x : Int) < zs.length := by omega
  have hrl : (el zs x).toNat < 9223372036854775808 := by omega
  have HGL : Hid (gaL zs x = (mem (el zs x).toNat).map fun w => (x, w)) := rfl
  obtain ⟨r, hr⟩ : ∃ r, r = (el zs x).toNat := ⟨_, rfl⟩
  rw [← hr] at HROW HLT hrl HGL
  clear hc hg hT hx1 g4 D0 hr hr0 hr1 hpw
  refine callsIn_of_wp_marks Tryd.func15 rfl trivial ?_ rfl
  simp only [Tryd.ntmps15, List.size_toArray, List.length_cons, List.length_nil, Nat.reduceAdd, Nat.reduceSub, Array.replicate_succ, Array.replicate_zero, List.push_toArray, List.append_toArray, List.nil_append, List.cons_append]
  gi_upto_region 4 with (refine ⟨trivial, ?_⟩; gi_at_call 38; rw [← hWc]; refine (callsIn_wide.2 hv).mono ?_; rintro e w1 ⟨rfl, hb1⟩)
  have D1 := Lib.hid (HD0.out.trans (hb1.mono HD0.out.size))
  have HG1 : Hid (w1.heap[w.heap.size]? = some (.cells #[.int .i64 zs.length, .slice (some ⟨b, off, none⟩) zs.length cap] 28 (0, 0))) := (hb1.block _ (by omega)).trans HGC.out
  have HX1 : Hid (w1.heap[w.heap.size + 1]? = some (.cells #[.int .i64 x] 2 (0, 0))) := (hb1.block _ (by omega)).trans HXC.out
  have s1 : w.heap.size + 3 ≤ w1.heap.size := by have := hb1.size; omega
  clear hv hb1 HGC HXC hWc sc
  gi_upto_region 5 with fail
  obtain ⟨Wb, hWb⟩ : ∃ Wb, Wb = w1.alloc (.cells #[.int .i64 63] 2) := ⟨_, rfl⟩
  refine at_world (w' := Wb) ?_ (by rw [hWb])
  have hbb : Below w1.heap.size w1 Wb := by rw [hWb]; exact (Below.refl _ _).alloc (Nat.le_refl _) _
  have sb : Wb.heap.size = w1.heap.size + 1 := by rw [hWb]; simp
  have BXb : Hid (Bx Wb w1.heap.size 2 (.int .i64 63)) := by show Bx _ _ _ _; rw [hWb]; exact World.alloc_heap_new w1 _
  have HGb : Hid (Wb.heap[w.heap.size]? = some (.cells #[.int .i64 zs.length, .slice (some ⟨b, off, none⟩) zs.length cap] 28 (0, 0))) := (hbb.block _ (by omega)).trans HG1.out
  have HXb : Hid (Wb.heap[w.heap.size + 1]? = some (.cells #[.int .i64 x] 2 (0, 0))) := (hbb.block _ (by omega)).trans HX1.out
  obtain ⟨b0, b1, -, -⟩ := two_cells HGb.out
  have xb : Wb.cell? ⟨w.heap.size + 1, 0, none⟩ = some (.int .i64 x) := Bx.cell HXb.out
  have hrow := HROW.out Wb (D1.out.trans (hbb.mono (by omega)))
  clear hWb
  gi_wp2_with (refine ⟨trivial, ?_⟩; gi_at_call 39; refine (callsIn_wide.2 (membersOf_any _ _)).mono ?_; rintro e w' ⟨rfl, rfl⟩)
  obtain ⟨Wm, hWm⟩ : ∃ Wm, Wm = Wb.alloc (.cells #[.int .i64 r] 2) := ⟨_, rfl⟩
  refine at_world (w' := Wm) ?_ (by rw [hWm])
  have hbbm : Below Wb.heap.size Wb Wm := by rw [hWm]; exact (Below.refl _ _).alloc (Nat.le_refl _) _
  have hbm : Below w1.heap.size w1 Wm := hbb.trans (hbbm.mono (by omega))
  have sm : Wm.heap.size = w1.heap.size + 2 := by rw [hWm]; simp [sb]
  have BXm : Hid (Bx Wm w1.heap.size 2 (.int .i64 63)) := (hbbm.block _ BXb.out.lt).trans BXb.out
  have hgM : Hid (Wm.heap[w.heap.size]? = some (.cells #[.int .i64 zs.length, .slice (some ⟨b, off, none⟩) zs.length cap] 28 (0, 0))) := (hbbm.block _ (by omega)).trans HGb.out
  have hxM : Hid (Wm.heap[w.heap.size + 1]? = some (.cells #[.int .i64 x] 2 (0, 0))) := (hbbm.block _ (by omega)).trans HXb.out
  have hEm : Below w.heap.size w Wm := D1.out.trans (hbm.mono (by omega))
  have hrM : Wm.cell? ⟨w1.heap.size + 1, 0, none⟩ = some (.int .i64 r) := by
    have h := World.alloc_heap_new Wb (.cells #[.int .i64 (r : Int)] 2)
    rw [sb, ← hWm] at h
    exact Bx.cell h
  have hst := membersO_stops 5 (by omega) (w1.heap.size + 1) r hrl Wm (by omega) hrM
  clear hWm b0 b1 xb hrow BXb HGb HXb HG1 HX1 hbbm hbb sb hrM
  refine wpIn_rangeO rfl (by omega) (gf := 64) (lb := #[.pointer (some ⟨w1.heap.size + 1, 0, none⟩)]) rfl trivial (enters_of Tryd.func64 (by kernel_rfl) rfl)
    hst (fun _ _ => trivial) (fun _ _ _ _ _ _ _ _ => trivial) (Below.refl _ _) (fun _ => rfl)
    (fun A pre X => Hid (Bx X w1.heap.size 2 (.int .i64 (gF zs (pre.unattach.map fun u => (x, u))))) ∧ Below w.heap.size w X ∧ Wm.heap.size ≤ X.heap.size ∧ Hid (X.heap[w.heap.size]? = some (.cells #[.int .i64 zs.length, .slice (some ⟨b, off, none⟩) zs.length cap] 28 (0, 0))) ∧ Hid (X.heap[w.heap.size + 1]? = some (.cells #[.int .i64 x] 2 (0, 0))) ∧ Hid (∀ k, k ∈ A → k < X.heap.size))
    (fun _ _ _ => False)
    ?hI (fun _ _ _ _ _ hs _ _ => hs) ?hgr ?hRdd ?h0c (fun y => { tmps := #[.agg #[.int .i64 zs.length, .slice (some ⟨b, off, none⟩) zs.length cap], .int .i64 x, .pointer (some ⟨w.heap.size, 0, none⟩), .pointer (some ⟨w.heap.size + 1, 0, none⟩), .int .i64 0, .int .i64 0, .int .i64 0, .pointer (some ⟨w1.heap.size, 0, none⟩), .int .i64 y.1, .agg #[.int .i64 zs.length, .slice (some ⟨b, off, none⟩) zs.length cap], .int .i64 x, .slice (some ⟨w.heap.size + 1 + 1, 0, none⟩) 1 1, .int .i64 0, .int .i64 0, .bool false, undef, .pointer (some ⟨w.heap.size, 1, none⟩), .slice (some ⟨b, off, none⟩) zs.length cap, .int .i64 x, .pointer (some ⟨b, off + x, none⟩), .int .i64 r, .func (.func 64) #[] #[.pointer (some ⟨w1.heap.size + 1, 0, none⟩)], .int .i64 y.1, undef, undef, undef, undef, undef, undef, undef, undef, undef, undef], defers := [] }) ?assign ?body ?done ?stop
  case hI =>
    rintro A pre X Y row ⟨h1, h2, h3, h4, h5, h6⟩ hg hr
    exact ⟨kept_rowP hg hr (by omega) h1.out, h2.grown hg h2.size (fun k e => by have := (hr k e).1; omega), Nat.le_trans h3 hg.size, kept_rowP hg hr (by omega) h4.out, kept_rowP hg hr (by omega) h5.out, fun k hk => Nat.lt_of_lt_of_le (h6.out k hk) hg.size⟩
  case hgr =>
    rintro A pre X o hsX ⟨h1, h2, h3, h4, h5, h6⟩
    have hbX : Below X.heap.size X (X.alloc o) := (Below.refl _ _).alloc (Nat.le_refl _) _
    have lo : ∀ {q : Nat} {ob : Obj}, X.heap[q]? = some ob → (X.alloc o).heap[q]? = some ob := fun h => (hbX.block _ (Array.getElem?_eq_some_iff.1 h).1).trans h
    exact ⟨lo h1.out, h2.alloc h2.size _, by simp; omega, lo h4.out, lo h5.out, fun q hq => (List.mem_cons.1 hq).elim (fun e => by rw [e]; simp) (fun h => Nat.lt_of_lt_of_le (h6.out q h) (by simp))⟩
  case hRdd =>
    rintro A pre X ⟨h1, h2, h3, h4, h5, h6⟩
    exact HT0.out.belowAll h2
  case h0c => exact ⟨BXm, hEm, Nat.le_refl _, hgM, hxM, fun k hk => by cases hk⟩
  case assign =>
    intro l y W K hK
    gi_wp2
    exact hK
  case body =>
    rintro l A pre y W5 _ _ ⟨h1, h2, h3, h4, h5, h6⟩ hAl _ hnx
    clear hnx
    have hyt : r.testBit y.1 = true := by
      have h := y.2
      unfold mem at h
      simpa using (List.mem_filter.1 h).2
    have hyl := HLT.out y.1 hyt
    obtain ⟨GN, hGN⟩ : ∃ GN, GN = gF zs ((pre.unattach.map fun u => (x, u)) ++ [(x, y.1)]) := ⟨_, rfl⟩
    have HPRE : Hid (gF zs ((pre ++ [y]).unattach.map fun u => (x, u)) = GN) := by
      show _ = _
      rw [hGN, List.unattach_append, List.map_append]; rfl
    have HSN : Hid (GN = if cyc zs x y.1 < gF zs (pre.unattach.map fun u => (x, u)) then cyc zs x y.1 else gF zs (pre.unattach.map fun u => (x, u))) := by
      show _ = _
      rw [hGN, gF_snoc]
    have HCX := Lib.hid (fun W h => HCY.out y.1 W hyl h)
    have hmx : Tryd.prog.follows Departure.mixedOrders = true := mixed
    have w5lt : w1.heap.size < W5.heap.size := h1.out.lt
    have HRD : Hid (∀ W' : World, Below W5.heap.size W5 W' → W'.cell? ⟨w.heap.size, 0, none⟩ = some (.int .i64 zs.length) ∧ W'.cell? ⟨w.heap.size, 1, none⟩ = some (.slice (some ⟨b, off, none⟩) zs.length cap) ∧ W'.cell? ⟨w.heap.size + 1, 0, none⟩ = some (.int .i64 x) ∧ W'.cell? ⟨w1.heap.size, 0, none⟩ = some (.int .i64 (gF zs (pre.unattach.map fun u => (x, u)))) ∧ W'.frozen? ⟨w1.heap.size, 0, none⟩ = false) := fun W' hW => by
      have q0 := (hW.block _ h1.out.lt).trans h1.out
      have q1 := (hW.block _ (Array.getElem?_eq_some_iff.1 h4.out).1).trans h4.out
      have q2 := (hW.block _ (Array.getElem?_eq_some_iff.1 h5.out).1).trans h5.out
      obtain ⟨z0, z1, -, -⟩ := two_cells q1
      exact ⟨z0, z1, Bx.cell q2, Bx.cell q0, Bx.frozen q0⟩
    obtain ⟨z0, z1, zx, cv, fv⟩ := HRD.out W5 (Below.refl _ _)
    clear hGN hyt
    gi_wp2
    refine region_round (fun w' => w'.cell? ⟨w.heap.size, 0, none⟩ = some (.int .i64 zs.length) ∧ w'.cell? ⟨w.heap.size, 1, none⟩ = some (.slice (some ⟨b, off, none⟩) zs.length cap) ∧ w'.cell? ⟨w.heap.size + 1, 0, none⟩ = some (.int .i64 x)) hmx (by kernel_rfl) ⟨z0, z1, zx⟩ (fun hHeld => ?_)
    show wpAnyH _ _ _ _ _ 7 (Array.replicate 7 false) _ _
    refine wpAnyH_take (i := 1) (v := .agg #[.int .i64 zs.length, .slice (some ⟨b, off, none⟩) zs.length cap]) rfl (by kernel_rfl) (by kernel_rfl) (by kernel_rfl) (fun _ _ _ h => h) (Or.inl ⟨by rfl, fun Wt hSw => by go_split_ands; go_simp⟩) (by assumption) ?_
    simp only [List.getElem_toArray, List.getElem_cons_zero, List.getElem_cons_succ, Act.put, List.setIfInBounds_toArray, List.set_cons_zero, List.set_cons_succ]
    refine wpAnyH_take (i := 2) (v := .int .i64 x) rfl (by kernel_rfl) (by kernel_rfl) (by kernel_rfl) (fun _ _ _ h => h) (Or.inl ⟨by rfl, fun Wt hSw => by go_split_ands; go_simp⟩) (by assumption) ?_
    simp only [List.getElem_toArray, List.getElem_cons_zero, List.getElem_cons_succ, Act.put, List.setIfInBounds_toArray, List.set_cons_zero, List.set_cons_succ]
    refine wpAnyH_take (i := 3) (v := .int .i64 y.1) rfl (by kernel_rfl) (by kernel_rfl) (by kernel_rfl) (fun _ _ _ h => h) (Or.inl ⟨by rfl, fun Wt hSw => by go_split_ands; go_simp⟩) (by assumption) ?_
    simp only [List.getElem_toArray, List.getElem_cons_zero, List.getElem_cons_succ, Act.put, List.setIfInBounds_toArray, List.set_cons_zero, List.set_cons_succ]
    refine wpAnyH_ready (rs := [0, 4]) (by kernel_rfl) (by simp) ?_
    refine AllReadyH.cons rfl (fun K hK => ?_) (AllReadyH.cons rfl (fun K hK => ?_) AllReadyH.nil)
    · skip
      go_simp
      refine hK.out _ _ ⟨z0, z1, zx⟩ (fun hHeld => ?_)
      clear hK K
      refine wpAnyH_ready (rs := [4]) (by kernel_rfl) (by simp) ?_
      refine AllReadyH.cons rfl (fun K hK => ?_) AllReadyH.nil
      go_simp
      refine (HCX.out _ (h2.drew)).mono ?_
      rintro e w6 ⟨rfl, hb6⟩
      have B6 : Below W5.heap.size W5 w6 := ((Below.refl _ _).drew).trans (hb6.mono (by simp))
      obtain ⟨z0, z1, zx, cv, fv⟩ := HRD.out w6 B6
      refine hK.out _ _ ⟨z0, z1, zx⟩ (fun hHeld => ?_)
      clear hK K hb6
      refine wpAnyH_ready (rs := [5]) (by kernel_rfl) (by simp) ?_
      refine AllReadyH.cons rfl (fun K hK => ?_) AllReadyH.nil
      go_simp
      refine hK.out _ _ ⟨z0, z1, zx⟩ (fun hHeld => ?_)
      clear hK K
      refine wpAnyH_ready (rs := [6]) (by kernel_rfl) (by simp) ?_
      refine AllReadyH.cons rfl (fun K hK => ?_) AllReadyH.nil
      go_simp
      refine hK.out _ _ ⟨(World.cell?_setCell_far _ _ _ _ (by simp; omega)).trans z0, (World.cell?_setCell_far _ _ _ _ (by simp <;> omega)).trans z1, (World.cell?_setCell_far _ _ _ _ (by simp; omega)).trans zx⟩ (fun hHeld => ?_)
      clear hK K
      refine wpAnyH_done (by kernel_rfl) ?_ _
      rw [← HSN.out]
      have Bd7 : Below w.heap.size w (w6.setCell ⟨w1.heap.size, 0, none⟩ (.int .i64 GN)) := (h2.trans (B6.mono (by omega))).setCell (p := ⟨w1.heap.size, 0, none⟩) (by simp; omega) _
      have hg9 := grown_setP w6 w1.heap.size 0 (.int .i64 GN)
      have q8 : Hid (Bx (w6.setCell ⟨w1.heap.size, 0, none⟩ (.int .i64 GN)) w1.heap.size 2 (.int .i64 GN)) := Bx.set ((B6.block _ w5lt).trans h1.out) _
      have hkf : KeepsFrom Wm.heap.size W5 (w6.setCell ⟨w1.heap.size, 0, none⟩ (.int .i64 GN)) := (keeps_grown (row := none) (grown_of_below B6 none) (fun r e => by cases e)).trans ((KeepsOthers.setCell _ _ _).from _)
      have lo : Hid (∀ k, k < W5.heap.size → k ≠ w1.heap.size → (w6.setCell ⟨w1.heap.size, 0, none⟩ (.int .i64 GN)).heap[k]? = W5.heap[k]?) := fun k hk hne => (hg9.block _ (Nat.lt_of_lt_of_le hk B6.size) (fun e => hne (by injection e))).trans (B6.block _ hk)
      have s7 : W5.heap.size ≤ (w6.setCell ⟨w1.heap.size, 0, none⟩ (.int .i64 GN)).heap.size := Nat.le_trans B6.size hg9.size
      exact ⟨hkf, ⟨trivial, fun k hk => lo.out k (h6.out k hk) (by have := hAl k hk; omega)⟩, by show Hid (Bx _ _ _ _); rw [HPRE.out]; exact q8, Bd7, by omega, (lo.out _ (Array.getElem?_eq_some_iff.1 h4.out).1 (by omega)).trans h4.out, (lo.out _ (Array.getElem?_eq_some_iff.1 h5.out).1 (by omega)).trans h5.out, fun k hk => Nat.lt_of_lt_of_le (h6.out k hk) s7⟩
    · skip
      go_simp
      refine (HCX.out _ (h2.drew)).mono ?_
      rintro e w6 ⟨rfl, hb6⟩
      have B6 : Below W5.heap.size W5 w6 := ((Below.refl _ _).drew).trans (hb6.mono (by simp))
      obtain ⟨z0, z1, zx, cv, fv⟩ := HRD.out w6 B6
      refine hK.out _ _ ⟨z0, z1, zx⟩ (fun hHeld => ?_)
      clear hK K hb6
      refine wpAnyH_ready (rs := [0]) (by kernel_rfl) (by simp) ?_
      refine AllReadyH.cons rfl (fun K hK => ?_) AllReadyH.nil
      go_simp
      refine hK.out _ _ ⟨z0, z1, zx⟩ (fun hHeld => ?_)
      clear hK K
      refine wpAnyH_ready (rs := [5]) (by kernel_rfl) (by simp) ?_
      refine AllReadyH.cons rfl (fun K hK => ?_) AllReadyH.nil
      go_simp
      refine hK.out _ _ ⟨z0, z1, zx⟩ (fun hHeld => ?_)
      clear hK K
      refine wpAnyH_ready (rs := [6]) (by kernel_rfl) (by simp) ?_
      refine AllReadyH.cons rfl (fun K hK => ?_) AllReadyH.nil
      go_simp
      refine hK.out _ _ ⟨(World.cell?_setCell_far _ _ _ _ (by simp; omega)).trans z0, (World.cell?_setCell_far _ _ _ _ (by simp <;> omega)).trans z1, (World.cell?_setCell_far _ _ _ _ (by simp; omega)).trans zx⟩ (fun hHeld => ?_)
      clear hK K
      refine wpAnyH_done (by kernel_rfl) ?_ _
      rw [← HSN.out]
      have Bd7 : Below w.heap.size w (w6.setCell ⟨w1.heap.size, 0, none⟩ (.int .i64 GN)) := (h2.trans (B6.mono (by omega))).setCell (p := ⟨w1.heap.size, 0, none⟩) (by simp; omega) _
      have hg9 := grown_setP w6 w1.heap.size 0 (.int .i64 GN)
      have q8 : Hid (Bx (w6.setCell ⟨w1.heap.size, 0, none⟩ (.int .i64 GN)) w1.heap.size 2 (.int .i64 GN)) := Bx.set ((B6.block _ w5lt).trans h1.out) _
      have hkf : KeepsFrom Wm.heap.size W5 (w6.setCell ⟨w1.heap.size, 0, none⟩ (.int .i64 GN)) := (keeps_grown (row := none) (grown_of_below B6 none) (fun r e => by cases e)).trans ((KeepsOthers.setCell _ _ _).from _)
      have lo : Hid (∀ k, k < W5.heap.size → k ≠ w1.heap.size → (w6.setCell ⟨w1.heap.size, 0, none⟩ (.int .i64 GN)).heap[k]? = W5.heap[k]?) := fun k hk hne => (hg9.block _ (Nat.lt_of_lt_of_le hk B6.size) (fun e => hne (by injection e))).trans (B6.block _ hk)
      have s7 : W5.heap.size ≤ (w6.setCell ⟨w1.heap.size, 0, none⟩ (.int .i64 GN)).heap.size := Nat.le_trans B6.size hg9.size
      exact ⟨hkf, ⟨trivial, fun k hk => lo.out k (h6.out k hk) (by have := hAl k hk; omega)⟩, by show Hid (Bx _ _ _ _); rw [HPRE.out]; exact q8, Bd7, by omega, (lo.out _ (Array.getElem?_eq_some_iff.1 h4.out).1 (by omega)).trans h4.out, (lo.out _ (Array.getElem?_eq_some_iff.1 h5.out).1 (by omega)).trans h5.out, fun k hk => Nat.lt_of_lt_of_le (h6.out k hk) s7⟩
  case done =>
    rintro D A ys W2 hDD rfl ⟨h1, h2, h3, h4, h5, h6⟩ hK
    have HQ : Hid (Bx W2 w1.heap.size 2 (.int .i64 (gF zs (gaL zs x)))) := by
      show Bx _ _ _ _
      rw [HGL.out, ← show (memL r).unattach = mem r from memL_val _]
      exact h1.out
    have cv := HQ.out.cell
    have fv := HQ.out.frozen
    clear h1 h4 h5 h6
    gi_wp2
    refine ⟨trivial, ?_⟩
    gi_at_call 35
    refine (callsIn_wide.2 (lenOr_gA zs x _)).mono ?_
    rintro e w' ⟨rfl, rfl⟩
    gi_wp2
    refine leaves_marks (H := w.heap.size) [D] _ ⟨by simp, fun E hE => ?_⟩ fun W' hss hb' => ?_
    · obtain rfl : E = D := by simpa using hE
      exact ⟨by omega, hK⟩
    · exact ⟨_, results_tmp2 rfl _ _ _, rfl, h2.trans hb'⟩
  case stop =>
    rintro D cd pre W2 hDD _ h _
    exact h.elim
end Go.Proofs.YtehpafbhejcbmaaDoor
