/-
  impl.CountShortest. (gen/mk_dq9.py)
-/
import Derived.Test.YtabkfihhfkmioaaDoorCz9
import Derived.Test.YtabkfihhfkmioaaDoorCy9
namespace Go.Proofs.YtabkfihhfkmioaaDoor
set_option maxRecDepth 100000
open Go.RowKit Go.Shelf

attribute [local go_sem] Oper.semAt_some

/-- The cycles of the length G through the edges of a list, each as often as it has edges there. -/
def sT (zs : List Int) (G : Int) (q : List (Nat × Nat)) : Int := q.foldl (fun s p => IntKind.i64.wrap (s + ctN zs p.1 p.2 G)) 0
/-- The number of the shortest cycles. -/
def csN (zs : List Int) : Int := if gF zs (edL zs) = 63 then 0 else wrap64 (Int.tdiv (sT zs (gF zs (edL zs)) (edL zs)) (gF zs (edL zs)))
theorem sT_snoc (zs : List Int) (G : Int) (q : List (Nat × Nat)) (p : Nat × Nat) : sT zs G (q ++ [p]) = IntKind.i64.wrap (sT zs G q + ctN zs p.1 p.2 G) := by unfold sT; rw [List.foldl_append]; rfl

set_option maxHeartbeats 4000000 in
theorem implCs_in (b off cap : Nat) (zs : List Int) (w : World) (hb : b < w.heap.size) (hc : Cells w b off zs) (hg : isG zs.length zs = true) (hT : Tab w) (hne : gF zs (edL zs) ≠ 63) :
    CallsIn Fence.wide 6 Tryd.prog 36 #[.agg #[.int .i64 zs.length, .slice (some ⟨b, off, none⟩) zs.length cap]] w fun e w' => e = .returned (.tuple #[.int .i64 (csN zs), .int .i64 0]) ∧ Below w.heap.size w w' := by
  obtain ⟨g1, g2, -, g4, g5⟩ := isG_iff.1 hg
  have h62 : zs.length ≤ 62 := by omega
  have HZ : Hid (∀ i, i < zs.length → (el zs i).toNat < 2 ^ zs.length) := fun i hi => (g4 i hi).2.1
  have h3 : 3 ≤ gF zs (edL zs) := gF_le.2 ⟨by omega, fun p hp => by
    have := edL_lt hp HZ.out
    exact cyc_ge (by omega) (by omega)⟩
  have h63 : gF zs (edL zs) ≤ 63 := (gF_le.1 (Int.le_refl _)).1
  have D0 : Below w.heap.size w (w.alloc (.cells #[.int .i64 zs.length, .slice (some ⟨b, off, none⟩) zs.length cap] 26)) := (Below.refl _ _).alloc (Nat.le_refl _) _
  have hgo : Calls Tryd.prog 88 #[.agg #[.int .i64 zs.length, .slice (some ⟨b, off, none⟩) zs.length cap]] (w.alloc (.cells #[.int .i64 zs.length, .slice (some ⟨b, off, none⟩) zs.length cap] 26)) fun e w' => e = .returned (.tuple #[.int .i64 (gF zs (edL zs)), .int .i64 0]) ∧ Below (w.alloc (.cells #[.int .i64 zs.length, .slice (some ⟨b, off, none⟩) zs.length cap] 26)).heap.size (w.alloc (.cells #[.int .i64 zs.length, .slice (some ⟨b, off, none⟩) zs.length cap] 26)) w' := by
    have h := implGi_in b off cap zs _ (Nat.lt_of_lt_of_le hb D0.size) (hc.below D0 hb) hg (hT.belowAll D0)
    unfold goN goC at h
    rw [if_neg hne, if_neg hne] at h
    exact callsIn_wide.1 h
  have HG := Lib.hid hg
  have HT0 := Lib.hid hT
  have HC0 := Lib.hid hc
  have HCS : Hid (csN zs = wrap64 (Int.tdiv (sT zs (gF zs (edL zs)) (edL zs)) (gF zs (edL zs)))) := by
    show _ = _
    unfold csN
    rw [if_neg hne]
  have HLE : Hid (∀ p, p ∈ edL zs → p.1 < zs.length ∧ p.2 < zs.length ∧ gF zs (edL zs) ≤ cyc zs p.1 p.2) := fun p hp => by
    have := edL_lt hp HZ.out
    exact ⟨by omega, by omega, (gF_le.1 (Int.le_refl _)).2 p hp⟩
  have HGB := Lib.hid (World.alloc_heap_new w (.cells #[.int .i64 zs.length, .slice (some ⟨b, off, none⟩) zs.length cap] 26))
  generalize gF zs (edL zs) = G at *
  have HCY : Hid (∀ (p : Nat × Nat) (W : World), p ∈ edL zs → Below w.heap.size w W → Calls Tryd.prog 89 #[.agg #[.int .i64 zs.length, .slice (some ⟨b, off, none⟩) zs.length cap], .int .i64 p.1, .int .i64 p.2, .int .i64 G] W fun e w' => e = .returned (.int .i64 (ctN zs p.1 p.2 G)) ∧ Below W.heap.size W w') := fun p W hp h => by
    obtain ⟨q1, q2, q3⟩ := HLE.out p hp
    obtain ⟨g, rfl⟩ := Int.eq_ofNat_of_zero_le (show 0 ≤ G by omega)
    exact callsIn_wide.1 (cycles_in b off cap zs p.1 p.2 g W (Nat.lt_of_lt_of_le hb h.size) (HC0.out.below h hb) (HT0.out.belowAll h) HG.out q1 q2 (by omega) q3)
  clear hc hg hT g4 g5 hne HLE
  refine callsIn_of_wp_marks Tryd.func36 rfl trivial ?_ rfl
  simp only [Tryd.ntmps36, List.size_toArray, List.length_cons, List.length_nil, Nat.reduceAdd, Nat.reduceSub, Array.replicate_succ, Array.replicate_zero, List.push_toArray, List.append_toArray, List.nil_append, List.cons_append]
  gi_upto_region 5 with (refine ⟨trivial, ?_⟩; gi_at_call 88; refine (callsIn_wide.2 hgo).mono ?_; rintro e w1 ⟨rfl, hb1⟩)
  have GB1 := Lib.hid ((hb1.block w.heap.size (by simp)).trans HGB.out)
  have D1 : Below w.heap.size w w1 := D0.trans (hb1.mono (by simp))
  have s1 : w.heap.size < w1.heap.size := (Array.getElem?_eq_some_iff.1 GB1.out).1
  clear hgo hb1 D0 HGB
  obtain ⟨Wb, hWb⟩ : ∃ Wb, Wb = (w1.alloc (.cells #[.int .i64 G] 2)).alloc (.cells #[.int .i64 0] 2) := ⟨_, rfl⟩
  refine at_world (w' := Wb) ?_ (by rw [hWb])
  have hbb : Below w1.heap.size w1 Wb := by rw [hWb]; exact ((Below.refl _ _).alloc (Nat.le_refl _) _).alloc (by simp) _
  have sb : Wb.heap.size = w1.heap.size + 2 := by rw [hWb]; simp
  have BGb : Hid (Bx Wb w1.heap.size 2 (.int .i64 G)) := by show Bx _ _ _ _; rw [hWb]; exact heap_old_at (World.alloc_heap_new w1 _) _
  have BXb : Hid (Bx Wb (w1.heap.size + 1) 2 (.int .i64 0)) := by show Bx _ _ _ _; rw [hWb]; exact heap_new_at _ _ _ (by simp)
  obtain ⟨b0, b1, -, -⟩ := two_cells ((hbb.block _ s1).trans GB1.out)
  clear hWb
  gi_wp2_with (refine ⟨trivial, ?_⟩; gi_at_call 82; refine (callsIn_wide.2 (edgesIn_any _ _ _)).mono ?_; rintro e w' ⟨rfl, rfl⟩)
  obtain ⟨Wm, hWm⟩ : ∃ Wm, Wm = Wb.alloc (.cells #[.int .i64 zs.length, .slice (some ⟨b, off, none⟩) zs.length cap] 26) := ⟨_, rfl⟩
  refine at_world (w' := Wm) ?_ (by rw [hWm])
  have hbbm : Below Wb.heap.size Wb Wm := by rw [hWm]; exact (Below.refl _ _).alloc (Nat.le_refl _) _
  have hbm : Below w1.heap.size w1 Wm := hbb.trans (hbbm.mono hbb.size)
  have sm : Wm.heap.size = w1.heap.size + 3 := by rw [hWm]; simp [sb]
  have BXm : Hid (Bx Wm (w1.heap.size + 1) 2 (.int .i64 (sT zs G []))) := (hbbm.block _ BXb.out.lt).trans BXb.out
  have BGm : Hid (Bx Wm w1.heap.size 2 (.int .i64 G)) := (hbbm.block _ BGb.out.lt).trans BGb.out
  have haM : Hid (Wm.heap[w1.heap.size + 2]? = some (.cells #[.int .i64 zs.length, .slice (some ⟨b, off, none⟩) zs.length cap] 26 (0, 0))) := by show _ = _; rw [hWm, ← sb]; exact World.alloc_heap_new Wb _
  have hgM : Hid (Wm.heap[w.heap.size]? = some (.cells #[.int .i64 zs.length, .slice (some ⟨b, off, none⟩) zs.length cap] 26 (0, 0))) := (hbm.block _ s1).trans GB1.out
  have hEm : Below w.heap.size w Wm := D1.trans (hbm.mono (by omega))
  have hst := edges_stops 5 (by omega) (w1.heap.size + 2) b off cap zs HG.out Wm
  clear hWm b0 b1 BXb BGb hbbm hbb sb
  refine wpIn_rangeO rfl (by omega) (gf := 110) (lb := #[.pointer (some ⟨w1.heap.size + 2, 0, none⟩)]) rfl trivial (enters_of Tryd.func110 (by kernel_rfl) rfl)
    hst (fun _ _ => trivial) (fun _ _ _ _ _ _ _ _ => trivial) (Below.refl _ _) (fun _ => rfl)
    (fun A pre X => Hid (Bx X (w1.heap.size + 1) 2 (.int .i64 (sT zs G pre))) ∧ Below w.heap.size w X ∧ Wm.heap.size ≤ X.heap.size ∧ Hid (X.heap[w1.heap.size + 2]? = some (.cells #[.int .i64 zs.length, .slice (some ⟨b, off, none⟩) zs.length cap] 26 (0, 0))) ∧ Hid (X.heap[w.heap.size]? = some (.cells #[.int .i64 zs.length, .slice (some ⟨b, off, none⟩) zs.length cap] 26 (0, 0))) ∧ Hid (∀ k, k ∈ A → k < X.heap.size) ∧ Hid (Bx X w1.heap.size 2 (.int .i64 G)))
    (fun _ _ _ => False)
    ?hI (fun _ _ _ _ _ hs _ _ => hs) ?hgr ?hRdd ?h0c (fun x => { tmps := #[.agg #[.int .i64 zs.length, .slice (some ⟨b, off, none⟩) zs.length cap], .pointer (some ⟨w.heap.size, 0, none⟩), .int .i64 0, .int .i64 0, .pointer (some ⟨w1.heap.size, 0, none⟩), .int .i64 0, .pointer (some ⟨w1.heap.size + 1, 0, none⟩), .int .i64 x.1, .int .i64 x.2, .tuple #[.int .i64 G, .int .i64 0], .agg #[.int .i64 zs.length, .slice (some ⟨b, off, none⟩) zs.length cap], .tuple #[.int .i64 G, .int .i64 0], .int .i64 G, .int .i64 0, .int .i64 0, .bool false, undef, .agg #[.int .i64 zs.length, .slice (some ⟨b, off, none⟩) zs.length cap], .func (.func 110) #[] #[.pointer (some ⟨w1.heap.size + 2, 0, none⟩)], .int .i64 x.1, .int .i64 x.2, undef, undef, undef, undef, undef, undef, undef, undef, undef, undef], defers := [] }) ?assign ?body ?done ?stop
  case hI =>
    rintro A pre X Y row ⟨h1, h2, h3, h4, h5, h6, h7⟩ hg hr
    exact ⟨kept_rowP hg hr (by omega) h1.out, h2.grown hg h2.size (fun k e => by have := (hr k e).1; omega), Nat.le_trans h3 hg.size, kept_rowP hg hr (by omega) h4.out, kept_rowP hg hr (by omega) h5.out, fun k hk => Nat.lt_of_lt_of_le (h6.out k hk) hg.size, kept_rowP hg hr (by omega) h7.out⟩
  case hgr =>
    rintro A pre X o hsX ⟨h1, h2, h3, h4, h5, h6, h7⟩
    have hbX : Below X.heap.size X (X.alloc o) := (Below.refl _ _).alloc (Nat.le_refl _) _
    have lo : ∀ {q : Nat} {ob : Obj}, X.heap[q]? = some ob → (X.alloc o).heap[q]? = some ob := fun h => (hbX.block _ (Array.getElem?_eq_some_iff.1 h).1).trans h
    exact ⟨lo h1.out, h2.alloc h2.size _, by simp; omega, lo h4.out, lo h5.out, fun q hq => (List.mem_cons.1 hq).elim (fun e => by rw [e]; simp) (fun h => Nat.lt_of_lt_of_le (h6.out q h) (by simp)), lo h7.out⟩
  case hRdd =>
    rintro A pre X ⟨h1, h2, h3, h4, h5, h6, h7⟩
    exact ⟨h4.out, HC0.out.below h2 hb, HT0.out.belowAll h2⟩
  case h0c => exact ⟨BXm, hEm, Nat.le_refl _, haM, hgM, fun k hk => (by cases hk), BGm⟩
  case assign =>
    intro l y W K hK
    gi_wp2
    exact hK
  case body =>
    rintro l A pre x W5 _ _ ⟨h1, h2, h3, h4, h5, h6, h7⟩ hAl _ hnx
    have hmem : x ∈ edL zs := hnx.subset (List.mem_append_right _ List.mem_cons_self)
    have HCX := Lib.hid (fun W h => HCY.out x W hmem h)
    obtain ⟨v1, v2⟩ := x
    have HSN0 := sT_snoc zs G pre (v1, v2)
    have hmx : Tryd.prog.follows Departure.mixedOrders = true := mixed
    have w5lt : w1.heap.size + 1 < W5.heap.size := h1.out.lt
    obtain ⟨S, hS⟩ : ∃ S, S = sT zs G pre := ⟨_, rfl⟩
    obtain ⟨C, hC⟩ : ∃ C, C = ctN zs v1 v2 G := ⟨_, rfl⟩
    obtain ⟨SV, hsv⟩ : ∃ SV, IntKind.i64.wrap (S + C) = SV := ⟨_, rfl⟩
    have HSN : Hid (sT zs G (pre ++ [(v1, v2)]) = SV) := by show _ = _; rw [HSN0, ← hS, ← hsv, hC]
    rw [← hS] at h1
    rw [show ctN zs (v1, v2).1 (v1, v2).2 G = C from hC.symm] at HCX
    have HRD : Hid (∀ W' : World, Below W5.heap.size W5 W' → W'.cell? ⟨w.heap.size, 0, none⟩ = some (.int .i64 zs.length) ∧ W'.cell? ⟨w.heap.size, 1, none⟩ = some (.slice (some ⟨b, off, none⟩) zs.length cap) ∧ W'.cell? ⟨w1.heap.size, 0, none⟩ = some (.int .i64 G) ∧ W'.cell? ⟨w1.heap.size + 1, 0, none⟩ = some (.int .i64 S) ∧ W'.frozen? ⟨w1.heap.size + 1, 0, none⟩ = false) := fun W' hW => by
      have q0 := (hW.block _ h1.out.lt).trans h1.out
      have q1 := (hW.block _ (Array.getElem?_eq_some_iff.1 h5.out).1).trans h5.out
      have q2 := (hW.block _ h7.out.lt).trans h7.out
      obtain ⟨z0, z1, -, -⟩ := two_cells q1
      exact ⟨z0, z1, Bx.cell q2, Bx.cell q0, Bx.frozen q0⟩
    obtain ⟨z0, z1, zx, cv, fv⟩ := HRD.out W5 (Below.refl _ _)
    clear hnx hS hC HSN0 hmem
    gi_wp2
    refine region_round (fun w' => w'.cell? ⟨w.heap.size, 0, none⟩ = some (.int .i64 zs.length) ∧ w'.cell? ⟨w.heap.size, 1, none⟩ = some (.slice (some ⟨b, off, none⟩) zs.length cap) ∧ w'.cell? ⟨w1.heap.size, 0, none⟩ = some (.int .i64 G)) hmx (by kernel_rfl) ⟨z0, z1, zx⟩ (fun hHeld => ?_)
    show wpAnyH _ _ _ _ _ 8 (Array.replicate 8 false) _ _
    refine wpAnyH_take (i := 1) (v := .agg #[.int .i64 zs.length, .slice (some ⟨b, off, none⟩) zs.length cap]) rfl (by kernel_rfl) (by kernel_rfl) (by kernel_rfl) (fun _ _ _ h => h) (Or.inl ⟨by rfl, fun Wt hSw => by go_split_ands; go_simp⟩) (by assumption) ?_
    simp only [List.getElem_toArray, List.getElem_cons_zero, List.getElem_cons_succ, Act.put, List.setIfInBounds_toArray, List.set_cons_zero, List.set_cons_succ]
    refine wpAnyH_take (i := 2) (v := .int .i64 v1) rfl (by kernel_rfl) (by kernel_rfl) (by kernel_rfl) (fun _ _ _ h => h) (Or.inl ⟨by rfl, fun Wt hSw => by go_split_ands; go_simp⟩) (by assumption) ?_
    simp only [List.getElem_toArray, List.getElem_cons_zero, List.getElem_cons_succ, Act.put, List.setIfInBounds_toArray, List.set_cons_zero, List.set_cons_succ]
    refine wpAnyH_take (i := 3) (v := .int .i64 v2) rfl (by kernel_rfl) (by kernel_rfl) (by kernel_rfl) (fun _ _ _ h => h) (Or.inl ⟨by rfl, fun Wt hSw => by go_split_ands; go_simp⟩) (by assumption) ?_
    simp only [List.getElem_toArray, List.getElem_cons_zero, List.getElem_cons_succ, Act.put, List.setIfInBounds_toArray, List.set_cons_zero, List.set_cons_succ]
    refine wpAnyH_take (i := 4) (v := .int .i64 G) rfl (by kernel_rfl) (by kernel_rfl) (by kernel_rfl) (fun _ _ _ h => h) (Or.inl ⟨by rfl, fun Wt hSw => by go_split_ands; go_simp⟩) (by assumption) ?_
    simp only [List.getElem_toArray, List.getElem_cons_zero, List.getElem_cons_succ, Act.put, List.setIfInBounds_toArray, List.set_cons_zero, List.set_cons_succ]
    refine wpAnyH_ready (rs := [0, 5]) (by kernel_rfl) (by simp) ?_
    refine AllReadyH.cons rfl (fun K hK => ?_) (AllReadyH.cons rfl (fun K hK => ?_) AllReadyH.nil)
    · skip
      go_simp
      refine hK.out _ _ ⟨z0, z1, zx⟩ (fun hHeld => ?_)
      clear hK K
      refine wpAnyH_ready (rs := [5]) (by kernel_rfl) (by simp) ?_
      refine AllReadyH.cons rfl (fun K hK => ?_) AllReadyH.nil
      go_simp
      refine (HCX.out _ (h2.drew)).mono ?_
      rintro e w6 ⟨rfl, hb6⟩
      have B6 : Below W5.heap.size W5 w6 := ((Below.refl _ _).drew).trans (hb6.mono (by simp))
      obtain ⟨z0, z1, zx, cv, fv⟩ := HRD.out w6 B6
      refine hK.out _ _ ⟨z0, z1, zx⟩ (fun hHeld => ?_)
      clear hK K hb6
      refine wpAnyH_ready (rs := [6]) (by kernel_rfl) (by simp) ?_
      refine AllReadyH.cons rfl (fun K hK => ?_) AllReadyH.nil
      go_simp
      refine hK.out _ _ ⟨z0, z1, zx⟩ (fun hHeld => ?_)
      clear hK K
      refine wpAnyH_ready (rs := [7]) (by kernel_rfl) (by simp) ?_
      refine AllReadyH.cons rfl (fun K hK => ?_) AllReadyH.nil
      go_simp
      refine hK.out _ _ ⟨(World.cell?_setCell_far _ _ _ _ (by simp; omega)).trans z0, (World.cell?_setCell_far _ _ _ _ (by simp <;> omega)).trans z1, (World.cell?_setCell_far _ _ _ _ (by simp)).trans zx⟩ (fun hHeld => ?_)
      clear hK K
      refine wpAnyH_done (by kernel_rfl) ?_ _
      have Bd7 : Below w.heap.size w (w6.setCell ⟨w1.heap.size + 1, 0, none⟩ (.int .i64 SV)) := (h2.trans (B6.mono (by omega))).setCell (p := ⟨w1.heap.size + 1, 0, none⟩) (by simp; omega) _
      have hg9 := grown_setP w6 (w1.heap.size + 1) 0 (.int .i64 SV)
      have q8 : Hid (Bx (w6.setCell ⟨w1.heap.size + 1, 0, none⟩ (.int .i64 SV)) (w1.heap.size + 1) 2 (.int .i64 SV)) := Bx.set ((B6.block _ w5lt).trans h1.out) _
      have hkf : KeepsFrom Wm.heap.size W5 (w6.setCell ⟨w1.heap.size + 1, 0, none⟩ (.int .i64 SV)) := (keeps_grown (row := none) (grown_of_below B6 none) (fun r e => by cases e)).trans ((KeepsOthers.setCell _ _ _).from _)
      have lo : Hid (∀ k, k < W5.heap.size → k ≠ w1.heap.size + 1 → (w6.setCell ⟨w1.heap.size + 1, 0, none⟩ (.int .i64 SV)).heap[k]? = W5.heap[k]?) := fun k hk hne => (hg9.block _ (Nat.lt_of_lt_of_le hk B6.size) (fun e => hne (by injection e))).trans (B6.block _ hk)
      have s7 : W5.heap.size ≤ (w6.setCell ⟨w1.heap.size + 1, 0, none⟩ (.int .i64 SV)).heap.size := Nat.le_trans B6.size hg9.size
      exact ⟨hkf, ⟨trivial, fun k hk => lo.out k (h6.out k hk) (by have := hAl k hk; omega)⟩, by show Hid (Bx _ _ _ _); rw [HSN.out]; exact q8, Bd7, by omega, (lo.out _ (Array.getElem?_eq_some_iff.1 h4.out).1 (by omega)).trans h4.out, (lo.out _ (Array.getElem?_eq_some_iff.1 h5.out).1 (by omega)).trans h5.out, fun k hk => Nat.lt_of_lt_of_le (h6.out k hk) s7, (lo.out _ h7.out.lt (by omega)).trans h7.out⟩
    · skip
      go_simp
      refine (HCX.out _ (h2.drew)).mono ?_
      rintro e w6 ⟨rfl, hb6⟩
      have B6 : Below W5.heap.size W5 w6 := ((Below.refl _ _).drew).trans (hb6.mono (by simp))
      obtain ⟨z0, z1, zx, cv, fv⟩ := HRD.out w6 B6
      refine hK.out _ _ ⟨z0, z1, zx⟩ (fun hHeld => ?_)
      clear hK K hb6
      refine wpAnyH_ready (rs := [0]) (by kernel_rfl) (by simp) ?_
      refine AllReadyH.cons rfl (fun K hK => ?_) AllReadyH.nil
      go_simp
      refine hK.out _ _ ⟨z0, z1, zx⟩ (fun hHeld => ?_)
      clear hK K
      refine wpAnyH_ready (rs := [6]) (by kernel_rfl) (by simp) ?_
      refine AllReadyH.cons rfl (fun K hK => ?_) AllReadyH.nil
      go_simp
      refine hK.out _ _ ⟨z0, z1, zx⟩ (fun hHeld => ?_)
      clear hK K
      refine wpAnyH_ready (rs := [7]) (by kernel_rfl) (by simp) ?_
      refine AllReadyH.cons rfl (fun K hK => ?_) AllReadyH.nil
      go_simp
      refine hK.out _ _ ⟨(World.cell?_setCell_far _ _ _ _ (by simp; omega)).trans z0, (World.cell?_setCell_far _ _ _ _ (by simp <;> omega)).trans z1, (World.cell?_setCell_far _ _ _ _ (by simp)).trans zx⟩ (fun hHeld => ?_)
      clear hK K
      refine wpAnyH_done (by kernel_rfl) ?_ _
      have Bd7 : Below w.heap.size w (w6.setCell ⟨w1.heap.size + 1, 0, none⟩ (.int .i64 SV)) := (h2.trans (B6.mono (by omega))).setCell (p := ⟨w1.heap.size + 1, 0, none⟩) (by simp; omega) _
      have hg9 := grown_setP w6 (w1.heap.size + 1) 0 (.int .i64 SV)
      have q8 : Hid (Bx (w6.setCell ⟨w1.heap.size + 1, 0, none⟩ (.int .i64 SV)) (w1.heap.size + 1) 2 (.int .i64 SV)) := Bx.set ((B6.block _ w5lt).trans h1.out) _
      have hkf : KeepsFrom Wm.heap.size W5 (w6.setCell ⟨w1.heap.size + 1, 0, none⟩ (.int .i64 SV)) := (keeps_grown (row := none) (grown_of_below B6 none) (fun r e => by cases e)).trans ((KeepsOthers.setCell _ _ _).from _)
      have lo : Hid (∀ k, k < W5.heap.size → k ≠ w1.heap.size + 1 → (w6.setCell ⟨w1.heap.size + 1, 0, none⟩ (.int .i64 SV)).heap[k]? = W5.heap[k]?) := fun k hk hne => (hg9.block _ (Nat.lt_of_lt_of_le hk B6.size) (fun e => hne (by injection e))).trans (B6.block _ hk)
      have s7 : W5.heap.size ≤ (w6.setCell ⟨w1.heap.size + 1, 0, none⟩ (.int .i64 SV)).heap.size := Nat.le_trans B6.size hg9.size
      exact ⟨hkf, ⟨trivial, fun k hk => lo.out k (h6.out k hk) (by have := hAl k hk; omega)⟩, by show Hid (Bx _ _ _ _); rw [HSN.out]; exact q8, Bd7, by omega, (lo.out _ (Array.getElem?_eq_some_iff.1 h4.out).1 (by omega)).trans h4.out, (lo.out _ (Array.getElem?_eq_some_iff.1 h5.out).1 (by omega)).trans h5.out, fun k hk => Nat.lt_of_lt_of_le (h6.out k hk) s7, (lo.out _ h7.out.lt (by omega)).trans h7.out⟩
  case done =>
    rintro D A ys W2 hDD rfl ⟨h1, h2, h3, h4, h5, h6, h7⟩ hK
    have cv := h1.out.cell
    have cg := h7.out.cell
    clear h4 h5 h6
    have HSS : Hid (csN zs = wrap64 (Int.tdiv (sT zs G (edL zs)) G)) := HCS.out
    generalize sT zs G (edL zs) = S at *
    have hG0 : (G == 0) = false := by rw [beq_eq_false_iff_ne]; omega
    gi_wp2
    refine leaves_marks (H := w.heap.size) [D] _ ⟨by simp, fun E hE => ?_⟩ fun W' hss hb' => ?_
    · obtain rfl : E = D := by simpa using hE
      exact ⟨by omega, hK⟩
    · exact ⟨_, results_tmp2 rfl _ _ _, by rw [HSS.out]; rfl, h2.trans hb'⟩
  case stop =>
    rintro D cd pre W2 hDD _ h _
    exact h.elim
end Go.Proofs.YtabkfihhfkmioaaDoor
