/-
  impl.GirthOf.
-/
import Derived.Test.YtibpnemeehkdbaaDoorCy7
import Derived.Test.YtibpnemeehkdbaaDoorEi
import Derived.Test.YtibpnemeehkdbaaDoorTl7
import Derived.Test.YtibpnemeehkdbaaDoorRr
namespace Go.Proofs.YtibpnemeehkdbaaDoor
set_option maxRecDepth 100000
set_option maxRecDepth 100000
open Go.RowKit Go.Shelf

attribute [local go_sem] Oper.semAt_some

theorem cyc_ge {zs : List Int} {v w : Nat} (hv : v < zs.length) (hvw : v ≠ w) : 3 ≤ cyc zs v w := by
  unfold cyc
  by_cases h : 0 ≤ cyD zs v (2 ^ w) w
  · rw [if_pos h]
    by_cases hex : ∃ d, lev (Rw zs v (2 ^ w)) zs.length v d w = true
    · obtain ⟨d, hd⟩ := hex
      have hD : cyD zs v (2 ^ w) w = d := dOf_lev hv hd
      rw [hD]
      have : 2 ≤ d := by
        refine Nat.le_of_not_lt fun hlt => ?_
        have h2 : d = 0 ∨ d = 1 := by omega
        rcases h2 with rfl | rfl
        · rw [lev_zero] at hd
          have : w = v := by simpa using hd
          omega
        · obtain ⟨_, _, x, _, hx, hR⟩ := lev_succ_iff.1 hd
          rw [lev_zero] at hx
          obtain rfl : x = v := by simpa using hx
          unfold Rw at hR
          rw [show ((2 : Nat) ^ w).testBit w = true by simp] at hR
          simp at hR
      omega
    · have : cyD zs v (2 ^ w) w = -1 := dOf_none fun d => by
        cases hl : lev (Rw zs v (2 ^ w)) zs.length v d w with
        | false => rfl
        | true => exact absurd ⟨d, hl⟩ hex
      omega
  · rw [if_neg h]; omega
theorem cyc_le {zs : List Int} {v w : Nat} (h62 : zs.length ≤ 62) (hv : v < zs.length) : cyc zs v w ≤ 63 := by
  unfold cyc
  have := dOf_bd (R := Rw zs v (2 ^ w)) (w := w) hv
  have e : dOf (Rw zs v (2 ^ w)) zs.length v w = cyD zs v (2 ^ w) w := rfl
  rw [e] at this
  split <;> omega

/-- The least length of a cycle through one of the edges of a list. -/
def gF (zs : List Int) (q : List (Nat × Nat)) : Int := q.foldl (fun m p => if cyc zs p.1 p.2 < m then cyc zs p.1 p.2 else m) 63
theorem gF_snoc (zs : List Int) (q : List (Nat × Nat)) (p : Nat × Nat) : gF zs (q ++ [p]) = if cyc zs p.1 p.2 < gF zs q then cyc zs p.1 p.2 else gF zs q := by unfold gF; rw [List.foldl_append]; rfl
theorem fold_le (f : Nat × Nat → Int) : ∀ (q : List (Nat × Nat)) (m c : Int), c ≤ q.foldl (fun m p => if f p < m then f p else m) m ↔ c ≤ m ∧ ∀ p, p ∈ q → c ≤ f p
  | [], m, c => by simp
  | p :: q, m, c => by
    rw [List.foldl_cons, fold_le f q]
    constructor
    · rintro ⟨h1, h2⟩
      split at h1
      · exact ⟨by omega, fun r hr => by rcases List.mem_cons.1 hr with rfl | hr; exact h1; exact h2 r hr⟩
      · exact ⟨h1, fun r hr => by rcases List.mem_cons.1 hr with rfl | hr; omega; exact h2 r hr⟩
    · rintro ⟨h1, h2⟩
      refine ⟨?_, fun r hr => h2 r (List.mem_cons_of_mem _ hr)⟩
      have := h2 p List.mem_cons_self
      split <;> omega
theorem gF_le {zs : List Int} {q : List (Nat × Nat)} {c : Int} : c ≤ gF zs q ↔ c ≤ 63 ∧ ∀ p, p ∈ q → c ≤ cyc zs p.1 p.2 := fold_le (fun p => cyc zs p.1 p.2) q 63 c
theorem edL_lt {zs : List Int} {p : Nat × Nat} (h : p ∈ edL zs) (hz : ∀ i, i < zs.length → (el zs i).toNat < 2 ^ zs.length) : p.1 < p.2 ∧ p.2 < zs.length := by
  obtain ⟨v, w⟩ := p
  obtain ⟨h1, h2, h3, h4⟩ := edL_mem.1 h
  refine ⟨h3, ?_⟩
  refine Nat.lt_of_not_le fun hle => ?_
  unfold bt at h4
  rw [Nat.testBit_lt_two_pow (Nat.lt_of_lt_of_le (hz v h1) (Nat.pow_le_pow_right (by decide) hle))] at h4
  cases h4
theorem gF_bd {zs : List Int} (hz : ∀ i, i < zs.length → (el zs i).toNat < 2 ^ zs.length) {q : List (Nat × Nat)} (hq : q <+: edL zs) : 3 ≤ gF zs q ∧ gF zs q ≤ 63 := by
  refine ⟨gF_le.2 ⟨by omega, fun p hp => ?_⟩, (gF_le.1 (Int.le_refl _)).1⟩
  have := edL_lt (hq.subset hp) hz
  exact cyc_ge (by omega) (by omega)
theorem gF_pre {zs : List Int} {q r : List (Nat × Nat)} (h : q <+: r) : gF zs r ≤ gF zs q := gF_le.2 ⟨(gF_le.1 (Int.le_refl _)).1, fun p hp => (gF_le.1 (Int.le_refl (gF zs r))).2 p (h.subset hp)⟩

/-- The girth's answer. -/
def goN (zs : List Int) : Int := if gF zs (edL zs) = 63 then 0 else gF zs (edL zs)
def goC (zs : List Int) : Int := if gF zs (edL zs) = 63 then 4 else 0

theorem lenOr_any (g : Int) (w : World) : Calls Tryd.prog 46 #[.int .i64 g] w fun e w' => e = .returned (.tuple #[.int .i64 (if g = 63 then 0 else g), .int .i64 (if g = 63 then 4 else 0)]) ∧ w = w' := by
  by_cases h : g = 63
  · subst h
    rw [if_pos rfl, if_pos rfl]
    go_enter Tryd.func46, Tryd.ntmps46
    go_wp2
    go_ret2
    exact ⟨rfl, rfl⟩
  · rw [if_neg h, if_neg h]
    have h1 : (g == 63) = false := by simpa using h
    go_enter Tryd.func46, Tryd.ntmps46
    go_wp2
    go_ret2
    exact ⟨rfl, rfl⟩

theorem lenOr_gF (zs : List Int) (w : World) : Calls Tryd.prog 46 #[.int .i64 (gF zs (edL zs))] w fun e w' => e = .returned (.tuple #[.int .i64 (goN zs), .int .i64 (goC zs)]) ∧ w = w' := lenOr_any _ _

set_option maxHeartbeats 4000000 in
theorem implGi_in (b off cap : Nat) (zs : List Int) (w : World) (hb : b < w.heap.size) (hc : Cells w b off zs) (hg : isG zs.length zs = true) (hT : Tab w) :
    CallsIn Fence.wide 6 Tryd.prog 27 #[.agg #[.int .i64 zs.length, .slice (some ⟨b, off, none⟩) zs.length cap]] w fun e w' => e = .returned (.tuple #[.int .i64 (goN zs), .int .i64 (goC zs)]) ∧ Below w.heap.size w w' := by
  obtain ⟨g1, g2, g3, g4, -⟩ := isG_parts hg
  have h62 : zs.length ≤ 62 := by omega
  have hz : ∀ i, i < zs.length → (el zs i).toNat < 2 ^ zs.length := fun i hi => by
    have q0 := (isG_row_ok hg i hi).1
    have q1 := rowOk_le (rowsOk_at g4 hi)
    rw [← g3, Int.toNat_natCast] at q1
    have e : ((2 : Int) ^ zs.length) = ((2 ^ zs.length : Nat) : Int) := by simp
    rw [e] at q1
    omega
  have HZ := Lib.hid hz
  have D0 : Below w.heap.size w (w.alloc (.cells #[.int .i64 zs.length, .slice (some ⟨b, off, none⟩) zs.length cap] 28)) := (Below.refl _ _).alloc (Nat.le_refl _) _
  have his := implIs_some zs.length b off cap zs _ (Nat.lt_of_lt_of_le hb D0.size) (hc.below D0 hb) (by omega) (hT.belowAll D0)
  rw [hg] at his
  have HGB := Lib.hid (World.alloc_heap_new w (.cells #[.int .i64 zs.length, .slice (some ⟨b, off, none⟩) zs.length cap] 28))
  have HG0 := Lib.hid (GBox.new (n := zs.length) (cap := cap) hb hc)
  have HG := Lib.hid hg
  have HT0 := Lib.hid hT
  have HC0 := Lib.hid hc
  clear hc hg hT hz g3 g4
  refine callsIn_of_wp_marks Tryd.func27 rfl trivial ?_ rfl
  simp only [Tryd.ntmps27, List.size_toArray, List.length_cons, List.length_nil, Nat.reduceAdd, Nat.reduceSub, Array.replicate_succ, Array.replicate_zero, List.push_toArray, List.append_toArray, List.nil_append, List.cons_append]
  gi_upto_region 3 with (refine ⟨trivial, ?_⟩; gi_at_call 31; refine (callsIn_wide.2 his).mono ?_; rintro e w1 ⟨rfl, hb1⟩)
  have G1 := Lib.hid (HG0.out.below (hb1.mono (by simp)))
  have GB1 := Lib.hid ((hb1.block w.heap.size (by simp)).trans HGB.out)
  have D1 : Below w.heap.size w w1 := D0.trans (hb1.mono (by simp))
  have s1 : w.heap.size + 1 ≤ w1.heap.size := by have := hb1.size; simpa using this
  clear his hb1 D0 HG0 HGB
  gi_upto_region 4 with fail
  obtain ⟨Wb, hWb⟩ : ∃ Wb, Wb = w1.alloc (.cells #[.int .i64 63] 2) := ⟨_, rfl⟩
  refine at_world (w' := Wb) ?_ (by rw [hWb])
  have hbb : Below w1.heap.size w1 Wb := by rw [hWb]; exact (Below.refl _ _).alloc (Nat.le_refl _) _
  have sb : Wb.heap.size = w1.heap.size + 1 := by rw [hWb]; simp
  have BXb : Hid (Bx Wb w1.heap.size 2 (.int .i64 63)) := by show Bx _ _ _ _; rw [hWb]; exact World.alloc_heap_new w1 _
  have Gb := Lib.hid (G1.out.below (hbb.mono s1))
  have b0 := Gb.out.b0; have b1 := Gb.out.b1
  clear hWb
  gi_wp2_with (refine ⟨trivial, ?_⟩; gi_at_call 44; refine (callsIn_wide.2 (edgesIn_any _ _ _)).mono ?_; rintro e w' ⟨rfl, rfl⟩)
  obtain ⟨Wm, hWm⟩ : ∃ Wm, Wm = Wb.alloc (.cells #[.int .i64 zs.length, .slice (some ⟨b, off, none⟩) zs.length cap] 28) := ⟨_, rfl⟩
  refine at_world (w' := Wm) ?_ (by rw [hWm])
  have hbm : Below w1.heap.size w1 Wm := by rw [hWm]; exact hbb.alloc (by omega) _
  have sm : Wm.heap.size = w1.heap.size + 2 := by rw [hWm]; simp [sb]
  have hbbm : Below Wb.heap.size Wb Wm := by rw [hWm]; exact (Below.refl _ _).alloc (Nat.le_refl _) _
  have BXm : Hid (Bx Wm w1.heap.size 2 (.int .i64 (gF zs []))) := (hbbm.block _ BXb.out.lt).trans BXb.out
  have haM : Hid (Wm.heap[w1.heap.size + 1]? = some (.cells #[.int .i64 zs.length, .slice (some ⟨b, off, none⟩) zs.length cap] 28 (0, 0))) := by show _ = _; rw [hWm, ← sb]; exact World.alloc_heap_new Wb _
  have hgM : Hid (Wm.heap[w.heap.size]? = some (.cells #[.int .i64 zs.length, .slice (some ⟨b, off, none⟩) zs.length cap] 28 (0, 0))) := (hbm.block _ (by omega)).trans GB1.out
  have hEm : Below w.heap.size w Wm := D1.trans (hbm.mono (by omega))
  have hst := edges_stops 5 (by omega) (w1.heap.size + 1) b off cap zs HG.out Wm
  have HCY : Hid (∀ (x y : Nat) (W : World), x < zs.length → y < zs.length → Below w.heap.size w W → Calls Tryd.prog 45 #[.agg #[.int .i64 zs.length, .slice (some ⟨b, off, none⟩) zs.length cap], .int .i64 x, .int .i64 y] W fun e w' => e = .returned (.int .i64 (cyc zs x y)) ∧ Below W.heap.size W w') := fun x y W hx hy h =>
    cycle_some b off cap zs x y W (Nat.lt_of_lt_of_le hb h.size) (HC0.out.below h hb) (HT0.out.belowAll h) HG.out hx hy
  clear hWm b0 b1 BXb Gb hbbm
  refine wpIn_rangeO rfl (by omega) (gf := 63) (lb := #[.pointer (some ⟨w1.heap.size + 1, 0, none⟩)]) rfl trivial (enters_of Tryd.func63 (by kernel_rfl) rfl)
    hst (fun _ _ => trivial) (fun _ _ _ _ _ _ _ _ => trivial) (Below.refl _ _) (fun _ => rfl)
    (fun A pre X => Hid (Bx X w1.heap.size 2 (.int .i64 (gF zs pre))) ∧ Below w.heap.size w X ∧ Wm.heap.size ≤ X.heap.size ∧ Hid (X.heap[w1.heap.size + 1]? = some (.cells #[.int .i64 zs.length, .slice (some ⟨b, off, none⟩) zs.length cap] 28 (0, 0))) ∧ Hid (X.heap[w.heap.size]? = some (.cells #[.int .i64 zs.length, .slice (some ⟨b, off, none⟩) zs.length cap] 28 (0, 0))) ∧ Hid (∀ k, k ∈ A → k < X.heap.size))
    (fun cd _ X => cd = .exit 0 ∧ Hid (Bx X w1.heap.size 2 (.int .i64 (gF zs (edL zs)))) ∧ Below w.heap.size w X ∧ Wm.heap.size ≤ X.heap.size)
    ?hI ?hIx ?hgr ?hRdd ?h0c (fun x => { tmps := #[.agg #[.int .i64 zs.length, .slice (some ⟨b, off, none⟩) zs.length cap], .pointer (some ⟨w.heap.size, 0, none⟩), .int .i64 0, .int .i64 0, .pointer (some ⟨w1.heap.size, 0, none⟩), .int .i64 x.1, .int .i64 x.2, .agg #[.int .i64 zs.length, .slice (some ⟨b, off, none⟩) zs.length cap], .bool true, .bool false, .agg #[.int .i64 zs.length, .slice (some ⟨b, off, none⟩) zs.length cap], .func (.func 63) #[] #[.pointer (some ⟨w1.heap.size + 1, 0, none⟩)], .int .i64 x.1, .int .i64 x.2, undef, undef, undef, undef, undef, undef, undef, undef, undef, undef, undef, undef], defers := [] }) ?assign ?body ?done ?stop
  case hI =>
    rintro A pre X Y row ⟨h1, h2, h3, h4, h5, h6⟩ hg hr
    exact ⟨kept_rowP hg hr (by omega) h1.out, h2.grown hg h2.size (fun k e => by have := (hr k e).1; omega), Nat.le_trans h3 hg.size, kept_rowP hg hr (by omega) h4.out, kept_rowP hg hr (by omega) h5.out, fun k hk => Nat.lt_of_lt_of_le (h6.out k hk) hg.size⟩
  case hIx =>
    rintro cd pre X Y row ⟨h0, h1, h2, h3⟩ hg hr
    exact ⟨h0, kept_rowP hg hr (by omega) h1.out, h2.grown hg h2.size (fun k e => by have := (hr k e).1; omega), Nat.le_trans h3 hg.size⟩
  case hgr =>
    rintro A pre X o hsX ⟨h1, h2, h3, h4, h5, h6⟩
    have hbX : Below X.heap.size X (X.alloc o) := (Below.refl _ _).alloc (Nat.le_refl _) _
    have lo : ∀ {q : Nat} {ob : Obj}, X.heap[q]? = some ob → (X.alloc o).heap[q]? = some ob := fun h => (hbX.block _ (Array.getElem?_eq_some_iff.1 h).1).trans h
    exact ⟨lo h1.out, h2.alloc h2.size _, by simp; omega, lo h4.out, lo h5.out, fun q hq => (List.mem_cons.1 hq).elim (fun e => by rw [e]; simp) (fun h => Nat.lt_of_lt_of_le (h6.out q h) (by simp))⟩
  case hRdd =>
    rintro A pre X ⟨h1, h2, h3, h4, h5, h6⟩
    exact ⟨h4.out, HC0.out.below h2 hb, HT0.out.belowAll h2⟩
  case h0c => exact ⟨BXm, hEm, Nat.le_refl _, haM, hgM, fun k hk => by cases hk⟩
  case assign =>
    intro l y W K hK
    gi_wp2
    exact hK
  case body =>
    rintro l A pre x W5 _ _ ⟨h1, h2, h3, h4, h5, h6⟩ hAl _ hnx
    have hxm := edL_lt (hnx.subset (List.mem_append_right _ List.mem_cons_self)) HZ.out
    have hgb := gF_bd HZ.out hnx
    have HSN := Lib.hid (gF_snoc zs pre x)
    have HPR := Lib.hid (gF_pre (zs := zs) hnx)
    have HBD := Lib.hid (gF_bd HZ.out (List.prefix_refl (edL zs)))
    have HCX := Lib.hid (fun W h => HCY.out x.1 x.2 W (by omega) (by omega) h)
    have hmx : Tryd.prog.follows Departure.mixedOrders = true := mixed
    have cv := h1.out.cell
    have fv := h1.out.frozen
    obtain ⟨z0, z1, -, -⟩ := two_cells h5.out
    clear hnx
    obtain ⟨v1, v2⟩ := x
    have HRD : Hid (∀ W' : World, Below W5.heap.size W5 W' → W'.cell? ⟨w.heap.size, 0, none⟩ = some (.int .i64 zs.length) ∧ W'.cell? ⟨w.heap.size, 1, none⟩ = some (.slice (some ⟨b, off, none⟩) zs.length cap) ∧ W'.cell? ⟨w1.heap.size, 0, none⟩ = some (.int .i64 (gF zs pre)) ∧ W'.frozen? ⟨w1.heap.size, 0, none⟩ = false) := fun W' hW => by
      have q0 := (hW.block _ h1.out.lt).trans h1.out
      have q1 := (hW.block _ (Array.getElem?_eq_some_iff.1 h5.out).1).trans h5.out
      obtain ⟨z0, z1, -, -⟩ := two_cells q1
      exact ⟨z0, z1, Bx.cell q0, Bx.frozen q0⟩
    have w5lt : w1.heap.size < W5.heap.size := h1.out.lt
    gi_wp2
    rename_i hK0
    have HKK := Lib.hid hK0
    clear hK0
    refine region_round (fun w' => w'.cell? ⟨w.heap.size, 0, none⟩ = some (.int .i64 zs.length) ∧ w'.cell? ⟨w.heap.size, 1, none⟩ = some (.slice (some ⟨b, off, none⟩) zs.length cap)) hmx (by kernel_rfl) ⟨z0, z1⟩ (fun hHeld => ?_)
    show wpAnyH _ _ _ _ _ 7 (Array.replicate 7 false) _ _
    refine wpAnyH_take (i := 1) (v := .agg #[.int .i64 zs.length, .slice (some ⟨b, off, none⟩) zs.length cap]) rfl (by kernel_rfl) (by kernel_rfl) (by kernel_rfl) (fun _ _ _ h => h) (Or.inl ⟨by rfl, fun Wt hSw => by go_split_ands; go_simp⟩) (by assumption) ?_
    simp only [List.getElem_toArray, List.getElem_cons_zero, List.getElem_cons_succ, Act.put, List.setIfInBounds_toArray, List.set_cons_zero, List.set_cons_succ]
    refine wpAnyH_take (i := 2) (v := .int .i64 v1) rfl (by kernel_rfl) (by kernel_rfl) (by kernel_rfl) (fun _ _ _ h => h) (Or.inl ⟨by rfl, fun Wt hSw => by go_split_ands; go_simp⟩) (by assumption) ?_
    simp only [List.getElem_toArray, List.getElem_cons_zero, List.getElem_cons_succ, Act.put, List.setIfInBounds_toArray, List.set_cons_zero, List.set_cons_succ]
    refine wpAnyH_take (i := 3) (v := .int .i64 v2) rfl (by kernel_rfl) (by kernel_rfl) (by kernel_rfl) (fun _ _ _ h => h) (Or.inl ⟨by rfl, fun Wt hSw => by go_split_ands; go_simp⟩) (by assumption) ?_
    simp only [List.getElem_toArray, List.getElem_cons_zero, List.getElem_cons_succ, Act.put, List.setIfInBounds_toArray, List.set_cons_zero, List.set_cons_succ]
    refine wpAnyH_ready (rs := [0, 4]) (by kernel_rfl) (by simp) ?_
    refine AllReadyH.cons rfl (fun K hK => ?_) (AllReadyH.cons rfl (fun K hK => ?_) AllReadyH.nil)
    · skip
      go_simp
      refine hK.out _ _ ⟨z0, z1⟩ (fun hHeld => ?_)
      clear hK K
      refine wpAnyH_ready (rs := [4]) (by kernel_rfl) (by simp) ?_
      refine AllReadyH.cons rfl (fun K hK => ?_) AllReadyH.nil
      go_simp
      refine (HCX.out _ (h2.drew)).mono ?_
      rintro e w6 ⟨rfl, hb6⟩
      have B6 : Below W5.heap.size W5 w6 := ((Below.refl _ _).drew).trans (hb6.mono (by simp))
      obtain ⟨z0, z1, cv, fv⟩ := HRD.out w6 B6
      refine hK.out _ _ ⟨z0, z1⟩ (fun hHeld => ?_)
      clear hK K hb6
      refine wpAnyH_ready (rs := [5]) (by kernel_rfl) (by simp) ?_
      refine AllReadyH.cons rfl (fun K hK => ?_) AllReadyH.nil
      go_simp
      refine hK.out _ _ ⟨z0, z1⟩ (fun hHeld => ?_)
      clear hK K
      refine wpAnyH_ready (rs := [6]) (by kernel_rfl) (by simp) ?_
      refine AllReadyH.cons rfl (fun K hK => ?_) AllReadyH.nil
      go_simp
      refine hK.out _ _ ⟨(World.cell?_setCell_far _ _ _ _ (by simp; omega)).trans z0, (World.cell?_setCell_far _ _ _ _ (by simp <;> omega)).trans z1⟩ (fun hHeld => ?_)
      clear hK K
      refine wpAnyH_done (by kernel_rfl) ?_ _
      refine HKK.out _ _ ?_
      clear HKK HCX HCY
      rw [← HSN.out]
      have Bd7 : Below w.heap.size w (w6.setCell ⟨w1.heap.size, 0, none⟩ (.int .i64 (gF zs (pre ++ [(v1, v2)])))) := (h2.trans (B6.mono (by omega))).setCell (p := ⟨w1.heap.size, 0, none⟩) (by simp; omega) _
      have hg9 := grown_setP w6 w1.heap.size 0 (.int .i64 (gF zs (pre ++ [(v1, v2)])))
      have q8 : Hid (Bx (w6.setCell ⟨w1.heap.size, 0, none⟩ (.int .i64 (gF zs (pre ++ [(v1, v2)])))) w1.heap.size 2 (.int .i64 (gF zs (pre ++ [(v1, v2)])))) := Bx.set ((B6.block _ w5lt).trans h1.out) _
      have hkf : KeepsFrom Wm.heap.size W5 (w6.setCell ⟨w1.heap.size, 0, none⟩ (.int .i64 (gF zs (pre ++ [(v1, v2)])))) := (keeps_grown (row := none) (grown_of_below B6 none) (fun r e => by cases e)).trans ((KeepsOthers.setCell _ _ _).from _)
      have lo : Hid (∀ k, k < W5.heap.size → k ≠ w1.heap.size → (w6.setCell ⟨w1.heap.size, 0, none⟩ (.int .i64 (gF zs (pre ++ [(v1, v2)])))).heap[k]? = W5.heap[k]?) := fun k hk hne => (hg9.block _ (Nat.lt_of_lt_of_le hk B6.size) (fun e => hne (by injection e))).trans (B6.block _ hk)
      have s7 : W5.heap.size ≤ (w6.setCell ⟨w1.heap.size, 0, none⟩ (.int .i64 (gF zs (pre ++ [(v1, v2)])))).heap.size := Nat.le_trans B6.size hg9.size
      clear hg9 B6 cv fv z0 z1 w5lt
      generalize w6.setCell ⟨w1.heap.size, 0, none⟩ (.int .i64 (gF zs (pre ++ [(v1, v2)]))) = W7 at *
      have cv := q8.out.cell
      have fv := q8.out.frozen
      have HKF := Lib.hid hkf
      have HIA : Hid (Hid (Bx W7 w1.heap.size 2 (.int .i64 (gF zs (pre ++ [(v1, v2)])))) ∧ Below w.heap.size w W7 ∧ Wm.heap.size ≤ W7.heap.size ∧ Hid (W7.heap[w1.heap.size + 1]? = some (.cells #[.int .i64 zs.length, .slice (some ⟨b, off, none⟩) zs.length cap] 28 (0, 0))) ∧ Hid (W7.heap[w.heap.size]? = some (.cells #[.int .i64 zs.length, .slice (some ⟨b, off, none⟩) zs.length cap] 28 (0, 0))) ∧ Hid (∀ k, k ∈ A → k < W7.heap.size)) := ⟨q8, Bd7, by omega, (lo.out _ (Array.getElem?_eq_some_iff.1 h4.out).1 (by omega)).trans h4.out, (lo.out _ (Array.getElem?_eq_some_iff.1 h5.out).1 (by omega)).trans h5.out, fun k hk => Nat.lt_of_lt_of_le (h6.out k hk) s7⟩
      have HKP : Hid (∀ k, k ∈ A → W7.heap[k]? = W5.heap[k]?) := fun k hk => lo.out k (h6.out k hk) (by have := hAl k hk; omega)
      clear lo hkf
      by_cases h3 : gF zs (pre ++ [(v1, v2)]) = 3
      · have h3b : (gF zs (pre ++ [(v1, v2)]) == 3) = true := by simpa using h3
        have h3e : gF zs (edL zs) = gF zs (pre ++ [(v1, v2)]) := by have := HPR.out; have := HBD.out; omega
        gi_wp2
        exact ⟨HKF.out, rfl, by rw [h3e]; exact HIA.out.1, HIA.out.2.1, HIA.out.2.2.1⟩
      · have h3b : (gF zs (pre ++ [(v1, v2)]) == 3) = false := by simpa using h3
        gi_wp2
        exact ⟨HKF.out, ⟨trivial, HKP.out⟩, HIA.out⟩
    · skip
      go_simp
      refine (HCX.out _ (h2.drew)).mono ?_
      rintro e w6 ⟨rfl, hb6⟩
      have B6 : Below W5.heap.size W5 w6 := ((Below.refl _ _).drew).trans (hb6.mono (by simp))
      obtain ⟨z0, z1, cv, fv⟩ := HRD.out w6 B6
      refine hK.out _ _ ⟨z0, z1⟩ (fun hHeld => ?_)
      clear hK K hb6
      refine wpAnyH_ready (rs := [0]) (by kernel_rfl) (by simp) ?_
      refine AllReadyH.cons rfl (fun K hK => ?_) AllReadyH.nil
      go_simp
      refine hK.out _ _ ⟨z0, z1⟩ (fun hHeld => ?_)
      clear hK K
      refine wpAnyH_ready (rs := [5]) (by kernel_rfl) (by simp) ?_
      refine AllReadyH.cons rfl (fun K hK => ?_) AllReadyH.nil
      go_simp
      refine hK.out _ _ ⟨z0, z1⟩ (fun hHeld => ?_)
      clear hK K
      refine wpAnyH_ready (rs := [6]) (by kernel_rfl) (by simp) ?_
      refine AllReadyH.cons rfl (fun K hK => ?_) AllReadyH.nil
      go_simp
      refine hK.out _ _ ⟨(World.cell?_setCell_far _ _ _ _ (by simp; omega)).trans z0, (World.cell?_setCell_far _ _ _ _ (by simp <;> omega)).trans z1⟩ (fun hHeld => ?_)
      clear hK K
      refine wpAnyH_done (by kernel_rfl) ?_ _
      refine HKK.out _ _ ?_
      clear HKK HCX HCY
      rw [← HSN.out]
      have Bd7 : Below w.heap.size w (w6.setCell ⟨w1.heap.size, 0, none⟩ (.int .i64 (gF zs (pre ++ [(v1, v2)])))) := (h2.trans (B6.mono (by omega))).setCell (p := ⟨w1.heap.size, 0, none⟩) (by simp; omega) _
      have hg9 := grown_setP w6 w1.heap.size 0 (.int .i64 (gF zs (pre ++ [(v1, v2)])))
      have q8 : Hid (Bx (w6.setCell ⟨w1.heap.size, 0, none⟩ (.int .i64 (gF zs (pre ++ [(v1, v2)])))) w1.heap.size 2 (.int .i64 (gF zs (pre ++ [(v1, v2)])))) := Bx.set ((B6.block _ w5lt).trans h1.out) _
      have hkf : KeepsFrom Wm.heap.size W5 (w6.setCell ⟨w1.heap.size, 0, none⟩ (.int .i64 (gF zs (pre ++ [(v1, v2)])))) := (keeps_grown (row := none) (grown_of_below B6 none) (fun r e => by cases e)).trans ((KeepsOthers.setCell _ _ _).from _)
      have lo : Hid (∀ k, k < W5.heap.size → k ≠ w1.heap.size → (w6.setCell ⟨w1.heap.size, 0, none⟩ (.int .i64 (gF zs (pre ++ [(v1, v2)])))).heap[k]? = W5.heap[k]?) := fun k hk hne => (hg9.block _ (Nat.lt_of_lt_of_le hk B6.size) (fun e => hne (by injection e))).trans (B6.block _ hk)
      have s7 : W5.heap.size ≤ (w6.setCell ⟨w1.heap.size, 0, none⟩ (.int .i64 (gF zs (pre ++ [(v1, v2)])))).heap.size := Nat.le_trans B6.size hg9.size
      clear hg9 B6 cv fv z0 z1 w5lt
      generalize w6.setCell ⟨w1.heap.size, 0, none⟩ (.int .i64 (gF zs (pre ++ [(v1, v2)]))) = W7 at *
      have cv := q8.out.cell
      have fv := q8.out.frozen
      have HKF := Lib.hid hkf
      have HIA : Hid (Hid (Bx W7 w1.heap.size 2 (.int .i64 (gF zs (pre ++ [(v1, v2)])))) ∧ Below w.heap.size w W7 ∧ Wm.heap.size ≤ W7.heap.size ∧ Hid (W7.heap[w1.heap.size + 1]? = some (.cells #[.int .i64 zs.length, .slice (some ⟨b, off, none⟩) zs.length cap] 28 (0, 0))) ∧ Hid (W7.heap[w.heap.size]? = some (.cells #[.int .i64 zs.length, .slice (some ⟨b, off, none⟩) zs.length cap] 28 (0, 0))) ∧ Hid (∀ k, k ∈ A → k < W7.heap.size)) := ⟨q8, Bd7, by omega, (lo.out _ (Array.getElem?_eq_some_iff.1 h4.out).1 (by omega)).trans h4.out, (lo.out _ (Array.getElem?_eq_some_iff.1 h5.out).1 (by omega)).trans h5.out, fun k hk => Nat.lt_of_lt_of_le (h6.out k hk) s7⟩
      have HKP : Hid (∀ k, k ∈ A → W7.heap[k]? = W5.heap[k]?) := fun k hk => lo.out k (h6.out k hk) (by have := hAl k hk; omega)
      clear lo hkf
      by_cases h3 : gF zs (pre ++ [(v1, v2)]) = 3
      · have h3b : (gF zs (pre ++ [(v1, v2)]) == 3) = true := by simpa using h3
        have h3e : gF zs (edL zs) = gF zs (pre ++ [(v1, v2)]) := by have := HPR.out; have := HBD.out; omega
        gi_wp2
        exact ⟨HKF.out, rfl, by rw [h3e]; exact HIA.out.1, HIA.out.2.1, HIA.out.2.2.1⟩
      · have h3b : (gF zs (pre ++ [(v1, v2)]) == 3) = false := by simpa using h3
        gi_wp2
        exact ⟨HKF.out, ⟨trivial, HKP.out⟩, HIA.out⟩
  case done =>
    rintro D A ys W2 hDD rfl ⟨h1, h2, h3, h4, h5, h6⟩ hK
    have cv := h1.out.cell
    have fv := h1.out.frozen
    clear h4 h5 h6
    gi_wp2
    refine ⟨trivial, ?_⟩
    gi_at_call 46
    refine (callsIn_wide.2 (lenOr_gF zs _)).mono ?_
    rintro e w' ⟨rfl, rfl⟩
    gi_wp2
    refine leaves_marks (H := w.heap.size) [D] _ ⟨by simp, fun E hE => ?_⟩ fun W' hss hb' => ?_
    · obtain rfl : E = D := by simpa using hE
      exact ⟨by omega, hK⟩
    · exact ⟨_, results_tmp2 rfl _ _ _, rfl, h2.trans hb'⟩
  case stop =>
    rintro D cd pre W2 hDD _ ⟨rfl, h1, h2, h3⟩ hK
    have cv := h1.out.cell
    have fv := h1.out.frozen
    gi_wp2
    refine ⟨trivial, ?_⟩
    gi_at_call 46
    refine (callsIn_wide.2 (lenOr_gF zs _)).mono ?_
    rintro e w' ⟨rfl, rfl⟩
    gi_wp2
    refine leaves_marks (H := w.heap.size) [D] _ ⟨by simp, fun E hE => ?_⟩ fun W' hss hb' => ?_
    · obtain rfl : E = D := by simpa using hE
      exact ⟨by omega, hK⟩
    · exact ⟨_, results_tmp2 rfl _ _ _, rfl, h2.trans hb'⟩

theorem implGi_no (n : Int) (v : Value) (zs : List Int) (w : World) (h : Sl w v zs) (hg : isG n zs = false) (hl : zs.length ≤ 9223372036854775807) (hT : Tab w) :
    Calls Tryd.prog 27 #[.agg #[.int .i64 n, v]] w fun e w' => e = .returned (.tuple #[.int .i64 0, .int .i64 1]) ∧ Below w.heap.size w w' := by
  have D0 : Below w.heap.size w (w.alloc (.cells #[.int .i64 n, v] 28)) := (Below.refl _ _).alloc (Nat.le_refl _) _
  have his := implIs_any n v zs _ (h.below D0) hl (hT.belowAll D0)
  rw [hg] at his
  clear h hg hT
  go_enter Tryd.func27, Tryd.ntmps27
  go_wp2_with (go_at_call 31; refine his.mono ?_; rintro e w1 ⟨rfl, hb1⟩)
  go_ret2
  exact ⟨rfl, D0.trans (hb1.mono (by simp))⟩

def goNA (n : Int) (zs : List Int) : Int := if isG n zs then goN zs else 0
def goCA (n : Int) (zs : List Int) : Int := if isG n zs then goC zs else 1
theorem implGi_any (n : Int) (v : Value) (zs : List Int) (w : World) (h : Sl w v zs) (hl : zs.length ≤ 9223372036854775807) (hT : Tab w) :
    Calls Tryd.prog 27 #[.agg #[.int .i64 n, v]] w fun e w' => e = .returned (.tuple #[.int .i64 (goNA n zs), .int .i64 (goCA n zs)]) ∧ Below w.heap.size w w' := by
  unfold goNA goCA
  cases hg : isG n zs
  · exact implGi_no n v zs w h hg hl hT
  · obtain ⟨h1, _, h3, _⟩ := isG_parts hg
    obtain ⟨b, off, cap, rfl, hb, hc⟩ := sl_some h (by omega)
    obtain rfl : (zs.length : Int) = n := h3
    exact callsIn_wide.1 (implGi_in b off cap zs w hb hc hg hT)
end Go.Proofs.YtibpnemeehkdbaaDoor
