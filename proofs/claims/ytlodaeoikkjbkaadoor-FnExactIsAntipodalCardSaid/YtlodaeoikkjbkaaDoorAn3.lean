/-
  impl.fibresOf whatever comes in, impl.IsAntipodal.
-/
import Derived.Test.YtlodaeoikkjbkaaDoorAn1
namespace Go.Proofs.YtlodaeoikkjbkaaDoor
set_option maxRecDepth 100000
open Go.RowKit Go.Shelf

attribute [local go_sem] Oper.semAt_some

theorem prN_pos {fz : List Int} : ∀ v, 0 < v → 0 < (prN fz v).length
  | 1, _ => by
    have h : leadB fz 0 = true := leadB_iff.2 fun u hu => by omega
    rw [prN_yes h]; simp
  | v + 2, _ => by
    have ih := prN_pos (fz := fz) (v + 1) (by omega)
    cases h : leadB fz (v + 1) with
    | true => rw [prN_yes h, List.length_append]; omega
    | false => rw [prN_no h]; exact ih
theorem prN_len (fz : List Int) : (fbR fz).length = (prN fz fz.length).length := by unfold fbR; rw [List.length_map]
/-- The fibres and the code, whatever comes in. -/
noncomputable def FbL9 (n : Int) (zs : List Int) : List Int := if isG n zs && (connB zs && decide (2 ≤ dmX zs)) then fbL zs else []
theorem FbL9_len {n : Int} {zs : List Int} : (FbL9 n zs).length ≤ 62 := by
  unfold FbL9
  cases h : isG n zs && (connB zs && decide (2 ≤ dmX zs)) with
  | false => simp
  | true =>
    rw [if_pos rfl]
    simp only [Bool.and_eq_true] at h
    have hl := (isG_parts h.1).2.1
    have h3 := (isG_parts h.1).2.2.1
    cases ha : anB zs (dmX zs) with
    | false => rw [fbL_no ha]; simp
    | true =>
      rw [fbL_yes ha, prN_len]
      have := prN_length (gaR zs (dmX zs)) (gaR zs (dmX zs)).length
      have h4 := gaR_length' zs (dmX zs)
      omega
theorem FbL9_pos {n : Int} {zs : List Int} : decide (0 < (FbL9 n zs).length) = apD n zs := by
  unfold FbL9 apD anQ
  cases hg : isG n zs with
  | false => simp
  | true =>
    cases hc : connB zs with
    | false => simp
    | true =>
      cases hd : decide (2 ≤ dmX zs) with
      | false => simp
      | true =>
        simp only [Bool.and_self, if_true, Bool.true_and]
        have h1 := (isG_parts hg).1
        have h3 := (isG_parts hg).2.2.1
        cases ha : anB zs (dmX zs) with
        | false => rw [fbL_no ha]; simp
        | true =>
          rw [fbL_yes ha, prN_len]
          have h4 := gaR_length' zs (dmX zs)
          have := prN_pos (fz := gaR zs (dmX zs)) (gaR zs (dmX zs)).length (by omega)
          simp; omega

set_option maxHeartbeats 1600000 in
theorem fib_no (n : Int) (v : Value) (zs : List Int) (w : World) (h : Sl w v zs) (hl : zs.length ≤ 9223372036854775807) (hT : Tab w) (c D : Int) (hc : dmC n zs = c) (hD : dmD n zs = D) (hno : c ≠ 0 ∨ D < 2) :
    CallsIn Fence.wide 9 Tryd.prog 54 #[.agg #[.int .i64 n, v]] w fun e w' => e = .returned (.tuple #[.slice none 0 0, .int .i64 c]) ∧ Below w.heap.size w w' := by
  obtain ⟨Wz, hWz⟩ : ∃ Wz, Wz = ((w.alloc (.cells #[.int .i64 n, v] 28)).alloc (.cells #[.slice none 0 0] 22)).alloc (.cells #[.int .i64 0] 2) := ⟨_, rfl⟩
  have sz : w.heap.size + 3 ≤ Wz.heap.size := by rw [hWz]; simp
  have D0 : Below w.heap.size w Wz := by rw [hWz]; exact (((Below.refl _ _).alloc (Nat.le_refl _) _).alloc (by simp) _).alloc (by simp; omega) _
  have X0 : Hid (Wz.heap[w.heap.size]? = some (.cells #[.int .i64 n, v] 28 (0, 0))) := by show _ = _; rw [hWz]; exact heap_old_at (heap_old_at (World.alloc_heap_new w _) _) _
  have BX1 : Hid (BxF Wz (w.heap.size + 1) 22 (.slice none 0 0)) := by show BxF _ _ _ _; rw [hWz]; exact heap_old_at (heap_new_at _ _ _ (by simp)) _
  have BX2 : Hid (BxF Wz (w.heap.size + 2) 2 (.int .i64 0)) := by show BxF _ _ _ _; rw [hWz]; exact heap_new_at _ _ _ (by simp)
  have hdm := implDm_any n v zs Wz (h.below D0) hl (hT.belowAll D0)
  rw [hc, hD] at hdm
  obtain ⟨b0, b1, -, -⟩ := two_cells X0.out
  have hcond : (c != 0) = true ∨ ((c != 0) = false ∧ decide (D < 2) = true) := by
    by_cases h0 : c = 0
    · have hD2 : D < 2 := by
        rcases hno with h | h
        · exact absurd h0 h
        · exact h
      exact .inr ⟨by simp [h0], by simpa using hD2⟩
    · exact .inl (by simpa using h0)
  have hD0 := Lib.hid D0
  have SZ := Lib.hid sz
  generalize dmR n zs = dr at *
  clear h hT X0 D0 hc hD hno
  refine callsIn_of_wp_marks Tryd.func54 rfl trivial ?_ rfl
  simp only [Tryd.ntmps54, List.size_toArray, List.length_cons, List.length_nil, Nat.reduceAdd, Nat.reduceSub, Array.replicate_succ, Array.replicate_zero, List.push_toArray, List.append_toArray, List.nil_append, List.cons_append]
  gi_upto_region 1 with fail
  refine at_world (w' := Wz) ?_ (by rw [hWz])
  clear hWz
  gi_upto_region 2 with (refine ⟨trivial, ?_⟩; gi_at_call 74; refine (callsIn_wide.2 hdm).mono ?_; rintro e w1 ⟨rfl, hb1⟩)
  have s1 := hb1.size
  have h1 : BxF w1 (w.heap.size + 1) 22 (.slice none 0 0) := (hb1.block _ (by have := SZ.out; omega)).trans BX1.out
  have h2 : BxF w1 (w.heap.size + 2) 2 (.int .i64 0) := (hb1.block _ (by have := SZ.out; omega)).trans BX2.out
  have D1 : Below w.heap.size w w1 := hD0.out.trans (hb1.mono hD0.out.size)
  have c1 := h1.cell
  have c2 := h2.cell
  have q1 := h1.frozen
  have q2 := h2.frozen
  have H1 := Lib.hid h1
  have H2 := Lib.hid h2
  have HD1 := Lib.hid D1
  clear hdm hb1 b0 b1 BX1 BX2 h1 h2 D1
  rcases hcond with g1 | ⟨g1, g2⟩
  all_goals
    gi_wp2
    obtain ⟨W3, hW3⟩ : ∃ W3, W3 = (w1.setCell ⟨w.heap.size + 1, 0, none⟩ (.slice none 0 0)).setCell ⟨w.heap.size + 2, 0, none⟩ (.int .i64 c) := ⟨_, rfl⟩
    have k2 : BxF (w1.setCell ⟨w.heap.size + 1, 0, none⟩ (.slice none 0 0)) (w.heap.size + 2) 2 (.int .i64 0) := (Below.heap_setCell _ _ _ _ (by simp)).trans H2.out
    have n1 : BxF W3 (w.heap.size + 1) 22 (.slice none 0 0) := by rw [hW3]; exact (Below.heap_setCell _ _ _ _ (by simp)).trans (H1.out.set (.slice none 0 0))
    have n2 : BxF W3 (w.heap.size + 2) 2 (.int .i64 c) := by rw [hW3]; exact k2.set _
    have hB3 : Below w.heap.size w W3 := by rw [hW3]; exact (HD1.out.setCell (p := ⟨w.heap.size + 1, 0, none⟩) (by simp) _).setCell (p := ⟨w.heap.size + 2, 0, none⟩) (by simp) _
    show bodyPostM _ _ _ _ _ _ _ ((w1.setCell ⟨w.heap.size + 1, 0, none⟩ (.slice none 0 0)).setCell ⟨w.heap.size + 2, 0, none⟩ (.int .i64 c))
    rw [← hW3]
    clear hW3 k2 c1 c2 q1 q2
    refine leaves_marks (H := W3.heap.size) [] _ ⟨by simp, fun E hE => by cases hE⟩ fun W' hss hb' => ?_
    have s3 : w.heap.size + 3 ≤ W3.heap.size := by have := n2.lt; omega
    have m1 : BxF W' (w.heap.size + 1) 22 (.slice none 0 0) := (hb'.block _ (by omega)).trans n1
    have m2 : BxF W' (w.heap.size + 2) 2 (.int .i64 c) := (hb'.block _ (by omega)).trans n2
    exact ⟨_, results_2F (p := 2) (u := 3) (ty := 22) (tu := 2) rfl _ W' (w.heap.size + 1) (w.heap.size + 2) _ _ rfl rfl m1.cell m2.cell Tryd.underlying22 rfl Tryd.underlying2 rfl, rfl, hB3.trans (hb'.mono (by omega))⟩

theorem fib_any (n : Int) (v : Value) (zs : List Int) (w : World) (h : Sl w v zs) (hl : zs.length ≤ 9223372036854775807) (hT : Tab w) :
    Calls Tryd.prog 54 #[.agg #[.int .i64 n, v]] w fun e w' => (∃ u, e = .returned (.tuple #[u, .int .i64 (cnC n zs)]) ∧ Own w' w.heap.size u (FbL9 n zs)) ∧ Below w.heap.size w w' := by
  by_cases hy : isG n zs = true ∧ connB zs = true ∧ ¬ dmX zs < 2
  · obtain ⟨hg, hcn, hd⟩ := hy
    obtain ⟨h1, _, h3, _⟩ := isG_parts hg
    obtain ⟨b, off, cap, rfl, hb, hc⟩ := sl_some h (by omega)
    obtain rfl : (zs.length : Int) = n := h3
    have e1 : cnC zs.length zs = 0 := by simp [cnC, hg, hcn]
    have e2 : FbL9 zs.length zs = fbL zs := by unfold FbL9; rw [hg, hcn, decide_eq_true (by omega)]; rfl
    rw [e1, e2]
    exact callsIn_wide.1 (fib_in b off cap zs w hb hc hg hcn hd hT)
  · have e0 : dmC n zs = cnC n zs := rfl
    have e2 : FbL9 n zs = [] := by
      unfold FbL9
      refine if_neg fun h2 => hy ?_
      simp only [Bool.and_eq_true, decide_eq_true_eq] at h2
      exact ⟨h2.1, h2.2.1, by omega⟩
    rw [e2]
    refine (callsIn_wide.1 (fib_no n v zs w h hl hT (cnC n zs) (dmD n zs) e0 rfl ?_)).mono ?_
    · by_cases hg : isG n zs = true
      · by_cases hcn : connB zs = true
        · refine .inr ?_
          have : dmD n zs = dmX zs := by unfold dmD dmX; rw [hg, hcn]; rfl
          rw [this]
          exact Classical.byContradiction fun hn => hy ⟨hg, hcn, hn⟩
        · refine .inl ?_
          unfold cnC; rw [if_pos hg, if_neg hcn]; decide
      · refine .inl ?_
        unfold cnC; rw [if_neg hg]; decide
    · rintro e w' ⟨rfl, hb⟩
      exact ⟨⟨_, rfl, Own.nil _ _⟩, hb⟩

set_option maxHeartbeats 800000 in
theorem implAn_any (n : Int) (v : Value) (zs : List Int) (w : World) (h : Sl w v zs) (hl : zs.length ≤ 9223372036854775807) (hT : Tab w) :
    Calls Tryd.prog 30 #[.agg #[.int .i64 n, v]] w fun e w' => e = .returned (.tuple #[.bool (apD n zs), .int .i64 (cnC n zs)]) ∧ Below w.heap.size w w' := by
  have D0 : Below w.heap.size w (w.alloc (.cells #[.int .i64 n, v] 28)) := (Below.refl _ _).alloc (Nat.le_refl _) _
  have hfi := fib_any n v zs _ (h.below D0) hl (hT.belowAll D0)
  have HP := Lib.hid (@FbL9_pos n zs)
  have hlen := @FbL9_len n zs
  have HD0 := Lib.hid D0
  generalize cnC n zs = c at *
  generalize apD n zs = r at *
  generalize FbL9 n zs = L at *
  clear h hT hl D0
  go_enter Tryd.func30, Tryd.ntmps30
  go_wp2_with fail
  refine hfi.mono ?_
  rintro e w1 ⟨⟨u, rfl, hO⟩, hb1⟩
  obtain ⟨a, cp, rfl⟩ : ∃ a cp, u = .slice a L.length cp := by
    rcases hO.form with ⟨rfl, h0⟩ | ⟨g, cap, rfl, _⟩
    · rw [h0]; exact ⟨_, _, rfl⟩
    · exact ⟨_, _, rfl⟩
  have HB1 := Lib.hid (HD0.out.trans (hb1.mono HD0.out.size))
  clear hb1 hO hfi
  go_wp2
  go_ret2
  rw [← HP.out]
  exact ⟨rfl, HB1.out⟩
end Go.Proofs.YtlodaeoikkjbkaaDoor
