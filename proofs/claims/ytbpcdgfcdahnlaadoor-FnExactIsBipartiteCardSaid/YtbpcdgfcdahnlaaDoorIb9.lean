/-
  impl.IsBipartite: the walk. (A tied seat of graphs.)
-/
import Derived.Test.YtbpcdgfcdahnlaaDoorIb8
namespace Go.Proofs.YtbpcdgfcdahnlaaDoor
set_option maxRecDepth 100000
set_option maxRecDepth 100000
open Go.RowKit Go.Shelf

attribute [local go_sem] Oper.semAt_some

theorem loadVar_cell {P : Program} {ty : TypeId} {d : TypeDesc} (hu : P.underlying ty = some d) (hd : (match d with | .struct _ | .array _ _ => true | _ => false) = false) (w : World) (a : Addr) (v : Value) (hc : w.cell? a = some v) : (loadVar ty a).run P w = .ok v w := by
  have hagg : (isAgg ty).run P w = .ok false w := by
    unfold isAgg
    simp [underlying, hu, go_sem]
    cases d <;> simp_all [go_sem]
  unfold loadVar
  simp [Sem.run_bind, hagg, go_sem, hc]
theorem results_2cells {P : Program} {fn : Func} {p u : Tmp} {ty tu : TypeId} {d e : TypeDesc} (h : fn.results = #[.cell p ty, .cell u tu]) (tmps : Array Value) (w : World) (g k : Nat) (x y : Value)
    (hp : tmps.getD p undef = .pointer (some ⟨g, 0, none⟩)) (hq : tmps.getD u undef = .pointer (some ⟨k, 0, none⟩)) (hx : w.cell? ⟨g, 0, none⟩ = some x) (hy : w.cell? ⟨k, 0, none⟩ = some y)
    (hu : P.underlying ty = some d) (hd : (match d with | .struct _ | .array _ _ => true | _ => false) = false) (hv : P.underlying tu = some e) (he : (match e with | .struct _ | .array _ _ => true | _ => false) = false) :
    (results fn tmps).run P w = .ok (.tuple #[x, y]) w := by
  have hp' : tmps[p]?.getD undef = .pointer (some ⟨g, 0, none⟩) := by simpa using hp
  have hq' : tmps[u]?.getD undef = .pointer (some ⟨k, 0, none⟩) := by simpa using hq
  simp only [results, h]
  simp [hp', hq', asAddr, loadVar_cell hu hd w _ _ hx, loadVar_cell hv he w _ _ hy]

set_option maxHeartbeats 6400000 in
theorem implBp_in (b off cap : Nat) (zs : List Int) (w : World) (hb : b < w.heap.size) (hc : Cells w b off zs) (hg : isG zs.length zs = true) (hT : Tab w) :
    CallsIn Fence.wide 5 Tryd.prog 34 #[.agg #[.int .i64 zs.length, .slice (some ⟨b, off, none⟩) zs.length cap]] w fun e w' => e = .returned (.tuple #[.bool (bipB zs), .int .i64 0]) ∧ Below w.heap.size w w' := by
  obtain ⟨g1, g2, g3, g4, -⟩ := isG_parts hg
  have h62 : zs.length ≤ 62 := by omega
  have hz : ∀ i, i < zs.length → (el zs i).toNat < 2 ^ zs.length := fun i hi => by
    have q0 := (isG_row_ok hg i hi).1
    have q1 := rowOk_le (rowsOk_at g4 hi)
    rw [← g3, Int.toNat_natCast] at q1
    have e : ((2 : Int) ^ zs.length) = ((2 ^ zs.length : Nat) : Int) := by simp
    rw [e] at q1
    omega
  obtain ⟨F, hF⟩ : ∃ F : Nat → Nat × Nat, ∀ v, v < zs.length → RD zs v (F v) := by
    refine ⟨fun v => if h : v < zs.length then Classical.choose (RD.ex h h62 hz) else (0, 0), fun v hv => ?_⟩
    simp only [dif_pos hv]
    exact Classical.choose_spec (RD.ex hv h62 hz)
  obtain ⟨p, hpn, hp⟩ := PN.ex h62 hz hF
  have sym : ∀ a b, a < zs.length → b < zs.length → bt (el zs b) a = bt (el zs a) b := fun a c ha hc => isG_symm hg ha hc
  obtain ⟨r, hr⟩ : ∃ r, r = bipB zs := ⟨_, rfl⟩
  have HYES : Hid ((∀ k, k < p → (F (lo (lfN zs.length F k))).1 &&& (F (lo (lfN zs.length F k))).2 = 0) → r = true) := fun h => by rw [hr]; exact bipB_yes (kinds_apart h62 hz sym hF hp h)
  have HNO : Hid (∀ v, v < zs.length → (F v).1 &&& (F v).2 ≠ 0 → r = false) := fun v hv h => by rw [hr]; exact bipB_no (kinds_meet h62 hz hF hv h)
  rw [← hr]
  clear hr sym
  obtain ⟨Wz, hWz⟩ : ∃ Wz, Wz = ((w.alloc (.cells #[.int .i64 zs.length, .slice (some ⟨b, off, none⟩) zs.length cap] 28)).alloc (.cells #[.bool false] 4)).alloc (.cells #[.int .i64 0] 2) := ⟨_, rfl⟩
  have sz : Wz.heap.size = w.heap.size + 3 := by rw [hWz]; simp
  have D0 : Below w.heap.size w Wz := by rw [hWz]; exact (((Below.refl _ _).alloc (Nat.le_refl _) _).alloc (by simp) _).alloc (by simp; omega) _
  have HG0 : Hid (GBox Wz w.heap.size (zs.length : Int) b off cap zs) := by
    show GBox _ _ _ _ _ _ _
    rw [hWz]
    exact (GBox.new (n := zs.length) (cap := cap) hb hc).below ((((Below.refl _ _).alloc (by simp) _).alloc (by simp) _))
  have BX1 : Hid (BxB Wz (w.heap.size + 1) 4 (.bool false)) := by show BxB _ _ _ _; rw [hWz]; exact heap_old_at (heap_new_at _ _ _ (by simp)) _
  have BX2 : Hid (BxB Wz (w.heap.size + 2) 2 (.int .i64 0)) := by show BxB _ _ _ _; rw [hWz]; exact heap_new_at _ _ _ (by simp)
  have HT := Lib.hid (hT.belowAll D0)
  have his := implIs_some zs.length b off cap zs Wz (Nat.lt_of_lt_of_le hb D0.size) (hc.below D0 hb) (by omega) HT.out
  rw [hg] at his
  have HG := Lib.hid hg; have HF := Lib.hid hF; have HPN := Lib.hid hp; have HZ := Lib.hid hz
  have hTl := hT.lt
  have hp62 : 2 ^ zs.length ≤ 2 ^ 62 := Nat.pow_le_pow_right (by decide) h62
  have hD0 := Lib.hid D0
  have b0 := HG0.out.b0
  have b1 := HG0.out.b1
  have SZ := Lib.hid sz
  have hsz3 : w.heap.size + 3 ≤ Wz.heap.size := by omega
  clear hc hg hF hp hz hT g3 g4 D0 sz
  refine callsIn_of_wp_marks Tryd.func34 rfl trivial ?_ rfl
  simp only [Tryd.ntmps34, List.size_toArray, List.length_cons, List.length_nil, Nat.reduceAdd, Nat.reduceSub, Array.replicate_succ, Array.replicate_zero, List.push_toArray, List.append_toArray, List.nil_append, List.cons_append]
  gi_upto_region 1 with fail
  refine at_world (w' := Wz) ?_ (by rw [hWz])
  clear hWz
  gi_upto_region 3 with (refine ⟨trivial, ?_⟩; gi_at_call 54; refine (callsIn_wide.2 his).mono ?_; rintro e w1 ⟨rfl, hb1⟩)
  have G1 := Lib.hid (HG0.out.below (hb1.mono (by omega)))
  have s1 : Wz.heap.size ≤ w1.heap.size := hb1.size
  have D1 : Below w.heap.size w w1 := hD0.out.trans (hb1.mono hD0.out.size)
  have T1 := Lib.hid (HT.out.belowAll hb1)
  have X1 : Hid (BxB w1 (w.heap.size + 1) 4 (.bool false)) := (hb1.block _ (by omega)).trans BX1.out
  have X2 : Hid (BxB w1 (w.heap.size + 2) 2 (.int .i64 0)) := (hb1.block _ (by omega)).trans BX2.out
  clear his hb1 HG0 HT BX1 BX2 b0 b1 SZ
  have b0 := G1.out.b0
  have b1 := G1.out.b1
  gi_wp2_with (refine ⟨trivial, ?_⟩; gi_at_call 58; refine (callsIn_wide.2 (partsInB_any _ _ _)).mono ?_; rintro e w' ⟨rfl, rfl⟩)
  obtain ⟨Wm, hWm⟩ : ∃ Wm, Wm = w1.alloc (.cells #[.int .i64 zs.length, .slice (some ⟨b, off, none⟩) zs.length cap] 28) := ⟨_, rfl⟩
  refine at_world (w' := Wm) ?_ (by rw [hWm])
  have hbm : Below w1.heap.size w1 Wm := by rw [hWm]; exact (Below.refl _ _).alloc (Nat.le_refl _) _
  have sm : w1.heap.size + 1 ≤ Wm.heap.size := by rw [hWm]; simp
  have haM : Wm.heap[w1.heap.size]? = some (.cells #[.int .i64 zs.length, .slice (some ⟨b, off, none⟩) zs.length cap] 28 (0, 0)) := by rw [hWm]; exact World.alloc_heap_new w1 _
  have hEm : Below w.heap.size w Wm := D1.trans (hbm.mono D1.size)
  have hcM : Cells Wm b off zs := G1.out.cells.below hbm (by omega)
  have M1 : Hid (BxB Wm (w.heap.size + 1) 4 (.bool false)) := (hbm.block _ (by omega)).trans X1.out
  have M2 : Hid (BxB Wm (w.heap.size + 2) 2 (.int .i64 0)) := (hbm.block _ (by omega)).trans X2.out
  have hst := partsB_stops 4 (by omega) w1.heap.size w.heap.size b off cap zs F p HG.out HF.out HPN.out Wm haM hb hcM (T1.out.belowAll hbm) hTl hEm.size
  obtain ⟨f1, hf1⟩ : ∃ f1 : Fin p → Nat, f1 = fun x => (F (lo (lfN zs.length F x.1))).1 := ⟨_, rfl⟩
  obtain ⟨f2, hf2⟩ : ∃ f2 : Fin p → Nat, f2 = fun x => (F (lo (lfN zs.length F x.1))).2 := ⟨_, rfl⟩
  rw [show (fun x : Fin p => (#[.int .i64 ((F (lo (lfN zs.length F x.1))).1 : Nat), .int .i64 ((F (lo (lfN zs.length F x.1))).2 : Nat)] : Array Value)) = fun x => #[.int .i64 (f1 x), .int .i64 (f2 x)] by rw [hf1, hf2]] at hst
  have HYF : Hid ((∀ x : Fin p, f1 x &&& f2 x = 0) → r = true) := fun h => HYES.out fun k hk => by have := h ⟨k, hk⟩; rw [hf1, hf2] at this; exact this
  have HNF : Hid (∀ x : Fin p, f1 x &&& f2 x ≠ 0 → r = false) := fun x h => by
    have hlo := lo_lt h62 (HPN.out.2 x.1 x.2)
    rw [hf1, hf2] at h
    exact HNO.out _ hlo h
  have HFB : Hid (∀ x : Fin p, f1 x < 2 ^ 62 ∧ f2 x < 2 ^ 62) := fun x => by
    have hlo := lo_lt h62 (HPN.out.2 x.1 x.2)
    have hi := (HF.out _ hlo).inv hlo h62 HZ.out
    rw [hf1, hf2]
    exact ⟨Nat.lt_of_lt_of_le hi.elt hp62, Nat.lt_of_lt_of_le hi.olt hp62⟩
  clear hWm b0 b1 hf1 hf2 hcM haM HYES HNO X1 X2
  refine wpIn_rangeFunc_ownG (α := Fin p) rfl (by omega) (gf := 89) (lb := #[.pointer (some ⟨w1.heap.size, 0, none⟩)]) rfl trivial (enters_of Tryd.func89 (by kernel_rfl) rfl)
    hst KpG.tr (KpG.put hEm.size (by omega)) (Below.refl _ _) (fun _ => rfl)
    (fun pre W' => Hid (∀ x, x ∈ pre → f1 x &&& f2 x = 0) ∧ Hid (BxB W' (w.heap.size + 1) 4 (.bool false)) ∧ Hid (BxB W' (w.heap.size + 2) 2 (.int .i64 0)) ∧ Below w.heap.size w W' ∧ Wm.heap.size ≤ W'.heap.size)
    (fun c _ W' => c = .ret ∧ r = false ∧ Hid (BxB W' (w.heap.size + 1) 4 (.bool false)) ∧ Hid (BxB W' (w.heap.size + 2) 2 (.int .i64 0)) ∧ Below w.heap.size w W' ∧ Wm.heap.size ≤ W'.heap.size)
    ?hI ?hIx ?h0c (fun x => { tmps := #[.agg #[.int .i64 zs.length, .slice (some ⟨b, off, none⟩) zs.length cap], .pointer (some ⟨w.heap.size, 0, none⟩), .pointer (some ⟨w.heap.size + 1, 0, none⟩), .pointer (some ⟨w.heap.size + 2, 0, none⟩), .int .i64 (f1 x), .int .i64 (f2 x), .agg #[.int .i64 zs.length, .slice (some ⟨b, off, none⟩) zs.length cap], .bool true, .bool false, .agg #[.int .i64 zs.length, .slice (some ⟨b, off, none⟩) zs.length cap], .func (.func 89) #[] #[.pointer (some ⟨w1.heap.size, 0, none⟩)], .int .i64 (f1 x), .int .i64 (f2 x), undef, undef, undef, undef], defers := [] }) ?assign ?body ?done ?stop
  case hI =>
    rintro pre A B row ⟨h0, h1, h2, h3, h4⟩ hg hr
    exact ⟨h0, kept_rowB hg hr (by omega) h1.out, kept_rowB hg hr (by omega) h2.out, h3.grown hg h3.size (fun k e => by have := (hr k e).1; omega), Nat.le_trans h4 hg.size⟩
  case hIx =>
    rintro c pre A B row ⟨rfl, h0, h1, h2, h3, h4⟩ hg hr
    exact ⟨rfl, h0, kept_rowB hg hr (by omega) h1.out, kept_rowB hg hr (by omega) h2.out, h3.grown hg h3.size (fun k e => by have := (hr k e).1; omega), Nat.le_trans h4 hg.size⟩
  case h0c => exact ⟨(fun x hx => absurd hx (by simp)), M1, M2, hEm, Nat.le_refl _⟩
  case assign =>
    intro l y W K hK
    gi_wp2
    exact hK
  case body =>
    rintro l pre x W5 ⟨hpre, h1, h2, hB5, hs5⟩ hlen
    obtain ⟨fb1, fb2⟩ := HFB.out x
    have hand := and_i64 (f1 x) (f2 x) (by omega) (by omega)
    have HNX := Lib.hid (HNF.out x)
    have c1 := h1.out.cell
    have c2 := h2.out.cell
    have q1 := h1.out.frozen
    have q2 := h2.out.frozen
    by_cases he : f1 x &&& f2 x = 0
    · have HP2 : Hid (∀ y, y ∈ pre ++ [x] → f1 y &&& f2 y = 0) := fun y hy => by
        rcases List.mem_append.1 hy with hy | hy
        · exact hpre.out y hy
        · obtain rfl : y = x := by simpa using hy
          exact he
      rw [he] at hand
      clear he
      generalize f1 x = v1 at *
      generalize f2 x = v2 at *
      gi_wp2
      exact And.intro (KeepsFrom.refl _ _) (And.intro ⟨Below.refl _ _, rfl⟩ ⟨HP2, h1, h2, hB5, hs5⟩)
    · have hrf := Lib.hid (HNX.out he)
      have hne : ¬ ((f1 x &&& f2 x : Nat) : Int) = 0 := by omega
      clear he
      generalize f1 x = v1 at *
      generalize f2 x = v2 at *
      generalize v1 &&& v2 = v3 at *
      gi_wp2
      have k2 : BxB (W5.setCell ⟨w.heap.size + 1, 0, none⟩ (.bool false)) (w.heap.size + 2) 2 (.int .i64 0) := (Below.heap_setCell _ _ _ _ (by simp)).trans h2.out
      refine And.intro (((KeepsOthers.setCell _ _ _).trans (KeepsOthers.setCell _ _ _)).from _) ⟨rfl, hrf.out, ?_, k2.set _, ?_, ?_⟩
      · exact (Below.heap_setCell _ _ _ _ (by simp)).trans (h1.out.set (.bool false))
      · exact (hB5.setCell (p := ⟨w.heap.size + 1, 0, none⟩) (by simp) _).setCell (p := ⟨w.heap.size + 2, 0, none⟩) (by simp) _
      · simpa using hs5
  case done =>
    rintro D ys W2 hDD rfl ⟨hpre, h1, h2, hB, hs⟩ hK
    have hyes := Lib.hid (HYF.out fun x => hpre.out x (List.mem_finRange x))
    have c1 := h1.out.cell
    have c2 := h2.out.cell
    have q1 := h1.out.frozen
    have q2 := h2.out.frozen
    clear hpre
    gi_wp2
    obtain ⟨W3, hW3⟩ : ∃ W3, W3 = (W2.setCell ⟨w.heap.size + 1, 0, none⟩ (.bool true)).setCell ⟨w.heap.size + 2, 0, none⟩ (.int .i64 0) := ⟨_, rfl⟩
    have k2 : BxB (W2.setCell ⟨w.heap.size + 1, 0, none⟩ (.bool true)) (w.heap.size + 2) 2 (.int .i64 0) := (Below.heap_setCell _ _ _ _ (by simp)).trans h2.out
    have n1 : BxB W3 (w.heap.size + 1) 4 (.bool true) := by rw [hW3]; exact (Below.heap_setCell _ _ _ _ (by simp)).trans (h1.out.set (.bool true))
    have n2 : BxB W3 (w.heap.size + 2) 2 (.int .i64 0) := by rw [hW3]; exact k2.set _
    have hB3 : Below w.heap.size w W3 := by rw [hW3]; exact (hB.setCell (p := ⟨w.heap.size + 1, 0, none⟩) (by simp) _).setCell (p := ⟨w.heap.size + 2, 0, none⟩) (by simp) _
    have hK3 : W3.heap[D]? = some (.deferred (some [])) := by rw [hW3]; exact (Below.heap_setCell _ _ _ _ (by simp; omega)).trans ((Below.heap_setCell _ _ _ _ (by simp; omega)).trans hK)
    show bodyPostM _ _ _ _ _ _ _ ((W2.setCell ⟨w.heap.size + 1, 0, none⟩ (.bool true)).setCell ⟨w.heap.size + 2, 0, none⟩ (.int .i64 0))
    rw [← hW3]
    clear hW3 k2 c1 c2 q1 q2
    refine leaves_marks (H := Wm.heap.size) [D] _ ⟨by simp, fun E hE => ?_⟩ fun W' hss hb' => ?_
    · obtain rfl : E = D := by simpa using hE
      exact ⟨hDD, hK3⟩
    · have m1 : BxB W' (w.heap.size + 1) 4 (.bool true) := (hb'.block _ (by omega)).trans n1
      have m2 : BxB W' (w.heap.size + 2) 2 (.int .i64 0) := (hb'.block _ (by omega)).trans n2
      exact ⟨_, results_2cells (p := 2) (u := 3) (ty := 4) (tu := 2) rfl _ W' (w.heap.size + 1) (w.heap.size + 2) _ _ rfl rfl m1.cell m2.cell Tryd.underlying4 rfl Tryd.underlying2 rfl, by rw [hyes.out], hB3.trans (hb'.mono (by omega))⟩
  case stop =>
    rintro D c pre W2 hDD _ ⟨rfl, hrf, h1, h2, hB, hs⟩ hK
    gi_wp2
    refine leaves_marks (H := Wm.heap.size) [D] _ ⟨by simp, fun E hE => ?_⟩ fun W' hss hb' => ?_
    · obtain rfl : E = D := by simpa using hE
      exact ⟨hDD, hK⟩
    · have m1 : BxB W' (w.heap.size + 1) 4 (.bool false) := (hb'.block _ (by omega)).trans h1.out
      have m2 : BxB W' (w.heap.size + 2) 2 (.int .i64 0) := (hb'.block _ (by omega)).trans h2.out
      exact ⟨_, results_2cells (p := 2) (u := 3) (ty := 4) (tu := 2) rfl _ W' (w.heap.size + 1) (w.heap.size + 2) _ _ rfl rfl m1.cell m2.cell Tryd.underlying4 rfl Tryd.underlying2 rfl, by rw [hrf], hB.trans (hb'.mono (by omega))⟩

set_option maxHeartbeats 1600000 in
theorem implBp_no (n : Int) (v : Value) (zs : List Int) (w : World) (h : Sl w v zs) (hg : isG n zs = false) (hl : zs.length ≤ 9223372036854775807) (hT : Tab w) :
    CallsIn Fence.wide 5 Tryd.prog 34 #[.agg #[.int .i64 n, v]] w fun e w' => e = .returned (.tuple #[.bool false, .int .i64 1]) ∧ Below w.heap.size w w' := by
  obtain ⟨Wz, hWz⟩ : ∃ Wz, Wz = ((w.alloc (.cells #[.int .i64 n, v] 28)).alloc (.cells #[.bool false] 4)).alloc (.cells #[.int .i64 0] 2) := ⟨_, rfl⟩
  have sz : w.heap.size + 3 ≤ Wz.heap.size := by rw [hWz]; simp
  have D0 : Below w.heap.size w Wz := by rw [hWz]; exact (((Below.refl _ _).alloc (Nat.le_refl _) _).alloc (by simp) _).alloc (by simp; omega) _
  have X0 : Hid (Wz.heap[w.heap.size]? = some (.cells #[.int .i64 n, v] 28 (0, 0))) := by show _ = _; rw [hWz]; exact heap_old_at (heap_old_at (World.alloc_heap_new w _) _) _
  have BX1 : Hid (BxB Wz (w.heap.size + 1) 4 (.bool false)) := by show BxB _ _ _ _; rw [hWz]; exact heap_old_at (heap_new_at _ _ _ (by simp)) _
  have BX2 : Hid (BxB Wz (w.heap.size + 2) 2 (.int .i64 0)) := by show BxB _ _ _ _; rw [hWz]; exact heap_new_at _ _ _ (by simp)
  have his := implIs_any n v zs Wz (h.below D0) hl (hT.belowAll D0)
  rw [hg] at his
  obtain ⟨b0, b1, -, -⟩ := two_cells X0.out
  clear h hg hT X0
  refine callsIn_of_wp_marks Tryd.func34 rfl trivial ?_ rfl
  simp only [Tryd.ntmps34, List.size_toArray, List.length_cons, List.length_nil, Nat.reduceAdd, Nat.reduceSub, Array.replicate_succ, Array.replicate_zero, List.push_toArray, List.append_toArray, List.nil_append, List.cons_append]
  gi_upto_region 1 with fail
  refine at_world (w' := Wz) ?_ (by rw [hWz])
  clear hWz
  gi_upto_region 2 with (refine ⟨trivial, ?_⟩; gi_at_call 54; refine (callsIn_wide.2 his).mono ?_; rintro e w1 ⟨rfl, hb1⟩)
  have s1 := hb1.size
  have h1 : BxB w1 (w.heap.size + 1) 4 (.bool false) := (hb1.block _ (by omega)).trans BX1.out
  have h2 : BxB w1 (w.heap.size + 2) 2 (.int .i64 0) := (hb1.block _ (by omega)).trans BX2.out
  have D1 : Below w.heap.size w w1 := D0.trans (hb1.mono D0.size)
  have c1 := h1.cell
  have c2 := h2.cell
  have q1 := h1.frozen
  have q2 := h2.frozen
  have H1 := Lib.hid h1
  have H2 := Lib.hid h2
  clear his hb1 b0 b1 BX1 BX2 D0 h1 h2
  gi_wp2
  obtain ⟨W3, hW3⟩ : ∃ W3, W3 = (w1.setCell ⟨w.heap.size + 1, 0, none⟩ (.bool false)).setCell ⟨w.heap.size + 2, 0, none⟩ (.int .i64 1) := ⟨_, rfl⟩
  have k2 : BxB (w1.setCell ⟨w.heap.size + 1, 0, none⟩ (.bool false)) (w.heap.size + 2) 2 (.int .i64 0) := (Below.heap_setCell _ _ _ _ (by simp)).trans H2.out
  have n1 : BxB W3 (w.heap.size + 1) 4 (.bool false) := by rw [hW3]; exact (Below.heap_setCell _ _ _ _ (by simp)).trans (H1.out.set (.bool false))
  have n2 : BxB W3 (w.heap.size + 2) 2 (.int .i64 1) := by rw [hW3]; exact k2.set _
  have hB3 : Below w.heap.size w W3 := by rw [hW3]; exact (D1.setCell (p := ⟨w.heap.size + 1, 0, none⟩) (by simp) _).setCell (p := ⟨w.heap.size + 2, 0, none⟩) (by simp) _
  show bodyPostM _ _ _ _ _ _ _ ((w1.setCell ⟨w.heap.size + 1, 0, none⟩ (.bool false)).setCell ⟨w.heap.size + 2, 0, none⟩ (.int .i64 1))
  rw [← hW3]
  clear hW3 k2 c1 c2 q1 q2
  refine leaves_marks (H := W3.heap.size) [] _ ⟨by simp, fun E hE => by cases hE⟩ fun W' hss hb' => ?_
  have s3 : w.heap.size + 3 ≤ W3.heap.size := by have := n2.lt; omega
  have m1 : BxB W' (w.heap.size + 1) 4 (.bool false) := (hb'.block _ (by omega)).trans n1
  have m2 : BxB W' (w.heap.size + 2) 2 (.int .i64 1) := (hb'.block _ (by omega)).trans n2
  exact ⟨_, results_2cells (p := 2) (u := 3) (ty := 4) (tu := 2) rfl _ W' (w.heap.size + 1) (w.heap.size + 2) _ _ rfl rfl m1.cell m2.cell Tryd.underlying4 rfl Tryd.underlying2 rfl, rfl, hB3.trans (hb'.mono (by omega))⟩

theorem implBp_any (n : Int) (v : Value) (zs : List Int) (w : World) (h : Sl w v zs) (hl : zs.length ≤ 9223372036854775807) (hT : Tab w) :
    Calls Tryd.prog 34 #[.agg #[.int .i64 n, v]] w fun e w' => e = .returned (.tuple #[.bool (BpD n zs), .int .i64 (PaC0 n zs)]) ∧ Below w.heap.size w w' := by
  unfold BpD PaC0
  cases hg : isG n zs
  · exact callsIn_wide.1 (implBp_no n v zs w h hg hl hT)
  · obtain ⟨h1, _, h3, _⟩ := isG_parts hg
    obtain ⟨b, off, cap, rfl, hb, hc⟩ := sl_some h (by omega)
    obtain rfl : (zs.length : Int) = n := h3
    exact callsIn_wide.1 (implBp_in b off cap zs w hb hc hg hT)
end Go.Proofs.YtbpcdgfcdahnlaaDoor
