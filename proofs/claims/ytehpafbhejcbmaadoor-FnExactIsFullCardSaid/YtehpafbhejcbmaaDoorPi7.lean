/-
  impl.PairsToJoin.
-/
import Derived.Test.YtehpafbhejcbmaaDoorFg7
import Derived.Test.YtehpafbhejcbmaaDoorEo7
namespace Go.Proofs.YtehpafbhejcbmaaDoor
set_option maxRecDepth 100000
set_option maxRecDepth 100000
open Go.RowKit Go.Shelf

attribute [local go_sem] Oper.semAt_some

theorem pjW_len {Rf : List (Nat × Nat) → List Int} {k c : Int} {v : Nat} {q : List (Nat × Nat)} : ∀ w, (pjW Rf k c v q w).length ≤ q.length + w
  | 0 => Nat.le_refl _
  | w + 1 => by
    have h := pjW_len (Rf := Rf) (k := k) (c := c) (v := v) (q := q) w
    show (if decide (v < w) && mayB (Rf (pjW Rf k c v q w)) k c v w then pjW Rf k c v q w ++ [(v, w)] else pjW Rf k c v q w).length ≤ _
    split
    · rw [List.length_append, List.length_singleton]; omega
    · omega
theorem pjV_len {Rf : List (Nat × Nat) → List Int} {k c : Int} {n : Nat} : ∀ v, (pjV Rf k c n v).length ≤ n * v
  | 0 => Nat.le_refl _
  | v + 1 => by
    have h := pjV_len (Rf := Rf) (k := k) (c := c) (n := n) v
    have h2 := pjW_len (Rf := Rf) (k := k) (c := c) (v := v) (q := pjV Rf k c n v) n
    show (pjW Rf k c v (pjV Rf k c n v) n).length ≤ _
    rw [Nat.mul_succ]; omega

/-- The pairs that may be joined. -/
def pjA (zs : List Int) (k c : Int) : List (Nat × Nat) := pjV (fun _ => zs) k c zs.length zs.length
def PjL (zs : List Int) (k c : Int) : List (List Int) := (pjA zs k c).map prI

set_option maxHeartbeats 4000000 in
theorem implPi_in (b off cap : Nat) (zs : List Int) (k c : Int) (w : World) (hb : b < w.heap.size) (hc : Cells w b off zs) (hg : isG zs.length zs = true) (hkc : kcB k c = true) (hf : FbB zs k c = true) (hl : zs.length ≤ 9223372036854775807) (hs : Sl w (.slice (some ⟨b, off, none⟩) zs.length cap) zs) (hT : Tab w) :
    CallsIn Fence.wide 6 Tryd.prog 19 #[.agg #[.int .i64 zs.length, .slice (some ⟨b, off, none⟩) zs.length cap], .int .i64 k, .int .i64 c] w fun e w' => LSRes w.heap.size (PjL zs k c) 0 e w' ∧ Below w.heap.size w w' := by
  obtain ⟨g1, g2, g3, g4, -⟩ := isG_parts hg
  have h62 : zs.length ≤ 62 := by omega
  have hfd := hf
  unfold FbB at hfd
  rw [Bool.and_eq_true] at hfd
  have hfit : FitD zs.length k zs := ⟨rfl, hg, fbD_iff.1 hfd.1⟩
  have HOK : Hid (∀ v, v ≤ zs.length → FitD zs.length k ((fun _ : List (Nat × Nat) => zs) (pjV (fun _ => zs) k c zs.length v)) ∧ ∀ w, w ≤ zs.length → FitD zs.length k ((fun _ : List (Nat × Nat) => zs) (pjW (fun _ => zs) k c v (pjV (fun _ => zs) k c zs.length v) w))) := fun v _ => ⟨hfit, fun w _ => hfit⟩
  have D0 : Below w.heap.size w (w.alloc (.cells #[.int .i64 zs.length, .slice (some ⟨b, off, none⟩) zs.length cap] 28)) := (Below.refl _ _).alloc (Nat.le_refl _) _
  have hch := chk_any zs.length (.slice (some ⟨b, off, none⟩) zs.length cap) zs k c _ (hs.below D0) hl (hT.belowAll D0)
  unfold gvC at hch
  rw [hg, hkc, hf, if_pos rfl, if_pos rfl, if_pos rfl] at hch
  have HG0 := Lib.hid (GBox.new (n := zs.length) (cap := cap) hb hc)
  have HT0 := Lib.hid hT
  have HC0 := Lib.hid hc
  obtain ⟨j0, hj, hy0, hy1, hy2⟩ := info_parts mkS_info
  have HJ := Lib.hid hj; have HJ0 := Lib.hid hy0; have HJ1 := Lib.hid hy1; have HJ2 := Lib.hid hy2
  clear hc hg hT hj hy0 hy1 hy2 g3 g4 hs hkc hf hfd hfit
  refine callsIn_of_wp_marks Tryd.func19 rfl trivial ?_ rfl
  simp only [Tryd.ntmps19, List.size_toArray, List.length_cons, List.length_nil, Nat.reduceAdd, Nat.reduceSub, Array.replicate_succ, Array.replicate_zero, List.push_toArray, List.append_toArray, List.nil_append, List.cons_append]
  gi_upto_region 5 with (refine ⟨trivial, ?_⟩; gi_at_call 47; refine (callsIn_wide.2 hch).mono ?_; rintro e w1 ⟨rfl, hb1⟩)
  have G1 := Lib.hid (HG0.out.below (hb1.mono (by simp)))
  have D1 : Below w.heap.size w w1 := D0.trans (hb1.mono (by simp))
  have s1 : w.heap.size + 1 ≤ w1.heap.size := by have := hb1.size; simpa using this
  clear hch hb1 D0 HG0
  obtain ⟨Wb, hWb⟩ : ∃ Wb, Wb = w1.alloc (.cells #[.slice none 0 0] 37) := ⟨_, rfl⟩
  refine at_world (w' := Wb) ?_ (by rw [hWb])
  have hbb : Below w1.heap.size w1 Wb := by rw [hWb]; exact (Below.refl _ _).alloc (Nat.le_refl _) _
  have sb : Wb.heap.size = w1.heap.size + 1 := by rw [hWb]; simp
  have BXb : Hid (Bx Wb w1.heap.size 37 (.slice none 0 0)) := by show Bx _ _ _ _; rw [hWb]; exact World.alloc_heap_new w1 _
  have Gb := Lib.hid (G1.out.below (hbb.mono s1))
  have b0 := Gb.out.b0; have b1 := Gb.out.b1
  clear hWb
  gi_wp2_with (refine ⟨trivial, ?_⟩; gi_at_call 48; refine (callsIn_wide.2 (pairsToJoin_any _ _ _ _ _)).mono ?_; rintro e w' ⟨rfl, rfl⟩)
  obtain ⟨Wm, hWm⟩ : ∃ Wm, Wm = ((Wb.alloc (.cells #[.int .i64 zs.length, .slice (some ⟨b, off, none⟩) zs.length cap] 28)).alloc (.cells #[.int .i64 k] 2)).alloc (.cells #[.int .i64 c] 2) := ⟨_, rfl⟩
  refine at_world (w' := Wm) ?_ (by rw [hWm])
  have hbbm : Below Wb.heap.size Wb Wm := by rw [hWm]; exact (((Below.refl _ _).alloc (Nat.le_refl _) _).alloc (by simp) _).alloc (by simp; omega) _
  have hbm : Below w1.heap.size w1 Wm := hbb.trans (hbbm.mono (by omega))
  have sm : Wm.heap.size = w1.heap.size + 4 := by rw [hWm]; simp [sb]
  have BXm : Hid (Bx Wm w1.heap.size 37 (.slice none 0 0)) := (hbbm.block _ BXb.out.lt).trans BXb.out
  have haM : Hid (Wm.heap[w1.heap.size + 1]? = some (.cells #[.int .i64 zs.length, .slice (some ⟨b, off, none⟩) zs.length cap] 28 (0, 0))) := by show _ = _; rw [hWm, ← sb]; exact heap_old_at (heap_old_at (World.alloc_heap_new Wb _) _) _
  have hkM : Hid (Wm.heap[w1.heap.size + 2]? = some (.cells #[.int .i64 k] 2 (0, 0))) := by show _ = _; rw [hWm]; exact heap_old_at (heap_new_at _ _ _ (by simp [sb])) _
  have hcM : Hid (Wm.heap[w1.heap.size + 3]? = some (.cells #[.int .i64 c] 2 (0, 0))) := by show _ = _; rw [hWm]; exact heap_new_at _ _ _ (by simp [sb])
  have hEm : Below w.heap.size w Wm := D1.trans (hbm.mono (by omega))
  have hst := pairs_stops 5 (by omega) (w1.heap.size + 1) (w1.heap.size + 2) (w1.heap.size + 3) b off cap zs.length k c (fun _ => zs) HOK.out Wm

  obtain ⟨f1, hf1⟩ : ∃ f1 : Nat × Nat → Nat, f1 = fun x => x.1 := ⟨_, rfl⟩
  obtain ⟨f2, hf2⟩ : ∃ f2 : Nat × Nat → Nat, f2 = fun x => x.2 := ⟨_, rfl⟩
  rw [show (fun x : Nat × Nat => (#[.int .i64 (x.1 : Nat), .int .i64 (x.2 : Nat)] : Array Value)) = fun x => #[.int .i64 (f1 x), .int .i64 (f2 x)] by rw [hf1, hf2]] at hst
  have HPR : Hid (∀ x : Nat × Nat, prI x = [(f1 x : Int), (f2 x : Int)]) := fun x => by rw [hf1, hf2]; rfl
  clear hWm b0 b1 hf1 hf2 BXb Gb hbbm hbb sb
  refine wpIn_rangeO rfl (by omega) (gf := 70) (lb := #[.pointer (some ⟨w1.heap.size + 1, 0, none⟩), .pointer (some ⟨w1.heap.size + 2, 0, none⟩), .pointer (some ⟨w1.heap.size + 3, 0, none⟩)]) rfl trivial (enters_of Tryd.func70 (by kernel_rfl) rfl)
    hst (fun _ _ => trivial) (fun _ _ _ _ _ _ _ _ => trivial) (Below.refl _ _) (fun _ => rfl)
    (fun A pre X => ∃ u, Hid (Bx X w1.heap.size 37 u) ∧ Hid (TL X (w1.heap.size + 4) u (pre.map prI)) ∧ Below w.heap.size w X ∧ Wm.heap.size ≤ X.heap.size ∧ Hid (X.heap[w1.heap.size + 1]? = some (.cells #[.int .i64 zs.length, .slice (some ⟨b, off, none⟩) zs.length cap] 28 (0, 0))) ∧ Hid (X.heap[w1.heap.size + 2]? = some (.cells #[.int .i64 k] 2 (0, 0))) ∧ Hid (X.heap[w1.heap.size + 3]? = some (.cells #[.int .i64 c] 2 (0, 0))) ∧ Hid (∀ k, k ∈ A → u.ownBlock ≠ some k ∧ k < X.heap.size))
    (fun _ _ _ => False)
    ?hI (fun _ _ _ _ _ hs _ _ => hs) ?hgr ?hRdd ?h0c (fun x => { tmps := #[.agg #[.int .i64 zs.length, .slice (some ⟨b, off, none⟩) zs.length cap], .int .i64 k, .int .i64 c, .pointer (some ⟨w.heap.size, 0, none⟩), undef, undef, .slice none 0 0, .int .i64 0, .int .i64 0, .pointer (some ⟨w1.heap.size, 0, none⟩), .int .i64 (f1 x), .int .i64 (f2 x), .agg #[.int .i64 zs.length, .slice (some ⟨b, off, none⟩) zs.length cap], .int .i64 k, .int .i64 c, .int .i64 0, .int .i64 0, .bool false, undef, .agg #[.int .i64 zs.length, .slice (some ⟨b, off, none⟩) zs.length cap], .int .i64 k, .int .i64 c, .func (.func 70) #[] #[.pointer (some ⟨w1.heap.size + 1, 0, none⟩), .pointer (some ⟨w1.heap.size + 2, 0, none⟩), .pointer (some ⟨w1.heap.size + 3, 0, none⟩)], .int .i64 (f1 x), .int .i64 (f2 x), undef, undef, undef, undef, undef, undef, undef], defers := [] }) ?assign ?body ?done ?stop
  case hI =>
    rintro A pre X Y row ⟨u, h1, h2, h3, h4, h5, k5, c5, h6⟩ hg hr
    exact ⟨u, kept_rowP hg hr (by omega) h1.out, h2.out.kept hg (fun r e => (hr r e).2), h3.grown hg h3.size (fun k e => by have := (hr k e).1; omega), Nat.le_trans h4 hg.size, kept_rowP hg hr (by omega) h5.out, kept_rowP hg hr (by omega) k5.out, kept_rowP hg hr (by omega) c5.out, fun q hk => ⟨(h6.out q hk).1, Nat.lt_of_lt_of_le (h6.out q hk).2 hg.size⟩⟩
  case hgr =>
    rintro A pre X o hsX ⟨u, h1, h2, h3, h4, h5, k5, c5, h6⟩
    have hbX : Below X.heap.size X (X.alloc o) := (Below.refl _ _).alloc (Nat.le_refl _) _
    refine ⟨u, (hbX.block _ h1.out.lt).trans h1.out, ?_, h3.alloc h3.size _, by simp; omega, (hbX.block _ (Array.getElem?_eq_some_iff.1 h5.out).1).trans h5.out, (hbX.block _ (Array.getElem?_eq_some_iff.1 k5.out).1).trans k5.out, (hbX.block _ (Array.getElem?_eq_some_iff.1 c5.out).1).trans c5.out, fun q hk => ?_⟩
    · obtain ⟨cs, hcs⟩ := h2.out
      exact ⟨cs, hcs.below hbX⟩
    · rcases List.mem_cons.1 hk with rfl | hk
      · obtain ⟨cs, hcs⟩ := h2.out
        exact ⟨fun e => by have := (World.ownsRow.lt hcs.1.1 _ e).2; omega, by simp⟩
      · exact ⟨(h6.out q hk).1, by have := (h6.out q hk).2; simp; omega⟩
  case hRdd =>
    rintro A pre X ⟨u, h1, h2, h3, h4, h5, k5, c5, h6⟩
    exact ⟨h5.out, by rw [cell_of_row X (w1.heap.size + 2) 0 _ _ _ k5.out]; rfl, by rw [cell_of_row X (w1.heap.size + 3) 0 _ _ _ c5.out]; rfl, HC0.out.below h3 hb, HT0.out.belowAll h3, Nat.lt_of_lt_of_le hb h3.size⟩
  case h0c => exact ⟨_, BXm, TL.nil _ _, hEm, Nat.le_refl _, haM, hkM, hcM, fun q hk => by cases hk⟩
  case assign =>
    intro l y W K hK
    gi_wp2
    exact hK
  case body =>
    rintro l A pre x W5 _ _ ⟨u, hbx, htl, hB5, hs5, ha5, hk5, hc5, hA5⟩ hAl _ hnx
    have cv := hbx.out.cell
    obtain ⟨Lp, hLp⟩ : ∃ Lp, Lp = pre.map prI := ⟨_, rfl⟩
    have hLpl : Lp.length ≤ 4000 := by
      obtain ⟨x1, x2, x3, -⟩ := hnx
      rw [hLp, List.length_map, x3]
      have h1 := pjW_len (Rf := fun _ => zs) (k := k) (c := c) (v := x.1) (q := pjV (fun _ => zs) k c zs.length x.1) x.2
      have h2 := pjV_len (Rf := fun _ => zs) (k := k) (c := c) (n := zs.length) x.1
      have h3 : zs.length * x.1 ≤ 62 * 62 := Nat.mul_le_mul h62 (by omega)
      omega
    have HMAP : Hid ((pre ++ [x]).map prI = Lp ++ [[(f1 x : Int), (f2 x : Int)]]) := by
      show _ = _
      rw [List.map_append, ← hLp, List.map_singleton, HPR.out]
    rw [← hLp] at htl
    obtain ⟨cs, htc⟩ := htl.out
    have HTC := Lib.hid htc
    have HT7 : Hid (((W5.alloc (.cells #[.int .i64 (f1 x), .int .i64 (f2 x)] 2)).alloc (.cells #[.slice (some ⟨W5.heap.size, 0, none⟩) 2 2] 22)).ownsRow (w1.heap.size + 4) 22 1 u Lp.length cs) := World.ownsRow.alloc (World.ownsRow.alloc htc.1.1 _) _
    have HNC : Hid (∀ j q, [Value.slice (some ⟨W5.heap.size, 0, none⟩) 2 2][j]? = some q → ((W5.alloc (.cells #[.int .i64 (f1 x), .int .i64 (f2 x)] 2)).alloc (.cells #[.slice (some ⟨W5.heap.size, 0, none⟩) 2 2] 22)).cell? ((⟨W5.heap.size + 1, 0, none⟩ : Addr).add j) = some q) := by
      have h := cell_one_new (W5.alloc (.cells #[.int .i64 (f1 x), .int .i64 (f2 x)] 2)) (.slice (some ⟨W5.heap.size, 0, none⟩) 2 2) 22
      rw [World.size_alloc] at h
      exact h
    clear hLp htc hnx
    generalize f1 x = v1 at *
    generalize f2 x = v2 at *
    gi_wp2_with (gi_at_builtin; refine wpListIn_append_own_at _ rfl (.tmp 25) (.tmp 29) 37 rfl (w1.heap.size + 4) 22 j0 (.slice none 0 0) 1 24 Tryd.underlying37 HJ.out HJ0.out HJ1.out HJ2.out rfl (by decide) u Lp.length cs rfl HT7.out ⟨W5.heap.size + 1, 0, none⟩ 1 1 [.slice (some ⟨W5.heap.size, 0, none⟩) 2 2] rfl rfl HNC.out (by simp [Value.oneCell']) (by unfold maxLen; omega) (by omega) (by simp; omega) ?_; intro l3 w8 hown8 hgr8 _ hloc; obtain ⟨q1, q2, q3, q4, q5, q6, q7⟩ := snoc_end hbx.out (by omega) HTC.out (by omega) hown8 hgr8 (by simpa using hloc); have c8 := q1.cell; have f8 := q1.frozen; obtain ⟨gg, cp, rfl⟩ := ownsRow_succ hown8; have Q2 := Lib.hid q2; have Q3 := Lib.hid q3; have Q4 := Lib.hid q4; have Q5 := Lib.hid q5; have Q6 := Lib.hid q6; have HLO := Lib.hid hloc; clear q1 q2 q3 q4 q5 q6 hown8 hgr8 hloc)
    have hul : ∀ k, u.ownBlock = some k → w1.heap.size + 4 ≤ k := fun k e => (World.ownsRow.lt HTC.out.1.1 k e).1
    refine ⟨Q2.out.from _, ⟨trivial, fun q hk => Q6.out q (hA5.out q hk).2 (by have := hAl q hk; omega) (hA5.out q hk).1⟩, _, Q3.out, ?_, hB5.trans (Q5.out _ (by omega)), by omega, ?_, ?_, ?_, fun q hk => ⟨fun e => ?_, ?_⟩⟩
    · show TL _ _ _ _
      rw [HMAP.out]; exact Q4.out
    · exact (Q6.out _ (Array.getElem?_eq_some_iff.1 ha5.out).1 (by omega) (fun e => by have := hul _ e; omega)).trans ha5.out
    · exact (Q6.out _ (Array.getElem?_eq_some_iff.1 hk5.out).1 (by omega) (fun e => by have := hul _ e; omega)).trans hk5.out
    · exact (Q6.out _ (Array.getElem?_eq_some_iff.1 hc5.out).1 (by omega) (fun e => by have := hul _ e; omega)).trans hc5.out
    · have hk2 := (hA5.out q hk)
      rcases HLO.out with h | h
      · rw [h] at e; exact hk2.1 e
      · rw [h] at e
        have h4 : W5.heap.size + 2 = q := by simpa using e
        have h3 := hk2.2
        omega
    · have h1 := (hA5.out q hk).2
      have h2 := (Q5.out 0 (Nat.zero_le _)).size
      omega
  case done =>
    rintro D A ys W2 hDD rfl ⟨u, hbx, htl, hB, hs, _, _, _, _⟩ hK
    have HTL : Hid (TL W2 (w1.heap.size + 4) u (PjL zs k c)) := htl
    have cv := hbx.out.cell
    clear htl
    gi_wp2
    refine leaves_marks (H := w.heap.size) [D] _ ⟨by simp, fun E hE => ?_⟩ fun W' hss hb' => ?_
    · obtain rfl : E = D := by simpa using hE
      exact ⟨by omega, hK⟩
    · refine ⟨_, results_tmp2 rfl _ _ _, ⟨u, rfl, ?_⟩, hB.trans hb'⟩
      refine (HTL.out.kept (row := some D) ⟨hb'.os, hb'.tape, hb'.output, hb'.size, fun k _ hne => hss k (fun e => hne (by simpa using e))⟩ (fun r e => by cases e; exact ⟨_, hK, rfl⟩)).base (by omega)
  case stop =>
    rintro D c pre W _ _ h _
    exact h.elim
end Go.Proofs.YtehpafbhejcbmaaDoor
