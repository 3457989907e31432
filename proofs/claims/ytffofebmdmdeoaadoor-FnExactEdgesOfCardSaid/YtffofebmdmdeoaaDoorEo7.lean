/-
  impl.EdgesOf.
-/
import Derived.Test.YtffofebmdmdeoaaDoorTl7
import Derived.Test.YtffofebmdmdeoaaDoorEi
import Derived.Maps.OwnIn
namespace Go.Proofs.YtffofebmdmdeoaaDoor
set_option maxRecDepth 100000
set_option maxRecDepth 100000
open Go.RowKit Go.Shelf

attribute [local go_sem] Oper.semAt_some

/-- A pair as a list. -/
def prI (p : Nat × Nat) : List Int := [(p.1 : Int), (p.2 : Int)]
/-- What holds when a pair has been appended to the list of lists in box E. -/
theorem snoc_end {E B : Nat} {t : TypeId} {W5 w8 : World} {x y : Int} {u l3 : Value} {Lp : List (List Int)} {cs : List Value} (hbx : Bx W5 E t u) (hE : E < B) (hT : TLc W5 B u Lp cs) (hB5 : B ≤ W5.heap.size)
    (hown8 : w8.ownsRow B 22 1 l3 (Lp.length + 1) (cs ++ [.slice (some ⟨W5.heap.size, 0, none⟩) 2 2]))
    (hgr8 : ((W5.alloc (.cells #[.int .i64 x, .int .i64 y] 2)).alloc (.cells #[.slice (some ⟨W5.heap.size, 0, none⟩) 2 2] 22)).grownBy w8 u.ownBlock)
    (hloc : l3.ownBlock = u.ownBlock ∨ l3.ownBlock = some (W5.heap.size + 2)) :
    Bx w8 E t u ∧ KeepsOthers W5 (w8.setCell ⟨E, 0, none⟩ l3) ∧ Bx (w8.setCell ⟨E, 0, none⟩ l3) E t l3 ∧ TL (w8.setCell ⟨E, 0, none⟩ l3) B l3 (Lp ++ [[x, y]]) ∧ (∀ B0, B0 ≤ E → Below B0 W5 (w8.setCell ⟨E, 0, none⟩ l3)) ∧
      (∀ k, k < W5.heap.size → k ≠ E → u.ownBlock ≠ some k → (w8.setCell ⟨E, 0, none⟩ l3).heap[k]? = W5.heap[k]?) ∧ W5.heap.size + 2 < (w8.setCell ⟨E, 0, none⟩ l3).heap.size + 1 := by
  obtain ⟨W6, hW6⟩ : ∃ W6, W6 = W5.alloc (.cells #[.int .i64 x, .int .i64 y] 2) := ⟨_, rfl⟩
  obtain ⟨W7, hW7⟩ : ∃ W7, W7 = W6.alloc (.cells #[.slice (some ⟨W5.heap.size, 0, none⟩) 2 2] 22) := ⟨_, rfl⟩
  have s6 : W6.heap.size = W5.heap.size + 1 := by rw [hW6]; simp
  have s7 : W7.heap.size = W5.heap.size + 2 := by rw [hW7]; simp [s6]
  have hO6 : Own W6 B (.slice (some ⟨W5.heap.size, 0, none⟩) 2 2) [x, y] := by
    rw [hW6]; exact Own.of_blk (Blk.new W5 [x, y]) hB5 (by unfold maxLen; simp)
  have B7 : Below W5.heap.size W5 W7 := by rw [hW7, hW6]; exact ((Below.refl _ _).alloc (Nat.le_refl _) _).alloc (by simp) _
  have hO7 : Own W7 B (.slice (some ⟨W5.heap.size, 0, none⟩) 2 2) [x, y] := by rw [hW7]; exact hO6.below ((Below.refl _ W6).alloc (Nat.le_refl _) _)
  rw [← hW6, ← hW7] at hgr8
  have s8 := hgr8.size
  have hub : ∀ k, u.ownBlock = some k → B ≤ k ∧ k < W5.heap.size := fun k e => World.ownsRow.lt hT.1.1 k e
  have hEl := hbx.lt
  have hbx8 : Bx w8 E t u := (hgr8.block _ (by omega) (fun e => by have := (hub _ e.symm).1; omega)).trans ((B7.block _ hEl).trans hbx)
  have hT7 := hT.below B7
  have hTL8 : TL w8 B l3 (Lp ++ [[x, y]]) := by
    refine hT7.snoc (H := W5.heap.size) hO7 ?_ (fun e => by cases e) hown8 hgr8 ?_ (fun i y k hy hk => hT.lt hy hk) (fun k e => ?_)
    · refine .inr fun e => ?_
      have := (hub W5.heap.size e.symm).2
      omega
    · rw [s7]; exact hloc
    · obtain rfl : W5.heap.size = k := by simpa [Value.ownBlock] using e
      exact Nat.le_refl _
  have hg9 := grown_setP w8 E 0 l3
  have s9 := hg9.size
  refine ⟨hbx8, ?_, hbx8.set _, hTL8.low hg9 hE, fun B0 h0 => ?_, fun k hk hkE hku => ?_, by omega⟩
  · refine ((KeepsOthers.of_grownBy (row := none) (grown_of_below B7 none) (fun j o e => by cases e)).trans (KeepsOthers.of_grownBy hgr8 (fun j o e ho => ?_))).trans (KeepsOthers.setCell _ _ _)
    obtain ⟨o2, h1, h2⟩ := ownsRow_cells hT7.1.1 j e
    rw [ho] at h1; cases h1; exact h2
  · exact ((B7.mono (by omega)).grown hgr8 (by omega) (fun k e => by have := (hub k e).1; omega)).setCell (p := ⟨E, 0, none⟩) (by simpa using h0) _
  · exact (hg9.block _ (by omega) (fun e => by cases e; exact hkE rfl)).trans ((hgr8.block _ (by omega) (fun e => hku e.symm)).trans (B7.block _ hk))

def EdLL (zs : List Int) : List (List Int) := (edL zs).map prI
theorem edP_len (zs : List Int) (h62 : zs.length ≤ 62) : ∀ k, (edP zs k).length ≤ 64 * k
  | 0 => Nat.le_refl _
  | k + 1 => by
    rw [edP_succ, List.length_append, List.length_map]
    have h1 := edP_len zs h62 k
    have h2 : (mem (hiN zs k)).length ≤ 64 := mem_len64P _
    omega

set_option maxHeartbeats 4000000 in
theorem implEo_in (b off cap : Nat) (zs : List Int) (w : World) (hb : b < w.heap.size) (hc : Cells w b off zs) (hg : isG zs.length zs = true) (hT : Tab w) :
    CallsIn Fence.wide 6 Tryd.prog 28 #[.agg #[.int .i64 zs.length, .slice (some ⟨b, off, none⟩) zs.length cap]] w fun e w' => LSRes w.heap.size (EdLL zs) 0 e w' ∧ Below w.heap.size w w' := by
  obtain ⟨g1, g2, g3, g4, -⟩ := isG_parts hg
  have h62 : zs.length ≤ 62 := by omega
  have D0 : Below w.heap.size w (w.alloc (.cells #[.int .i64 zs.length, .slice (some ⟨b, off, none⟩) zs.length cap] 28)) := (Below.refl _ _).alloc (Nat.le_refl _) _
  have his := implIs_some zs.length b off cap zs _ (Nat.lt_of_lt_of_le hb D0.size) (hc.below D0 hb) (by omega) (hT.belowAll D0)
  rw [hg] at his
  have HG0 := Lib.hid (GBox.new (n := zs.length) (cap := cap) hb hc)
  have HG := Lib.hid hg
  have HT0 := Lib.hid hT
  have HC0 := Lib.hid hc
  have hlen := edP_len zs h62 zs.length
  obtain ⟨j0, hj, hy0, hy1, hy2⟩ := info_parts mkS_info
  have HJ := Lib.hid hj; have HJ0 := Lib.hid hy0; have HJ1 := Lib.hid hy1; have HJ2 := Lib.hid hy2
  clear hc hg hT hj hy0 hy1 hy2 g3 g4
  refine callsIn_of_wp_marks Tryd.func28 rfl trivial ?_ rfl
  simp only [Tryd.ntmps28, List.size_toArray, List.length_cons, List.length_nil, Nat.reduceAdd, Nat.reduceSub, Array.replicate_succ, Array.replicate_zero, List.push_toArray, List.append_toArray, List.nil_append, List.cons_append]
  gi_upto_region 3 with (refine ⟨trivial, ?_⟩; gi_at_call 24; refine (callsIn_wide.2 his).mono ?_; rintro e w1 ⟨rfl, hb1⟩)
  have G1 := Lib.hid (HG0.out.below (hb1.mono (by simp)))
  have D1 : Below w.heap.size w w1 := D0.trans (hb1.mono (by simp))
  have s1 : w.heap.size + 1 ≤ w1.heap.size := by have := hb1.size; simpa using this
  clear his hb1 D0 HG0
  gi_upto_region 4 with fail
  obtain ⟨Wb, hWb⟩ : ∃ Wb, Wb = w1.alloc (.cells #[.slice none 0 0] 42) := ⟨_, rfl⟩
  refine at_world (w' := Wb) ?_ (by rw [hWb])
  have hbb : Below w1.heap.size w1 Wb := by rw [hWb]; exact (Below.refl _ _).alloc (Nat.le_refl _) _
  have sb : Wb.heap.size = w1.heap.size + 1 := by rw [hWb]; simp
  have BXb : Hid (Bx Wb w1.heap.size 42 (.slice none 0 0)) := by show Bx _ _ _ _; rw [hWb]; exact World.alloc_heap_new w1 _
  have Gb := Lib.hid (G1.out.below (hbb.mono s1))
  have b0 := Gb.out.b0; have b1 := Gb.out.b1
  clear hWb
  gi_wp2_with (refine ⟨trivial, ?_⟩; gi_at_call 55; refine (callsIn_wide.2 (edgesIn_any _ _ _)).mono ?_; rintro e w' ⟨rfl, rfl⟩)
  obtain ⟨Wm, hWm⟩ : ∃ Wm, Wm = Wb.alloc (.cells #[.int .i64 zs.length, .slice (some ⟨b, off, none⟩) zs.length cap] 28) := ⟨_, rfl⟩
  refine at_world (w' := Wm) ?_ (by rw [hWm])
  have hbm : Below w1.heap.size w1 Wm := by rw [hWm]; exact hbb.alloc (by omega) _
  have sm : Wm.heap.size = w1.heap.size + 2 := by rw [hWm]; simp [sb]
  have hbbm : Below Wb.heap.size Wb Wm := by rw [hWm]; exact (Below.refl _ _).alloc (Nat.le_refl _) _
  have BXm : Hid (Bx Wm w1.heap.size 42 (.slice none 0 0)) := (hbbm.block _ BXb.out.lt).trans BXb.out
  have haM : Hid (Wm.heap[w1.heap.size + 1]? = some (.cells #[.int .i64 zs.length, .slice (some ⟨b, off, none⟩) zs.length cap] 28 (0, 0))) := by show _ = _; rw [hWm, ← sb]; exact World.alloc_heap_new Wb _
  have hEm : Below w.heap.size w Wm := D1.trans (hbm.mono (by omega))
  have hst := edges_stops 5 (by omega) (w1.heap.size + 1) b off cap zs HG.out Wm
  obtain ⟨f1, hf1⟩ : ∃ f1 : Nat × Nat → Nat, f1 = fun x => x.1 := ⟨_, rfl⟩
  obtain ⟨f2, hf2⟩ : ∃ f2 : Nat × Nat → Nat, f2 = fun x => x.2 := ⟨_, rfl⟩
  rw [show (fun x : Nat × Nat => (#[.int .i64 (x.1 : Nat), .int .i64 (x.2 : Nat)] : Array Value)) = fun x => #[.int .i64 (f1 x), .int .i64 (f2 x)] by rw [hf1, hf2]] at hst
  have HPR : Hid (∀ x : Nat × Nat, prI x = [(f1 x : Int), (f2 x : Int)]) := fun x => by rw [hf1, hf2]; rfl
  clear hWm b0 b1 hf1 hf2 BXb Gb hbbm
  refine wpIn_rangeO rfl (by omega) (gf := 67) (lb := #[.pointer (some ⟨w1.heap.size + 1, 0, none⟩)]) rfl trivial (enters_of Tryd.func67 (by kernel_rfl) rfl)
    hst (fun _ _ => trivial) (fun _ _ _ _ _ _ _ _ => trivial) (Below.refl _ _) (fun _ => rfl)
    (fun A pre X => ∃ u, Hid (Bx X w1.heap.size 42 u) ∧ Hid (TL X (w1.heap.size + 2) u (pre.map prI)) ∧ Below w.heap.size w X ∧ Wm.heap.size ≤ X.heap.size ∧ Hid (X.heap[w1.heap.size + 1]? = some (.cells #[.int .i64 zs.length, .slice (some ⟨b, off, none⟩) zs.length cap] 28 (0, 0))) ∧ Hid (∀ k, k ∈ A → u.ownBlock ≠ some k ∧ k < X.heap.size))
    (fun _ _ _ => False)
    ?hI (fun _ _ _ _ _ hs _ _ => hs) ?hgr ?hRdd ?h0c (fun x => { tmps := #[.agg #[.int .i64 zs.length, .slice (some ⟨b, off, none⟩) zs.length cap], .pointer (some ⟨w.heap.size, 0, none⟩), .slice none 0 0, .int .i64 0, .pointer (some ⟨w1.heap.size, 0, none⟩), .int .i64 (f1 x), .int .i64 (f2 x), .agg #[.int .i64 zs.length, .slice (some ⟨b, off, none⟩) zs.length cap], .bool true, .bool false, .agg #[.int .i64 zs.length, .slice (some ⟨b, off, none⟩) zs.length cap], .func (.func 67) #[] #[.pointer (some ⟨w1.heap.size + 1, 0, none⟩)], .int .i64 (f1 x), .int .i64 (f2 x), undef, undef, undef, undef, undef, undef, undef], defers := [] }) ?assign ?body ?done ?stop
  case hI =>
    rintro A pre X Y row ⟨u, h1, h2, h3, h4, h5, h6⟩ hg hr
    exact ⟨u, kept_rowP hg hr (by omega) h1.out, h2.out.kept hg (fun r e => (hr r e).2), h3.grown hg h3.size (fun k e => by have := (hr k e).1; omega), Nat.le_trans h4 hg.size, kept_rowP hg hr (by omega) h5.out, fun k hk => ⟨(h6.out k hk).1, Nat.lt_of_lt_of_le (h6.out k hk).2 hg.size⟩⟩
  case hgr =>
    rintro A pre X o hsX ⟨u, h1, h2, h3, h4, h5, h6⟩
    have hbX : Below X.heap.size X (X.alloc o) := (Below.refl _ _).alloc (Nat.le_refl _) _
    refine ⟨u, (hbX.block _ h1.out.lt).trans h1.out, ?_, h3.alloc h3.size _, by simp; omega, (hbX.block _ (Array.getElem?_eq_some_iff.1 h5.out).1).trans h5.out, fun k hk => ?_⟩
    · obtain ⟨cs, hcs⟩ := h2.out
      exact ⟨cs, hcs.below hbX⟩
    · rcases List.mem_cons.1 hk with rfl | hk
      · obtain ⟨cs, hcs⟩ := h2.out
        exact ⟨fun e => by have := (World.ownsRow.lt hcs.1.1 _ e).2; omega, by simp⟩
      · exact ⟨(h6.out k hk).1, by have := (h6.out k hk).2; simp; omega⟩
  case hRdd =>
    rintro A pre X ⟨u, h1, h2, h3, h4, h5, h6⟩
    exact ⟨h5.out, HC0.out.below h3 hb, HT0.out.belowAll h3⟩
  case h0c => exact ⟨_, BXm, TL.nil _ _, hEm, Nat.le_refl _, haM, fun k hk => by cases hk⟩
  case assign =>
    intro l y W K hK
    gi_wp2
    exact hK
  case body =>
    rintro l A pre x W5 _ _ ⟨u, hbx, htl, hB5, hs5, ha5, hA5⟩ hAl _ hnx
    have cv := hbx.out.cell
    obtain ⟨Lp, hLp⟩ : ∃ Lp, Lp = pre.map prI := ⟨_, rfl⟩
    have hLpl : Lp.length ≤ 4000 := by
      have h1 := hnx.length_le
      have h2 : (edL zs).length = (edP zs zs.length).length := rfl
      rw [hLp, List.length_map]
      rw [List.length_append] at h1
      omega
    have HMAP : Hid ((pre ++ [x]).map prI = Lp ++ [[(f1 x : Int), (f2 x : Int)]]) := by
      show _ = _
      rw [List.map_append, ← hLp, List.map_singleton, HPR.out]
    rw [← hLp] at htl
    obtain ⟨cs, htc⟩ := htl.out
    have HTC := Lib.hid htc
    have HT7 : Hid (((W5.alloc (.cells #[.int .i64 (f1 x), .int .i64 (f2 x)] 2)).alloc (.cells #[.slice (some ⟨W5.heap.size, 0, none⟩) 2 2] 22)).ownsRow (w1.heap.size + 2) 22 1 u Lp.length cs) := World.ownsRow.alloc (World.ownsRow.alloc htc.1.1 _) _
    have HNC : Hid (∀ j q, [Value.slice (some ⟨W5.heap.size, 0, none⟩) 2 2][j]? = some q → ((W5.alloc (.cells #[.int .i64 (f1 x), .int .i64 (f2 x)] 2)).alloc (.cells #[.slice (some ⟨W5.heap.size, 0, none⟩) 2 2] 22)).cell? ((⟨W5.heap.size + 1, 0, none⟩ : Addr).add j) = some q) := by
      have h := cell_one_new (W5.alloc (.cells #[.int .i64 (f1 x), .int .i64 (f2 x)] 2)) (.slice (some ⟨W5.heap.size, 0, none⟩) 2 2) 22
      rw [World.size_alloc] at h
      exact h
    clear hLp htc hnx
    generalize f1 x = v1 at *
    generalize f2 x = v2 at *
    gi_wp2_with (gi_at_builtin; refine wpListIn_append_own_at _ rfl (.tmp 14) (.tmp 18) 42 rfl (w1.heap.size + 2) 22 j0 (.slice none 0 0) 1 24 Tryd.underlying42 HJ.out HJ0.out HJ1.out HJ2.out rfl (by decide) u Lp.length cs rfl HT7.out ⟨W5.heap.size + 1, 0, none⟩ 1 1 [.slice (some ⟨W5.heap.size, 0, none⟩) 2 2] rfl rfl HNC.out (by simp [Value.oneCell']) (by unfold maxLen; omega) (by omega) (by simp; omega) ?_; intro l3 w8 hown8 hgr8 _ hloc; obtain ⟨q1, q2, q3, q4, q5, q6, q7⟩ := snoc_end hbx.out (by omega) HTC.out (by omega) hown8 hgr8 (by simpa using hloc); have c8 := q1.cell; have f8 := q1.frozen; obtain ⟨gg, cp, rfl⟩ := ownsRow_succ hown8; have Q2 := Lib.hid q2; have Q3 := Lib.hid q3; have Q4 := Lib.hid q4; have Q5 := Lib.hid q5; have Q6 := Lib.hid q6; have HLO := Lib.hid hloc; clear q1 q2 q3 q4 q5 q6 hown8 hgr8 hloc)
    have hul : ∀ k, u.ownBlock = some k → w1.heap.size + 2 ≤ k := fun k e => (World.ownsRow.lt HTC.out.1.1 k e).1
    refine ⟨Q2.out.from _, ⟨trivial, fun k hk => Q6.out k (hA5.out k hk).2 (by have := hAl k hk; omega) (hA5.out k hk).1⟩, _, Q3.out, ?_, hB5.trans (Q5.out _ (by omega)), by omega, ?_, fun k hk => ⟨fun e => ?_, ?_⟩⟩
    · show TL _ _ _ _
      rw [HMAP.out]; exact Q4.out
    · exact (Q6.out _ (Array.getElem?_eq_some_iff.1 ha5.out).1 (by omega) (fun e => by have := hul _ e; omega)).trans ha5.out
    · have hk2 := (hA5.out k hk)
      rcases HLO.out with h | h
      · rw [h] at e; exact hk2.1 e
      · rw [h] at e
        have h4 : W5.heap.size + 2 = k := by simpa using e
        have h3 := hk2.2
        omega
    · have h1 := (hA5.out k hk).2
      have h2 := (Q5.out 0 (Nat.zero_le _)).size
      omega
  case done =>
    rintro D A ys W2 hDD rfl ⟨u, hbx, htl, hB, hs, _, _⟩ hK
    have HTL : Hid (TL W2 (w1.heap.size + 2) u (EdLL zs)) := htl
    have cv := hbx.out.cell
    clear htl
    gi_wp2
    refine leaves_marks (H := w.heap.size) [D] _ ⟨by simp, fun E hE => ?_⟩ fun W' hss hb' => ?_
    · obtain rfl : E = D := by simpa using hE
      exact ⟨by omega, hK⟩
    · refine ⟨_, results_tmp2 rfl _ _ _, ⟨u, rfl, ?_⟩, hB.trans hb'⟩
      refine (HTL.out.kept (row := some D) ⟨hb'.os, hb'.tape, hb'.output, hb'.size, fun k _ hne => hss k (fun e => hne (by simpa using e))⟩ (fun r e => by cases e; exact ⟨_, hK, rfl⟩)).base (by omega)
  case stop =>
    rintro D c pre W _ _ h _
    exact h.elim

def EoL (n : Int) (zs : List Int) : List (List Int) := if isG n zs then EdLL zs else []
def EoC (n : Int) (zs : List Int) : Int := if isG n zs then 0 else 1

set_option maxHeartbeats 800000 in
theorem implEo_no (n : Int) (v : Value) (zs : List Int) (w : World) (h : Sl w v zs) (hg : isG n zs = false) (hl : zs.length ≤ 9223372036854775807) (hT : Tab w) :
    Calls Tryd.prog 28 #[.agg #[.int .i64 n, v]] w fun e w' => LSRes w.heap.size [] 1 e w' ∧ Below w.heap.size w w' := by
  have D0 : Below w.heap.size w (w.alloc (.cells #[.int .i64 n, v] 28)) := (Below.refl _ _).alloc (Nat.le_refl _) _
  have his := implIs_any n v zs _ (h.below D0) hl (hT.belowAll D0)
  rw [hg] at his
  clear h hg hT
  go_enter Tryd.func28, Tryd.ntmps28
  go_wp2_with (go_at_call 24; refine his.mono ?_; rintro e w1 ⟨rfl, hb1⟩)
  go_ret2
  exact ⟨⟨_, rfl, TL.nil _ _⟩, D0.trans (hb1.mono (by simp))⟩

theorem implEo_any (n : Int) (v : Value) (zs : List Int) (w : World) (h : Sl w v zs) (hl : zs.length ≤ 9223372036854775807) (hT : Tab w) :
    Calls Tryd.prog 28 #[.agg #[.int .i64 n, v]] w fun e w' => LSRes w.heap.size (EoL n zs) (EoC n zs) e w' ∧ Below w.heap.size w w' := by
  unfold EoL EoC
  cases hg : isG n zs
  · exact implEo_no n v zs w h hg hl hT
  · obtain ⟨h1, _, h3, _⟩ := isG_parts hg
    obtain ⟨b, off, cap, rfl, hb, hc⟩ := sl_some h (by omega)
    obtain rfl : (zs.length : Int) = n := h3
    exact callsIn_wide.1 (implEo_in b off cap zs w hb hc hg hT)
end Go.Proofs.YtffofebmdmdeoaaDoor
