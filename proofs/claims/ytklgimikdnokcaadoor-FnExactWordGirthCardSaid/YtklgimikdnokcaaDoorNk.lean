/-
  spec.l05Generated and spec.GeneratedBy. (A tied seat of groups.)
-/
import Derived.Test.YtklgimikdnokcaaDoorNl
namespace Go.Proofs.YtklgimikdnokcaaDoor
set_option maxRecDepth 100000
open Go.RowKit

/-- Element i of a list of numbers. -/
def fe (fs : List Nat) (i : Nat) : Nat := fs.getD i 0
def natI (fs : List Nat) : List Int := fs.map fun y : Nat => (y : Int)
def inL (fs : List Nat) (y : Nat) : Bool := fs.contains y
theorem inL_iff {fs : List Nat} {y : Nat} : inL fs y = true ↔ y ∈ fs := by unfold inL; simp
theorem inL_snoc (fs : List Nat) (y : Nat) : inL (fs ++ [y]) = fun z => inL fs z || z == y := by
  funext z
  rw [Bool.eq_iff_iff, inL_iff, Bool.or_eq_true, inL_iff]
  simp
theorem fe_mem {fs : List Nat} {i : Nat} (h : i < fs.length) : fe fs i ∈ fs := by
  unfold fe; rw [List.getD_eq_getElem?_getD, List.getElem?_eq_getElem h]; exact List.getElem_mem h
theorem fe_snoc {fs : List Nat} {i y : Nat} (h : i < fs.length) : fe (fs ++ [y]) i = fe fs i := by
  unfold fe; rw [List.getD_eq_getElem?_getD, List.getD_eq_getElem?_getD, List.getElem?_append_left h]
theorem natI_length (fs : List Nat) : (natI fs).length = fs.length := by simp [natI]
theorem natI_snoc (fs : List Nat) (y : Nat) : natI (fs ++ [y]) = natI fs ++ [(y : Int)] := by simp [natI]
theorem el_natI {fs : List Nat} {i : Nat} (h : i < fs.length) : el (natI fs) i = (fe fs i : Nat) := by simp [el, natI, fe, h]

/-- What holds while the list grows: the first i elements' products are there, and t of those of element i. -/
structure GI (k p : Nat) (js : List Int) (fs : List Nat) (i t : Nat) : Prop where
  nd : fs.Nodup
  re : ∀ a, a ∈ fs → Reach k p js a
  zero : 0 ∈ fs
  cl : ∀ j s, (j < i ∧ s < js.length) ∨ (j = i ∧ s < t) → gMul k p (fe fs j) (el js s).toNat ∈ fs
  le : i ≤ fs.length
theorem GI.start (k p : Nat) (js : List Int) : GI k p js [0] 0 0 :=
  ⟨by simp, fun a ha => by rw [List.mem_singleton.1 ha]; exact .unit, by simp, fun j s h => by omega, by simp⟩
theorem GI.pos {k p : Nat} {js : List Int} {fs : List Nat} {i t : Nat} (h : GI k p js fs i t) : 0 < fs.length := List.length_pos_of_mem h.zero
theorem GI.le_n {k p : Nat} {js : List Int} {fs : List Nat} {i t : Nat} (h : GI k p js fs i t) (hg : gOk k p = true) : fs.length ≤ gOrd k p := by
  have := nodup_le fs (List.range (gOrd k p)) h.nd fun a ha => List.mem_range.2 ((h.re a ha).lt hg)
  rw [List.length_range] at this; exact this
theorem GI.lt {k p : Nat} {js : List Int} {fs : List Nat} {i t j : Nat} (h : GI k p js fs i t) (hg : gOk k p = true) (hj : j < fs.length) : fe fs j < gOrd k p := (h.re _ (fe_mem hj)).lt hg
theorem GI.old {k p : Nat} {js : List Int} {fs : List Nat} {i t : Nat} (h : GI k p js fs i t) (hm : gMul k p (fe fs i) (el js t).toNat ∈ fs) : GI k p js fs i (t + 1) := by
  refine ⟨h.nd, h.re, h.zero, fun j s hs => ?_, h.le⟩
  by_cases e : j = i ∧ s = t
  · obtain ⟨rfl, rfl⟩ := e; exact hm
  · exact h.cl j s (by omega)
theorem GI.new {k p : Nat} {js : List Int} {fs : List Nat} {i t : Nat} (h : GI k p js fs i t) (hi : i < fs.length) (ht : t < js.length) (hm : gMul k p (fe fs i) (el js t).toNat ∉ fs) : GI k p js (fs ++ [gMul k p (fe fs i) (el js t).toNat]) i (t + 1) := by
  refine ⟨?_, fun a ha => ?_, List.mem_append_left _ h.zero, fun j s hs => ?_, by rw [List.length_append]; omega⟩
  · rw [List.nodup_append]
    refine ⟨h.nd, by simp, fun a ha b hb e => ?_⟩
    rw [List.mem_singleton.1 hb] at e
    exact hm (e ▸ ha)
  · rcases List.mem_append.1 ha with ha | ha
    · exact h.re a ha
    · rw [List.mem_singleton.1 ha]; exact (h.re _ (fe_mem hi)).step ht
  · rw [fe_snoc (by omega)]
    by_cases e : j = i ∧ s = t
    · obtain ⟨rfl, rfl⟩ := e; exact List.mem_append_right _ (by simp)
    · exact List.mem_append_left _ (h.cl j s (by omega))
theorem GI.next {k p : Nat} {js : List Int} {fs : List Nat} {i : Nat} (h : GI k p js fs i js.length) (hi : i < fs.length) : GI k p js fs (i + 1) 0 := by
  refine ⟨h.nd, h.re, h.zero, fun j s hs => ?_, hi⟩
  exact h.cl j s (by omega)
theorem GI.done {k p : Nat} {js : List Int} {fs : List Nat} (h : GI k p js fs fs.length 0) : inL fs = genB k p js := by
  funext y
  rw [Bool.eq_iff_iff, inL_iff, genB_iff]
  refine ⟨h.re y, fun hr => ?_⟩
  induction hr with
  | unit => exact h.zero
  | @step x i _ hi ih =>
    obtain ⟨j, hj, e⟩ := List.getElem_of_mem ih
    have := h.cl j i (.inl ⟨hj, hi⟩)
    have e2 : fe fs j = x := by unfold fe; rw [List.getD_eq_getElem?_getD, List.getElem?_eq_getElem hj]; exact e
    rw [e2] at this; exact this

/-- The numbers below t that f tells. -/
def upA (f : Nat → Bool) (t : Nat) : List Int := ((List.range t).filter f).map fun y : Nat => (y : Int)
theorem upA_length (f : Nat → Bool) (t : Nat) : (upA f t).length ≤ t := by
  unfold upA; rw [List.length_map]; have := List.length_filter_le f (List.range t); rw [List.length_range] at this; exact this
theorem upA_zero (f : Nat → Bool) : upA f 0 = [] := rfl
theorem upA_yes (f : Nat → Bool) (t : Nat) (h : f t = true) : upA f (t + 1) = upA f t ++ [(t : Int)] := by simp [upA, List.range_succ, List.filter_append, h]
theorem upA_no (f : Nat → Bool) (t : Nat) (h : f t = false) : upA f (t + 1) = upA f t := by simp [upA, List.range_succ, List.filter_append, h]
theorem upA_gen (k p : Nat) (js : List Int) : upA (genB k p js) (gOrd k p) = genL k p js := rfl

theorem Own.setO {w : World} {B gm : Nat} {u : Value} {L : List Int} (h : Own w B u L) (hg : gm < B) (j : Nat) (v : Value) : Own (w.setCell ⟨gm, j, none⟩ v) B u L :=
  h.kept (grown_set ⟨rfl, rfl, rfl, Nat.le_refl _, fun _ _ _ => rfl⟩ gm j v) (.inr fun e => by have := h.ge gm e; omega)
theorem own_open {w : World} {B : Nat} {u : Value} {fs : List Nat} (h : Own w B u (natI fs)) (h0 : 0 < fs.length) : ∃ g cap, u = .slice (some ⟨g, 0, none⟩) fs.length cap ∧ B ≤ g ∧ g < w.heap.size ∧ ∀ i, i < fs.length → w.cell? ⟨g, i, none⟩ = some (.int .i64 (fe fs i : Nat)) := by
  have hl := natI_length fs
  rcases h.form with ⟨_, e⟩ | ⟨g, cap, rfl, h1, h2⟩
  · rw [e] at hl; simp at hl; omega
  · refine ⟨g, cap, by rw [hl], h1, h2, fun i hi => ?_⟩
    rcases h.sl with ⟨a, c, _, e⟩ | ⟨b, off, cap', e1, _, hc⟩
    · rw [e] at hl; simp at hl; omega
    · cases e1
      have := hc i (by omega)
      rw [Nat.zero_add, el_natI hi] at this; exact this

set_option maxHeartbeats 3200000 in
set_option maxRecDepth 100000 in
theorem l05Gen_near (k p cap : Nat) (a : Option Addr) (js : List Int) (w : World) (h : gOk k p = true) (hj : elOk (gOrd k p) js js.length = true) (hc : js.length = 0 ∨ ∃ b off, a = some ⟨b, off, none⟩ ∧ b < w.heap.size ∧ Cells w b off js) (hl : js.length ≤ 9223372036854775807) :
    Calls Tryd.prog 45 #[gv k p, .slice a js.length cap] w fun e w' => (∃ u, e = .returned u ∧ Own w' w.heap.size u (genL k p js)) ∧ Below w.heap.size w w' := by
  have D0 : Below w.heap.size w (w.alloc (.cells #[.int .i64 k, .int .i64 p] 27)) := (Below.refl _ _).alloc (Nat.le_refl _) _
  have HB0 := Lib.hid (World.alloc_heap_new w (.cells #[.int .i64 k, .int .i64 p] 27))
  have ho := Lib.hid (l05Order_any k p (w.alloc (.cells #[.int .i64 k, .int .i64 p] 27)) h)
  have HI := Lib.hid (fun x y W (hx : x < gOrd k p) (hy : y < gOrd k p) => l05Times_any k p x y W h hx hy)
  have HIL := Lib.hid (fun x y => @gMul_lt k p x y h)
  have HGL := Lib.hid (fun fs i t (hG : GI k p js fs i t) => hG.le_n h)
  have HGT := Lib.hid (fun fs i t j (hG : GI k p js fs i t) (hi : j < fs.length) => hG.lt h hi)
  have HJ := Lib.hid hj
  have HC := Lib.hid hc
  have hn := gOrd_le h
  have hn1 := gOrd_pos h
  have HU := Lib.hid (upA_gen k p js)
  obtain ⟨n, hnn⟩ : ∃ n, n = gOrd k p := ⟨_, rfl⟩
  have hmk := run_mkBools n (by omega)
  rw [← hnn] at ho HI HIL HJ hn hn1 HU HGL HGT
  simp only [World.size_alloc] at ho
  rw [← HU.out]
  obtain ⟨F, hF⟩ : ∃ F, F = genB k p js := ⟨_, rfl⟩
  rw [← hF]
  have HF := Lib.hid hF
  clear hj hc hnn h hF
  simp only [gv] at *
  go_enter Tryd.func45, Tryd.ntmps45
  go_wp2_with fail
  refine ho.out.mono ?_
  rintro e w1 ⟨rfl, hb1⟩
  have s1 := hb1.size
  simp only [World.size_alloc] at s1
  obtain ⟨w2, h2⟩ : ∃ w2, w2 = (w1.alloc (.cells (boolsA (List.replicate n false)) 4)).alloc (.cells #[.int .i64 0] 2) := ⟨_, rfl⟩
  have hm2 : BBlk w2 w1.heap.size (List.replicate n false) := by rw [h2]; exact (BBlk.new w1 _).alloc _
  have hz2 : Blk w2 (w1.heap.size + 1) [0] := by
    rw [h2]
    exact heap_new_at (w1.alloc (.cells (boolsA (List.replicate n false)) 4)) (.cells #[.int .i64 0] 2) (w1.heap.size + 1) (by simp)
  have c0 := hm2.cell (i := 0) (by rw [List.length_replicate]; exact hn1)
  have f0 := hm2.frozen 0
  clear hm2 hz2
  rw [h2] at c0 f0
  clear h2
  clear w2
  have hni : (0 : Int) < n := by omega
  go_wp2_with fail
  obtain ⟨gm, hgm⟩ : ∃ gm, gm = w1.heap.size := ⟨_, rfl⟩
  have hset : (boolsA (List.replicate n false)).setIfInBounds 0 (.bool true) = boolsA (boolsF n (inL [0])) := by
    have e := boolsF_set n (fun _ => false) 0
    rw [boolsF_none] at e
    rw [show inL [0] = fun y => false || y == 0 from inL_snoc [] 0, ← e]
    unfold boolsA
    rw [List.map_set, List.setIfInBounds_toArray]
  rw [hset]
  obtain ⟨w3, h3⟩ : ∃ w3, w3 = (w1.alloc (.cells (boolsA (boolsF n (inL [0]))) 4)).alloc (.cells #[.int .i64 0] 2) := ⟨_, rfl⟩
  have HM3 : Hid (BBlk w3 gm (boolsF n (inL [0]))) := by show BBlk _ _ _; rw [h3, hgm]; exact (BBlk.new w1 _).alloc _
  have HO3 : Hid (Own w3 (gm + 1) (.slice (some ⟨gm + 1, 0, none⟩) 1 1) (natI [0])) := by
    show Own _ _ _ _
    refine Own.of_blk (L := [0]) ?_ (Nat.le_refl _) (by simp; decide)
    rw [h3, hgm]
    exact heap_new_at (w1.alloc (.cells (boolsA (boolsF n (inL [0]))) 4)) (.cells #[.int .i64 0] 2) (w1.heap.size + 1) (by simp)
  have hb3 : Below w1.heap.size w1 w3 := by rw [h3]; exact ((Below.refl _ _).alloc (Nat.le_refl _) _).alloc (by simp) _
  have E3 : Below (w.heap.size + 1) (w.alloc (.cells #[.int .i64 k, .int .i64 p] 27)) w3 := by have := hb1.trans (hb3.mono (by simpa using s1)); simpa using this
  have s3 : gm + 2 ≤ w3.heap.size := by rw [h3, hgm]; simp
  have g1 : w.heap.size + 1 ≤ gm := by omega
  rw [← h3, ← hgm]
  clear h3 hb3 hb1 hgm s1 ho hmk c0 f0 hset
  obtain ⟨i0, hi, hz0, hz1, hz2⟩ := info_parts mk_info
  have KI := Lib.hid hi; have KI0 := Lib.hid hz0; have KI1 := Lib.hid hz1; have KI2 := Lib.hid hz2
  clear hi hz0 hz1 hz2
  go_loopw [6, 7] (fun l i wr => ∃ (fs : List Nat) (t : Nat), i = .int .i64 t ∧ Hid (GI k p js fs t 0) ∧ Hid (Own wr (gm + 1) l (natI fs)) ∧ Hid (BBlk wr gm (boolsF n (inL fs))) ∧ Below (w.heap.size + 1) (w.alloc (.cells #[.int .i64 k, .int .i64 p] 27)) wr ∧ gm + 2 ≤ wr.heap.size) (fun _ i _ => n - (intOf i).toNat)
  case atStart => exact ⟨[0], 0, rfl, GI.start k p js, HO3, HM3, E3, s3⟩
  case round =>
    clear HM3 HO3 E3 s3
    obtain ⟨fs, t, rfl, HG, HO, HM, hE, hs⟩ := hrel
    have hle := HG.out.le
    have hln := HGL.out _ _ _ HG.out
    obtain ⟨g, fc, rfl, hg1, hg2, hcell⟩ := own_open HO.out HG.out.pos
    clear hcell
    by_cases hlt : (t : Int) < fs.length
    · have htl : t < fs.length := by omega
      go_wp2_with fail
      go_loopw [6, 8] (fun l i wr => ∃ (fs : List Nat) (s : Nat), i = .int .i64 s ∧ s ≤ js.length ∧ t < fs.length ∧ Hid (GI k p js fs t s) ∧ Hid (Own wr (gm + 1) l (natI fs)) ∧ Hid (BBlk wr gm (boolsF n (inL fs))) ∧ Below (w.heap.size + 1) (w.alloc (.cells #[.int .i64 k, .int .i64 p] 27)) wr ∧ gm + 2 ≤ wr.heap.size) (fun _ i _ => js.length - (intOf i).toNat)
      case atStart => exact ⟨fs, 0, rfl, Nat.zero_le _, htl, HG, HO, HM, hE, hs⟩
      case round =>
        clear HG HO HM hE hs hle hln hg1 hg2 hlt htl
        obtain ⟨fs, s, rfl, hsl, htl, HG, HO, HM, hE, hs⟩ := hrel
        obtain ⟨g, fc, rfl, hg1, hg2, hcell⟩ := own_open HO.out HG.out.pos
        by_cases hlt : (s : Int) < js.length
        · have hsl2 : s < js.length := by omega
          obtain ⟨b, off, rfl, hb, hcc⟩ : ∃ b off, a = some ⟨b, off, none⟩ ∧ b < w.heap.size ∧ Cells w b off js := by rcases HC.out with h | h <;> first | omega | exact h
          have hz : wr.cell? ⟨b, off + s, none⟩ = some (.int .i64 (el js s)) := (hE.cell (p := ⟨b, off + s, none⟩) (by simp; omega)).trans ((D0.cell (p := ⟨b, off + s, none⟩) hb).trans (hcc s hsl2))
          have he := elOk_at HJ.out hsl2
          obtain ⟨y, hy⟩ := Int.eq_ofNat_of_zero_le he.1
          rw [hy] at hz he
          have hyn : y < n := by omega
          have hxc := hcell t htl
          have hxn := HGT.out _ _ _ _ HG.out htl
          have HGO := Lib.hid (GI.old HG.out)
          have HGN := Lib.hid (GI.new HG.out htl hsl2)
          rw [hy, Int.toNat_natCast] at HGO HGN
          obtain ⟨x, hx⟩ : ∃ x, x = fe fs t := ⟨_, rfl⟩
          rw [← hx] at hxc hxn HGO HGN
          have hzl := HIL.out x y
          have HTM := HI.out x y wr.drew hxn hyn
          obtain ⟨z, hzz⟩ : ∃ z, z = gMul k p x y := ⟨_, rfl⟩
          rw [← hzz] at hzl HGO HGN HTM
          have HTM := Lib.hid HTM
          have ht0 : (0 : Int) ≤ t := by omega
          have hti : (t : Int) < fs.length := by omega
          have hs0 : (0 : Int) ≤ s := by omega
          have hz0 : (0 : Int) ≤ z := by omega
          have hzn : (z : Int) < n := by omega
          obtain ⟨r0, r1, -, -⟩ := two_cells ((hE.block w.heap.size (by omega)).trans HB0.out)
          have HW : Hid (∀ w4 : World, Below wr.drew.heap.size wr.drew w4 → BBlk w4 gm (boolsF n (inL fs)) ∧ Own w4 (gm + 1) (.slice (some ⟨g, 0, none⟩) fs.length fc) (natI fs) ∧ Below (w.heap.size + 1) (w.alloc (.cells #[.int .i64 k, .int .i64 p] 27)) w4 ∧ gm + 2 ≤ w4.heap.size) := fun w4 h4 => by
            have h5 : Below wr.heap.size wr w4 := ((Below.refl _ _).drew).trans (h4.mono (by simp))
            exact ⟨HM.out.belowAll h5, HO.out.below h5, hE.trans (h5.mono (by omega)), Nat.le_trans hs h5.size⟩
          clear hcc he hy hcell hx hzz HM HO HG
          go_wp2_with fail
          go_region_with (go_at_call 41; with_reducible refine HTM.out.mono ?_; rintro e w4 ⟨rfl, hb4⟩; obtain ⟨hM4, hO4, hE4, s4⟩ := HW.out w4 hb4; clear hb4)
          all_goals
            have c4 := hM4.cell (i := z) (by rw [boolsF_length]; exact hzl)
            have f4 := hM4.frozen z
            rw [eb_boolsF n _ z hzl] at c4
            have HM4 := Lib.hid hM4; have HO4 := Lib.hid hO4
            clear hM4 hO4 HW HTM r0 r1 hz hxc hE
            cases hq : inL fs z with
            | true =>
              rw [hq] at c4
              have HG5 := Lib.hid (HGO.out (inL_iff.1 hq))
              clear hq f4 HGO HGN
              go_wp2_with fail
              go_roundw
              case rel => exact ⟨fs, s + 1, by go_num, hsl2, htl, HG5, HO4, HM4, hE4, s4⟩
              case measure => simp [intOf]; omega
            | false =>
              rw [hq] at c4
              have HG5 := Lib.hid (HGN.out fun hm => by rw [inL_iff.2 hm] at hq; cases hq)
              clear hq HGO HGN
              have hfl := HGL.out _ _ _ HG5.out
              rw [List.length_append] at hfl
              have hfl2 : fs.length ≤ 62 := by omega
              clear hfl
              obtain ⟨w5, h5⟩ : ∃ w5, w5 = w4.setCell ⟨gm, z, none⟩ (.bool true) := ⟨_, rfl⟩
              have hs5 : w5.heap.size = w4.heap.size := by rw [h5]; simp
              have HM5 : Hid (BBlk w5 gm (boolsF n (inL (fs ++ [z])))) := by show BBlk _ _ _; rw [inL_snoc, ← boolsF_set, h5]; exact HM4.out.set z true
              have HO5 : Hid (Own w5 (gm + 1) (.slice (some ⟨g, 0, none⟩) fs.length fc) (natI fs)) := by rw [h5]; exact HO4.out.setO (by omega) z (.bool true)
              have hE5 : Below (w.heap.size + 1) (w.alloc (.cells #[.int .i64 k, .int .i64 p] 27)) w5 := by rw [h5]; exact hE4.setCell (p := ⟨gm, z, none⟩) (by simpa using g1) (.bool true)
              have HL2 := Lib.hid (HO5.out.below ((Below.refl _ _).alloc (Nat.le_refl _) (.cells #[.int .i64 z] 2)))
              have hcn := cell_one_new w5 (.int .i64 z) 2
              rw [hs5] at hcn
              rw [h5] at HL2 hcn
              have hnl : (natI fs).length ≤ 62 := by rw [natI_length]; exact hfl2
              clear HM4 HO4 hE4
              go_wp2_with (at_builtin; refine wpList_append_own _ rfl (.tmp 48) (.tmp 50) 24 rfl (gm + 1) 2 i0 (.int .i64 0) 1 8 Tryd.underlying24 KI.out KI0.out KI1.out KI2.out rfl (by decide) _ _ _ rfl HL2.out ⟨w4.heap.size, 0, none⟩ 1 1 [.int .i64 z] rfl rfl hcn (ints_oneCell .i64 [(z : Int)]) (by unfold maxLen; omega) (by omega) (by simp; omega) ?_; intro u6 w6 hown6 hgr6 _; obtain ⟨qa, ql, qc, rfl⟩ := row_slice hown6; have HO6 := Lib.hid hown6; have HG6 := Lib.hid hgr6; clear hown6 hgr6)
              have HL5 : Hid (Own w6 (gm + 1) (.slice qa ql qc) (natI (fs ++ [z]))) := by
                show World.ownsRow _ _ _ _ _ _ _
                rw [natI_snoc, List.length_append, List.map_append]
                exact HO6.out
              rw [← h5] at HG6 HL2
              have hE6 : Below (w.heap.size + 1) (w.alloc (.cells #[.int .i64 k, .int .i64 p] 27)) w6 := (hE5.alloc (by omega) _).grown HG6.out (by simp; omega) (fun j e => by have := HL2.out.ge j e; omega)
              have HM6 : Hid (BBlk w6 gm (boolsF n (inL (fs ++ [z])))) := (HG6.out.block gm (by simp; omega) (fun e => by have := HL2.out.ge gm e.symm; omega)).trans (HM5.out.alloc _)
              have s6 : gm + 2 ≤ w6.heap.size := by have := HG6.out.size; simp at this; omega
              clear HO6 HG6 HL2 hE5 HM5 HO5 hcn c4 f4 h5
              go_wp2_with fail
              go_roundw
              case rel => exact ⟨fs ++ [z], s + 1, by go_num, hsl2, by rw [List.length_append]; omega, HG5, HL5, HM6, hE6, s6⟩
              case measure => simp [intOf]; omega
        · obtain rfl : s = js.length := by omega
          have HG5 := Lib.hid (HG.out.next htl)
          have hln := HGL.out _ _ _ HG.out
          clear hcell
          go_wp2_with fail
          go_roundw
          case rel => exact ⟨fs, t + 1, by go_num, HG5, HO, HM, hE, hs⟩
          case measure => have := HGL.out _ _ _ HG5.out; simp [intOf]; omega
    · obtain rfl : t = fs.length := by omega
      have hF := HG.out.done
      rw [← HF.out] at hF
      rw [hF] at HM
      clear hF HG HGL HGT HI HIL HJ HC HB0 HO hg1 hg2
      obtain ⟨wo, rfl⟩ : ∃ wo : World, wo = wr := ⟨_, rfl⟩
      have HO0 : Hid (Own (wo.alloc (.cells #[] 2)) (gm + 1) (.slice (some ⟨wo.heap.size, 0, none⟩) 0 0) (upA F 0)) := by
        show Own _ _ _ _
        rw [upA_zero]
        exact Own.of_blk (L := []) (Blk.new wo []) (by omega) (by simp)
      have HM0 : Hid (BBlk (wo.alloc (.cells #[] 2)) gm (boolsF n F)) := HM.out.alloc _
      have hE0 := hE.alloc (by omega) (.cells #[] 2)
      have hs0 : gm + 2 ≤ (wo.alloc (.cells #[] 2)).heap.size := by simp; omega
      clear HM hE
      go_wp2_with fail
      go_loopw [10, 11] (fun l c wr => ∃ x : Nat, x ≤ n ∧ c = .int .i64 x ∧ Hid (Own wr (gm + 1) l (upA F x)) ∧ Hid (BBlk wr gm (boolsF n F)) ∧ Below (w.heap.size + 1) (w.alloc (.cells #[.int .i64 k, .int .i64 p] 27)) wr ∧ gm + 2 ≤ wr.heap.size) (fun _ c _ => n - (intOf c).toNat)
      case atStart => exact ⟨0, Nat.zero_le _, rfl, HO0, HM0, hE0, hs0⟩
      case round =>
        clear HO0 HM0 hE0 hs0
        obtain ⟨x, hxn, rfl, HL, HMx, hEx, hsx⟩ := hrel
        obtain ⟨la, ll, lc, hleq⟩ := row_slice HL.out
        subst hleq
        by_cases hlx : x < n
        · have hx0 : (0 : Int) ≤ x := by omega
          have hxi : (x : Int) < n := by omega
          have hsl := upA_length F x
          have c1 : wr.cell? ⟨gm, x, none⟩ = some (.bool (eb (boolsF n F) x)) := HMx.out.cell (by rw [boolsF_length]; exact hlx)
          rw [eb_boolsF n F x hlx] at c1
          cases hr : F x with
          | true =>
            rw [hr] at c1
            have HN := Lib.hid (upA_yes F x hr)
            obtain ⟨S, hS⟩ : ∃ S, S = upA F x := ⟨_, rfl⟩
            rw [← hS] at hsl HL HN
            have HL2 : Hid (Own (wr.alloc (.cells #[.int .i64 x] 2)) (gm + 1) (.slice la ll lc) S) := HL.out.below ((Below.refl _ _).alloc (Nat.le_refl _) _)
            clear hr hS HL
            go_wp2_with (at_builtin; refine wpList_append_own _ rfl (.tmp 63) (.tmp 65) 24 rfl (gm + 1) 2 i0 (.int .i64 0) 1 8 Tryd.underlying24 KI.out KI0.out KI1.out KI2.out rfl (by decide) _ _ _ rfl HL2.out ⟨wr.heap.size, 0, none⟩ 1 1 [.int .i64 x] rfl rfl (cell_one_new _ _ _) (ints_oneCell .i64 [(x : Int)]) (by unfold maxLen; omega) (by omega) (by simp; omega) ?_; intro u4 w4 hown4 hgr4 _; obtain ⟨qa, ql, qc, rfl⟩ := row_slice hown4; have HO4 := Lib.hid hown4; have HG4 := Lib.hid hgr4; clear hown4 hgr4)
            have HL4 : Hid (Own w4 (gm + 1) (.slice qa ql qc) (upA F (x + 1))) := by
              show World.ownsRow _ _ _ _ _ _ _
              rw [HN.out, List.length_append, List.map_append]
              exact HO4.out
            have hE4 : Below (w.heap.size + 1) (w.alloc (.cells #[.int .i64 k, .int .i64 p] 27)) w4 := (hEx.alloc (by omega) _).grown HG4.out (by simp; omega) (fun j e => by have := HL2.out.ge j e; omega)
            have HM4 : Hid (BBlk w4 gm (boolsF n F)) := (HG4.out.block gm (by simp; omega) (fun e => by have := HL2.out.ge gm e.symm; omega)).trans (HMx.out.alloc _)
            have s4 : gm + 2 ≤ w4.heap.size := by have := HG4.out.size; simp at this; omega
            clear HO4 HG4 HL2 hEx HMx c1
            go_wp2_with fail
            go_roundw
            case rel => exact ⟨x + 1, by omega, by go_num, HL4, HM4, hE4, s4⟩
            case measure => simp [intOf]; omega
          | false =>
            rw [hr] at c1
            have HL4 : Hid (Own wr (gm + 1) (.slice la ll lc) (upA F (x + 1))) := by show Own _ _ _ _; rw [upA_no F x hr]; exact HL.out
            clear hr HL
            go_wp2_with fail
            go_roundw
            case rel => exact ⟨x + 1, by omega, by go_num, HL4, HMx, hEx, hsx⟩
            case measure => simp [intOf]; omega
        · obtain rfl : x = n := by omega
          go_wp2_with fail
          go_ret
          exact ⟨⟨_, rfl, HL.out.base (by omega)⟩, D0.trans (hEx.mono (by omega))⟩

theorem l05Gen_any (k p : Nat) (v : Value) (js : List Int) (w : World) (h : gOk k p = true) (hj : elOk (gOrd k p) js js.length = true) (hs : Sl w v js) (hl : js.length ≤ 9223372036854775807) :
    Calls Tryd.prog 45 #[gv k p, v] w fun e w' => (∃ u, e = .returned u ∧ Own w' w.heap.size u (genL k p js)) ∧ Below w.heap.size w w' := by
  rcases hs with ⟨a, c, rfl, rfl⟩ | ⟨b, off, cap, rfl, hb, hc⟩
  · exact l05Gen_near k p c a [] w h hj (.inl rfl) (by simp)
  · exact l05Gen_near k p cap _ js w h hj (.inr ⟨b, off, rfl, hb, hc⟩) hl
set_option maxHeartbeats 800000 in
theorem specGen_no (a b : Int) (v : Value) (zs : List Int) (w : World) (hs : Sl w v zs) (hl : zs.length ≤ 9223372036854775807) (h : clC a b zs ≠ 0) :
    Calls Tryd.prog 25 #[gv a b, v] w fun e w' => LRes w.heap.size [] (clC a b zs) e w' ∧ Below w.heap.size w w' := by
  have D0 : Below w.heap.size w (w.alloc (.cells #[.int .i64 a, .int .i64 b] 27)) := (Below.refl _ _).alloc (Nat.le_refl _) _
  have hc := l05List_any a b v zs (w.alloc (.cells #[.int .i64 a, .int .i64 b] 27)) (hs.below D0) hl
  obtain ⟨c, hcc⟩ : ∃ c, c = clC a b zs := ⟨_, rfl⟩
  rw [← hcc] at hc h ⊢
  have e0 : (c == 0) = false := by simpa using h
  clear hcc h hs
  unfold gv at *
  go_enter Tryd.func25, Tryd.ntmps25
  go_wp2_with (go_at_call 29; with_reducible refine hc.mono ?_; rintro e w1 ⟨rfl, hb⟩)
  go_ret2
  exact ⟨⟨_, rfl, Own.nil _ _⟩, D0.trans (hb.mono D0.size)⟩

set_option maxHeartbeats 800000 in
theorem specGen_yes (k p : Nat) (v : Value) (zs : List Int) (w : World) (hs : Sl w v zs) (hl : zs.length ≤ 62) (h : gOk k p = true) (hj : elOk (gOrd k p) zs zs.length = true) :
    Calls Tryd.prog 25 #[gv k p, v] w fun e w' => LRes w.heap.size (genL k p zs) 0 e w' ∧ Below w.heap.size w w' := by
  have D0 : Below w.heap.size w (w.alloc (.cells #[.int .i64 k, .int .i64 p] 27)) := (Below.refl _ _).alloc (Nat.le_refl _) _
  have HB0 := Lib.hid (World.alloc_heap_new w (.cells #[.int .i64 k, .int .i64 p] 27))
  have hc := l05List_any k p v zs (w.alloc (.cells #[.int .i64 k, .int .i64 p] 27)) (hs.below D0) (by omega)
  rw [(clC_yes (elC_yes h hj) hl).1] at hc
  have HCL := Lib.hid (fun W hsw => l05Gen_any k p v zs W h hj hsw (by omega))
  have HS := Lib.hid (hs.below D0)
  clear hs h hj
  simp only [gv] at *
  go_enter Tryd.func25, Tryd.ntmps25
  go_wp2_with fail
  refine hc.mono ?_
  rintro e w1 ⟨rfl, hb⟩
  have s1 := hb.size
  have hs1 := HS.out.below hb
  rw [World.size_alloc] at hb s1
  obtain ⟨r0, r1, -, -⟩ := two_cells ((hb.block w.heap.size (by omega)).trans HB0.out)
  go_wp2_with fail
  refine (HCL.out w1 hs1).mono ?_
  rintro e w2 ⟨⟨u, rfl, hO⟩, hb2⟩
  have HO := Lib.hid hO
  have E2 := D0.trans ((hb.trans (hb2.mono s1)).mono (by omega))
  clear hb hb2 hO hs1 hc
  go_wp2_with fail
  go_ret2
  exact ⟨⟨_, rfl, HO.out.base (by omega)⟩, E2⟩

theorem specGen_any (a b : Int) (v : Value) (zs : List Int) (w : World) (hs : Sl w v zs) (hl : zs.length ≤ 9223372036854775807) :
    Calls Tryd.prog 25 #[gv a b, v] w fun e w' => LRes w.heap.size (gnL a b zs) (clC a b zs) e w' ∧ Below w.heap.size w w' := by
  by_cases h : clC a b zs = 0
  · obtain ⟨k, p, rfl, rfl, hg, hj, h62⟩ := clC_zero h
    rw [h, gnL_yes (elC_yes hg hj) h62]
    exact specGen_yes k p v zs w hs h62 hg hj
  · rw [gnL_no h]
    exact specGen_no a b v zs w hs hl h
end Go.Proofs.YtklgimikdnokcaaDoor
