/-
  impl.checkFitting, spec.l07Given, impl.FillGraph, spec.FillGraph.
-/
import Derived.Test.YtabkfihhfkmioaaDoorFc7
namespace Go.Proofs.YtabkfihhfkmioaaDoor
set_option maxRecDepth 100000
set_option maxRecDepth 100000
open Go.RowKit

/-- The code of a graph that has to fit. -/
def gvC (n : Int) (zs : List Int) (k c : Int) : Int := if isG n zs then if kcB k c then if FbB zs k c then 0 else 5 else 2 else 1
theorem gvC_zero {n : Int} {zs : List Int} {k c : Int} (h : gvC n zs k c = 0) : isG n zs = true ∧ kcB k c = true ∧ FbB zs k c = true := by
  unfold gvC at h
  cases hg : isG n zs <;> cases hk : kcB k c <;> cases hf : FbB zs k c <;> simp [hg, hk, hf] at h ⊢

set_option maxHeartbeats 800000 in
theorem chk_any (n : Int) (v : Value) (zs : List Int) (k c : Int) (w : World) (h : Sl w v zs) (hl : zs.length ≤ 9223372036854775807) (hT : Tab w) :
    Calls Tryd.prog 94 #[.agg #[.int .i64 n, v], .int .i64 k, .int .i64 c] w fun e w' => e = .returned (.int .i64 (gvC n zs k c)) ∧ Below w.heap.size w w' := by
  have D0 : Below w.heap.size w (w.alloc (.cells #[.int .i64 n, v] 26)) := (Below.refl _ _).alloc (Nat.le_refl _) _
  have hfb := implFb_any n v zs k c _ (h.below D0) hl (hT.belowAll D0)
  unfold FbG FbC at hfb
  unfold gvC
  clear h hT
  cases hg : isG n zs <;> cases hk : kcB k c <;> cases hf : FbB zs k c <;> rw [hg] at hfb <;> (try rw [hk] at hfb) <;> (try rw [hf] at hfb) <;> clear hg hk hf <;>
  · go_enter Tryd.func94, Tryd.ntmps94
    go_wp2_with (go_at_call 118; refine hfb.mono ?_; rintro e w1 ⟨rfl, hb1⟩)
    go_ret
    exact ⟨rfl, D0.trans (hb1.mono (by simp))⟩

set_option maxHeartbeats 800000 in
theorem given_any (n : Int) (v : Value) (zs : List Int) (k c : Int) (w : World) (h : Sl w v zs) (hl : zs.length ≤ 9223372036854775807) :
    Calls Tryd.prog 92 #[.agg #[.int .i64 n, v], .int .i64 k, .int .i64 c] w fun e w' => e = .returned (.int .i64 (gvC n zs k c)) ∧ Below w.heap.size w w' := by
  have D0 : Below w.heap.size w (w.alloc (.cells #[.int .i64 n, v] 26)) := (Below.refl _ _).alloc (Nat.le_refl _) _
  have his := l01Is_any n v zs _ (h.below D0) hl
  have hdg := fun W => numbers_any k c W
  unfold gvC
  cases hg : isG n zs with
  | false =>
    rw [hg] at his
    clear h hg hdg
    go_enter Tryd.func92, Tryd.ntmps92
    go_wp2_with (go_at_call 78; refine his.mono ?_; rintro e w1 ⟨rfl, hb1⟩)
    go_ret
    exact ⟨rfl, D0.trans (hb1.mono (by simp))⟩
  | true =>
    cases hkc : kcB k c with
    | false =>
      rw [hg] at his
      rw [hkc] at hdg
      clear h hg hkc
      go_enter Tryd.func92, Tryd.ntmps92
      go_wp2_with (first
        | (go_at_call 78; refine his.mono ?_; rintro e w1 ⟨rfl, hb1⟩)
        | (go_at_call 97; refine (hdg _).mono ?_; rintro e w' ⟨rfl, rfl⟩))
      go_ret
      exact ⟨rfl, D0.trans (hb1.mono (by simp))⟩
    | true =>
      obtain ⟨h1, _, h3, _⟩ := isG_parts hg
      obtain ⟨b, off, cap, rfl, hb, hc⟩ := sl_some h (by omega)
      obtain rfl : (zs.length : Int) = n := h3
      have hkk := hkc
      unfold kcB at hkk
      simp only [Bool.and_eq_true, decide_eq_true_eq] at hkk
      have HF : Hid (∀ W, Below w.heap.size w W → Calls Tryd.prog 116 #[.agg #[.int .i64 zs.length, .slice (some ⟨b, off, none⟩) zs.length cap], .int .i64 k, .int .i64 c] W fun e w' => e = .returned (.bool (FbB zs k c)) ∧ Below W.heap.size W w') := fun W hW => fitsS_some b off cap zs k c W (Nat.lt_of_lt_of_le hb hW.size) (hc.below hW hb) hg (by omega) (by omega)
      rw [hg] at his
      rw [hkc] at hdg
      have HD0 := Lib.hid D0
      have HR0 := Lib.hid (World.alloc_heap_new w (.cells #[.int .i64 zs.length, .slice (some ⟨b, off, none⟩) zs.length cap] 26))
      clear h hg hkc hc hkk D0
      cases hf : FbB zs k c <;> rw [hf] at HF <;> clear hf <;>
      · go_enter Tryd.func92, Tryd.ntmps92
        go_wp2_with (first
          | (go_at_call 78; refine his.mono ?_; rintro e w1 ⟨rfl, hb1⟩; obtain ⟨b0, b1, -, -⟩ := two_cells ((hb1.block w.heap.size (by simp)).trans HR0.out); have HB1 := Lib.hid (HD0.out.trans (hb1.mono (by simp))); clear hb1)
          | (go_at_call 97; refine (hdg _).mono ?_; rintro e w' ⟨rfl, rfl⟩)
          | (go_at_call 116; refine (HF.out _ HB1.out).mono ?_; rintro e w2 ⟨rfl, hb2⟩))
        go_ret
        exact ⟨rfl, HB1.out.trans (hb2.mono HB1.out.size)⟩

def FgN (n : Int) (zs : List Int) (k c : Int) : Int := if gvC n zs k c = 0 then n else 0
def FgL (n : Int) (zs : List Int) (k c : Int) : List Int := if gvC n zs k c = 0 then FR zs (pjV (FR zs) k c zs.length zs.length) else []
theorem FgL_length (n : Int) (zs : List Int) (k c : Int) : (FgL n zs k c).length ≤ zs.length := by
  unfold FgL
  split
  · rw [FR_length]; exact Nat.le_refl _
  · simp

set_option maxHeartbeats 1600000 in
theorem implFg_yes (b off cap : Nat) (zs : List Int) (k c : Int) (w : World) (hb : b < w.heap.size) (hc : Cells w b off zs) (hg : isG zs.length zs = true) (hkc : kcB k c = true) (hf : FbB zs k c = true) (hl : zs.length ≤ 9223372036854775807) (hs : Sl w (.slice (some ⟨b, off, none⟩) zs.length cap) zs) (hT : Tab w) :
    Calls Tryd.prog 42 #[.agg #[.int .i64 zs.length, .slice (some ⟨b, off, none⟩) zs.length cap], .int .i64 k, .int .i64 c] w fun e w' => GRes w.heap.size zs.length (FR zs (pjV (FR zs) k c zs.length zs.length)) 0 e w' ∧ Below w.heap.size w w' := by
  have hc63 : c ≤ 63 := by unfold kcB at hkc; simp only [Bool.and_eq_true, decide_eq_true_eq] at hkc; omega
  have hfd := hf
  unfold FbB at hfd
  rw [Bool.and_eq_true] at hfd
  have hfit : FitD zs.length k zs := ⟨rfl, hg, fbD_iff.1 hfd.1⟩
  have HFI : Hid (∀ W, Below w.heap.size w W → Calls Tryd.prog 95 #[.agg #[.int .i64 zs.length, .slice (some ⟨b, off, none⟩) zs.length cap], .int .i64 k, .int .i64 c] W fun e w' => (∃ u, e = .returned (.agg #[.int .i64 zs.length, u]) ∧ Own w' W.heap.size u (FR zs (pjV (FR zs) k c zs.length zs.length))) ∧ Below W.heap.size W w') := fun W h => callsIn_wide.1 (fillI_in b off cap zs k c W (Nat.lt_of_lt_of_le hb h.size) (hc.below h hb) (hT.belowAll h) hfit)
  obtain ⟨Wb, hWb⟩ : ∃ Wb, Wb = ((w.alloc (.cells #[.int .i64 zs.length, .slice (some ⟨b, off, none⟩) zs.length cap] 26)).alloc (.cells #[.int .i64 0, .slice none 0 0] 26)) := ⟨_, rfl⟩
  have D0 : Below w.heap.size w Wb := by rw [hWb]; exact ((Below.refl _ _).alloc (Nat.le_refl _) _).alloc (by simp) _
  have sb : Wb.heap.size = w.heap.size + 2 := by rw [hWb]; simp
  have HR0 : Hid (Wb.heap[w.heap.size + 1]? = some (.cells #[.int .i64 0, .slice none 0 0] 26 (0, 0))) := by
    have := World.alloc_heap_new (w.alloc (.cells #[.int .i64 zs.length, .slice (some ⟨b, off, none⟩) zs.length cap] 26)) (.cells #[.int .i64 0, .slice none 0 0] 26)
    rw [World.size_alloc, ← hWb] at this; exact this
  have HG0 : Hid (Wb.heap[w.heap.size]? = some (.cells #[.int .i64 zs.length, .slice (some ⟨b, off, none⟩) zs.length cap] 26 (0, 0))) := by show _ = _; rw [hWb]; exact heap_old_at (World.alloc_heap_new w _) _
  obtain ⟨b0, b1, -, -⟩ := two_cells HG0.out
  have hch := chk_any zs.length (.slice (some ⟨b, off, none⟩) zs.length cap) zs k c _ (hs.below D0) hl (hT.belowAll D0)
  unfold gvC at hch
  rw [hg, hkc, hf, if_pos rfl, if_pos rfl, if_pos rfl] at hch
  have HD0 := Lib.hid D0
  generalize FR zs (pjV (FR zs) k c zs.length zs.length) = R at *
  clear hc hkc D0 hfit hf hfd hg hs hT
  go_enter Tryd.func42, Tryd.ntmps42
  go_wp2_with fail
  rw [← hWb]
  clear hWb
  go_wp2_with (first
    | (go_at_call 94; refine hch.mono ?_; rintro e w1 ⟨rfl, hb1⟩; have B1 := Lib.hid (HD0.out.trans (hb1.mono HD0.out.size)); have HBB := Lib.hid hb1; obtain ⟨b0, b1, -, -⟩ := two_cells ((hb1.block w.heap.size (by omega)).trans HG0.out); clear hb1)
    | (go_at_call 95; refine (HFI.out _ B1.out).mono ?_; rintro e w2 ⟨⟨u, rfl, hO⟩, hb2⟩; have s1 := HBB.out.size; have RB := Lib.hid ((hb2.block (w.heap.size + 1) (by omega)).trans ((HBB.out.block (w.heap.size + 1) (by omega)).trans HR0.out)); obtain ⟨r0, r1, f0, f1⟩ := two_cells RB.out; obtain ⟨ua, ul, uc, rfl⟩ := slice_of hO; have HO := Lib.hid hO; have HB2 := Lib.hid hb2; clear hO hb2))
  have hfin := two_set (a := .int .i64 zs.length) (b := .slice ua ul uc) RB.out
  have hB := B1.out.trans (HB2.out.mono B1.out.size)
  have hgr : w2.grownBy ((w2.setCell ⟨w.heap.size + 1, 0, none⟩ (.int .i64 zs.length)).setCell ⟨w.heap.size + 1, 1, none⟩ (.slice ua ul uc)) (some (w.heap.size + 1)) := grown_set (grown_set ⟨rfl, rfl, rfl, Nat.le_refl _, fun _ _ _ => rfl⟩ _ 0 _) _ 1 _
  refine bodyPost_ret (v := .tuple #[.agg #[.int .i64 zs.length, .slice ua ul uc], .int .i64 0]) (results_cell2 (p := 6) (u := 7) (ty := 26) rfl _ _ (w.heap.size + 1) 26 _ (0, 0) _ rfl hfin Tryd.underlying26 rfl (by exact info27)) rfl ⟨⟨_, rfl, ?_⟩, ?_⟩
  · have hne : (Value.slice ua ul uc).ownBlock = none ∨ (Value.slice ua ul uc).ownBlock ≠ some (w.heap.size + 1) := by
      cases hu : (Value.slice ua ul uc).ownBlock with
      | none => exact .inl rfl
      | some q => refine .inr fun e => ?_; cases e; have h1 := HO.out.ge _ hu; omega
    exact (HO.out.kept hgr hne).base (by omega)
  · exact (hB.setCell (p := ⟨w.heap.size + 1, 0, none⟩) (by simp) _).setCell (p := ⟨w.heap.size + 1, 1, none⟩) (by simp) _

set_option maxHeartbeats 1600000 in
theorem implFg_no (n : Int) (v : Value) (zs : List Int) (k c : Int) (w : World) (h : Sl w v zs) (hl : zs.length ≤ 9223372036854775807) (hT : Tab w) (hne : gvC n zs k c ≠ 0) :
    Calls Tryd.prog 42 #[.agg #[.int .i64 n, v], .int .i64 k, .int .i64 c] w fun e w' => GRes w.heap.size 0 [] (gvC n zs k c) e w' ∧ Below w.heap.size w w' := by
  obtain ⟨Wb, hWb⟩ : ∃ Wb, Wb = ((w.alloc (.cells #[.int .i64 n, v] 26)).alloc (.cells #[.int .i64 0, .slice none 0 0] 26)) := ⟨_, rfl⟩
  have D0 : Below w.heap.size w Wb := by rw [hWb]; exact ((Below.refl _ _).alloc (Nat.le_refl _) _).alloc (by simp) _
  have sb : Wb.heap.size = w.heap.size + 2 := by rw [hWb]; simp
  have HR0 : Hid (Wb.heap[w.heap.size + 1]? = some (.cells #[.int .i64 0, .slice none 0 0] 26 (0, 0))) := by
    have := World.alloc_heap_new (w.alloc (.cells #[.int .i64 n, v] 26)) (.cells #[.int .i64 0, .slice none 0 0] 26)
    rw [World.size_alloc, ← hWb] at this; exact this
  have HG0 : Hid (Wb.heap[w.heap.size]? = some (.cells #[.int .i64 n, v] 26 (0, 0))) := by show _ = _; rw [hWb]; exact heap_old_at (World.alloc_heap_new w _) _
  obtain ⟨b0, b1, -, -⟩ := two_cells HG0.out
  have hch := chk_any n v zs k c _ (h.below D0) hl (hT.belowAll D0)
  generalize gvC n zs k c = e0 at *
  have hbn : (e0 != 0) = true := by simpa using hne
  have HD0 := Lib.hid D0
  clear h D0 hT
  go_enter Tryd.func42, Tryd.ntmps42
  go_wp2_with fail
  rw [← hWb]
  clear hWb
  go_wp2_with (go_at_call 94; refine hch.mono ?_; rintro e w1 ⟨rfl, hb1⟩; have B1 := Lib.hid (HD0.out.trans (hb1.mono HD0.out.size)); have RB := Lib.hid ((hb1.block (w.heap.size + 1) (by omega)).trans HR0.out); clear hb1; obtain ⟨r0, r1, f0, f1⟩ := two_cells RB.out)
  have hfin := two_set (a := .int .i64 0) (b := .slice none 0 0) RB.out
  refine bodyPost_ret (v := .tuple #[.agg #[.int .i64 0, .slice none 0 0], .int .i64 e0]) (results_cell2 (p := 6) (u := 7) (ty := 26) rfl _ _ (w.heap.size + 1) 26 _ (0, 0) _ rfl (by first | exact hfin | exact RB.out) Tryd.underlying26 rfl (by exact info27)) rfl ⟨⟨_, rfl, Own.nil _ _⟩, ?_⟩
  first | exact B1.out | exact (B1.out.setCell (p := ⟨w.heap.size + 1, 0, none⟩) (by simp) _).setCell (p := ⟨w.heap.size + 1, 1, none⟩) (by simp) _

theorem implFg_any (n : Int) (v : Value) (zs : List Int) (k c : Int) (w : World) (h : Sl w v zs) (hl : zs.length ≤ 9223372036854775807) (hT : Tab w) :
    Calls Tryd.prog 42 #[.agg #[.int .i64 n, v], .int .i64 k, .int .i64 c] w fun e w' => GRes w.heap.size (FgN n zs k c) (FgL n zs k c) (gvC n zs k c) e w' ∧ Below w.heap.size w w' := by
  by_cases h0 : gvC n zs k c = 0
  · obtain ⟨hg, hkc, hf⟩ := gvC_zero h0
    unfold FgN FgL
    rw [h0, if_pos rfl, if_pos rfl]
    obtain ⟨h1, _, h3, _⟩ := isG_parts hg
    obtain ⟨b, off, cap, rfl, hb, hc⟩ := sl_some h (by omega)
    obtain rfl : (zs.length : Int) = n := h3
    exact implFg_yes b off cap zs k c w hb hc hg hkc hf hl h hT
  · unfold FgN FgL
    rw [if_neg h0, if_neg h0]
    exact implFg_no n v zs k c w h hl hT h0

set_option maxHeartbeats 1600000 in
theorem specFg_yes (b off cap : Nat) (zs : List Int) (k c : Int) (w : World) (hb : b < w.heap.size) (hc : Cells w b off zs) (hg : isG zs.length zs = true) (hkc : kcB k c = true) (hf : FbB zs k c = true) (hl : zs.length ≤ 9223372036854775807) (hs : Sl w (.slice (some ⟨b, off, none⟩) zs.length cap) zs) :
    Calls Tryd.prog 41 #[.agg #[.int .i64 zs.length, .slice (some ⟨b, off, none⟩) zs.length cap], .int .i64 k, .int .i64 c] w fun e w' => GRes w.heap.size zs.length (FR zs (pjV (FR zs) k c zs.length zs.length)) 0 e w' ∧ Below w.heap.size w w' := by
  have hc63 : c ≤ 63 := by unfold kcB at hkc; simp only [Bool.and_eq_true, decide_eq_true_eq] at hkc; omega
  have hfd := hf
  unfold FbB at hfd
  rw [Bool.and_eq_true] at hfd
  have hfit : FitD zs.length k zs := ⟨rfl, hg, fbD_iff.1 hfd.1⟩
  have HFI : Hid (∀ W, Below w.heap.size w W → Calls Tryd.prog 93 #[.agg #[.int .i64 zs.length, .slice (some ⟨b, off, none⟩) zs.length cap], .int .i64 k, .int .i64 c] W fun e w' => (∃ u, e = .returned (.agg #[.int .i64 zs.length, u]) ∧ Own w' W.heap.size u (FR zs (pjV (FR zs) k c zs.length zs.length))) ∧ Below W.heap.size W w') := fun W h => fillS_some b off cap zs k c W (Nat.lt_of_lt_of_le hb h.size) (hc.below h hb) hfit (by omega)
  obtain ⟨Wb, hWb⟩ : ∃ Wb, Wb = ((w.alloc (.cells #[.int .i64 zs.length, .slice (some ⟨b, off, none⟩) zs.length cap] 26)).alloc (.cells #[.int .i64 0, .slice none 0 0] 26)) := ⟨_, rfl⟩
  have D0 : Below w.heap.size w Wb := by rw [hWb]; exact ((Below.refl _ _).alloc (Nat.le_refl _) _).alloc (by simp) _
  have sb : Wb.heap.size = w.heap.size + 2 := by rw [hWb]; simp
  have HR0 : Hid (Wb.heap[w.heap.size + 1]? = some (.cells #[.int .i64 0, .slice none 0 0] 26 (0, 0))) := by
    have := World.alloc_heap_new (w.alloc (.cells #[.int .i64 zs.length, .slice (some ⟨b, off, none⟩) zs.length cap] 26)) (.cells #[.int .i64 0, .slice none 0 0] 26)
    rw [World.size_alloc, ← hWb] at this; exact this
  have HG0 : Hid (Wb.heap[w.heap.size]? = some (.cells #[.int .i64 zs.length, .slice (some ⟨b, off, none⟩) zs.length cap] 26 (0, 0))) := by show _ = _; rw [hWb]; exact heap_old_at (World.alloc_heap_new w _) _
  obtain ⟨b0, b1, -, -⟩ := two_cells HG0.out
  have hch := given_any zs.length (.slice (some ⟨b, off, none⟩) zs.length cap) zs k c _ (hs.below D0) hl
  unfold gvC at hch
  rw [hg, hkc, hf, if_pos rfl, if_pos rfl, if_pos rfl] at hch
  have HD0 := Lib.hid D0
  generalize FR zs (pjV (FR zs) k c zs.length zs.length) = R at *
  clear hc hkc D0 hfit hf hfd hg hs
  go_enter Tryd.func41, Tryd.ntmps41
  go_wp2_with fail
  rw [← hWb]
  clear hWb
  go_wp2_with (first
    | (go_at_call 92; refine hch.mono ?_; rintro e w1 ⟨rfl, hb1⟩; have B1 := Lib.hid (HD0.out.trans (hb1.mono HD0.out.size)); have HBB := Lib.hid hb1; obtain ⟨b0, b1, -, -⟩ := two_cells ((hb1.block w.heap.size (by omega)).trans HG0.out); clear hb1)
    | (go_at_call 93; refine (HFI.out _ B1.out).mono ?_; rintro e w2 ⟨⟨u, rfl, hO⟩, hb2⟩; have s1 := HBB.out.size; have RB := Lib.hid ((hb2.block (w.heap.size + 1) (by omega)).trans ((HBB.out.block (w.heap.size + 1) (by omega)).trans HR0.out)); obtain ⟨r0, r1, f0, f1⟩ := two_cells RB.out; obtain ⟨ua, ul, uc, rfl⟩ := slice_of hO; have HO := Lib.hid hO; have HB2 := Lib.hid hb2; clear hO hb2))
  have hfin := two_set (a := .int .i64 zs.length) (b := .slice ua ul uc) RB.out
  have hB := B1.out.trans (HB2.out.mono B1.out.size)
  have hgr : w2.grownBy ((w2.setCell ⟨w.heap.size + 1, 0, none⟩ (.int .i64 zs.length)).setCell ⟨w.heap.size + 1, 1, none⟩ (.slice ua ul uc)) (some (w.heap.size + 1)) := grown_set (grown_set ⟨rfl, rfl, rfl, Nat.le_refl _, fun _ _ _ => rfl⟩ _ 0 _) _ 1 _
  refine bodyPost_ret (v := .tuple #[.agg #[.int .i64 zs.length, .slice ua ul uc], .int .i64 0]) (results_cell2 (p := 6) (u := 7) (ty := 26) rfl _ _ (w.heap.size + 1) 26 _ (0, 0) _ rfl hfin Tryd.underlying26 rfl (by exact info27)) rfl ⟨⟨_, rfl, ?_⟩, ?_⟩
  · have hne : (Value.slice ua ul uc).ownBlock = none ∨ (Value.slice ua ul uc).ownBlock ≠ some (w.heap.size + 1) := by
      cases hu : (Value.slice ua ul uc).ownBlock with
      | none => exact .inl rfl
      | some q => refine .inr fun e => ?_; cases e; have h1 := HO.out.ge _ hu; omega
    exact (HO.out.kept hgr hne).base (by omega)
  · exact (hB.setCell (p := ⟨w.heap.size + 1, 0, none⟩) (by simp) _).setCell (p := ⟨w.heap.size + 1, 1, none⟩) (by simp) _

set_option maxHeartbeats 1600000 in
theorem specFg_no (n : Int) (v : Value) (zs : List Int) (k c : Int) (w : World) (h : Sl w v zs) (hl : zs.length ≤ 9223372036854775807) (hne : gvC n zs k c ≠ 0) :
    Calls Tryd.prog 41 #[.agg #[.int .i64 n, v], .int .i64 k, .int .i64 c] w fun e w' => GRes w.heap.size 0 [] (gvC n zs k c) e w' ∧ Below w.heap.size w w' := by
  obtain ⟨Wb, hWb⟩ : ∃ Wb, Wb = ((w.alloc (.cells #[.int .i64 n, v] 26)).alloc (.cells #[.int .i64 0, .slice none 0 0] 26)) := ⟨_, rfl⟩
  have D0 : Below w.heap.size w Wb := by rw [hWb]; exact ((Below.refl _ _).alloc (Nat.le_refl _) _).alloc (by simp) _
  have sb : Wb.heap.size = w.heap.size + 2 := by rw [hWb]; simp
  have HR0 : Hid (Wb.heap[w.heap.size + 1]? = some (.cells #[.int .i64 0, .slice none 0 0] 26 (0, 0))) := by
    have := World.alloc_heap_new (w.alloc (.cells #[.int .i64 n, v] 26)) (.cells #[.int .i64 0, .slice none 0 0] 26)
    rw [World.size_alloc, ← hWb] at this; exact this
  have HG0 : Hid (Wb.heap[w.heap.size]? = some (.cells #[.int .i64 n, v] 26 (0, 0))) := by show _ = _; rw [hWb]; exact heap_old_at (World.alloc_heap_new w _) _
  obtain ⟨b0, b1, -, -⟩ := two_cells HG0.out
  have hch := given_any n v zs k c _ (h.below D0) hl
  generalize gvC n zs k c = e0 at *
  have hbn : (e0 != 0) = true := by simpa using hne
  have HD0 := Lib.hid D0
  clear h D0
  go_enter Tryd.func41, Tryd.ntmps41
  go_wp2_with fail
  rw [← hWb]
  clear hWb
  go_wp2_with (go_at_call 92; refine hch.mono ?_; rintro e w1 ⟨rfl, hb1⟩; have B1 := Lib.hid (HD0.out.trans (hb1.mono HD0.out.size)); have RB := Lib.hid ((hb1.block (w.heap.size + 1) (by omega)).trans HR0.out); clear hb1; obtain ⟨r0, r1, f0, f1⟩ := two_cells RB.out)
  have hfin := two_set (a := .int .i64 0) (b := .slice none 0 0) RB.out
  refine bodyPost_ret (v := .tuple #[.agg #[.int .i64 0, .slice none 0 0], .int .i64 e0]) (results_cell2 (p := 6) (u := 7) (ty := 26) rfl _ _ (w.heap.size + 1) 26 _ (0, 0) _ rfl (by first | exact hfin | exact RB.out) Tryd.underlying26 rfl (by exact info27)) rfl ⟨⟨_, rfl, Own.nil _ _⟩, ?_⟩
  first | exact B1.out | exact (B1.out.setCell (p := ⟨w.heap.size + 1, 0, none⟩) (by simp) _).setCell (p := ⟨w.heap.size + 1, 1, none⟩) (by simp) _

theorem specFg_any (n : Int) (v : Value) (zs : List Int) (k c : Int) (w : World) (h : Sl w v zs) (hl : zs.length ≤ 9223372036854775807) :
    Calls Tryd.prog 41 #[.agg #[.int .i64 n, v], .int .i64 k, .int .i64 c] w fun e w' => GRes w.heap.size (FgN n zs k c) (FgL n zs k c) (gvC n zs k c) e w' ∧ Below w.heap.size w w' := by
  by_cases h0 : gvC n zs k c = 0
  · obtain ⟨hg, hkc, hf⟩ := gvC_zero h0
    unfold FgN FgL
    rw [h0, if_pos rfl, if_pos rfl]
    obtain ⟨h1, _, h3, _⟩ := isG_parts hg
    obtain ⟨b, off, cap, rfl, hb, hc⟩ := sl_some h (by omega)
    obtain rfl : (zs.length : Int) = n := h3
    exact specFg_yes b off cap zs k c w hb hc hg hkc hf hl h
  · unfold FgN FgL
    rw [if_neg h0, if_neg h0]
    exact specFg_no n v zs k c w h hl h0
end Go.Proofs.YtabkfihhfkmioaaDoor
