/-
  spec.IsFull.
-/
import Derived.Test.YtehpafbhejcbmaaDoorPt7
namespace Go.Proofs.YtehpafbhejcbmaaDoor
set_option maxRecDepth 100000
set_option maxRecDepth 100000
open Go.RowKit

theorem pjW_mono {Rf : List (Nat × Nat) → List Int} {k c : Int} {v : Nat} {q : List (Nat × Nat)} (w : Nat) : ∀ m, (pjW Rf k c v q w).length ≤ (pjW Rf k c v q (w + m)).length
  | 0 => Nat.le_refl _
  | m + 1 => by
    refine Nat.le_trans (pjW_mono w m) ?_
    show _ ≤ (if decide (v < w + m) && mayB (Rf (pjW Rf k c v q (w + m))) k c v (w + m) then pjW Rf k c v q (w + m) ++ [(v, w + m)] else pjW Rf k c v q (w + m)).length
    split
    · rw [List.length_append]; omega
    · exact Nat.le_refl _
theorem pjV_mono {Rf : List (Nat × Nat) → List Int} {k c : Int} {n : Nat} (v : Nat) : ∀ m, (pjV Rf k c n v).length ≤ (pjV Rf k c n (v + m)).length
  | 0 => Nat.le_refl _
  | m + 1 => by
    refine Nat.le_trans (pjV_mono v m) ?_
    show _ ≤ (pjW Rf k c (v + m) (pjV Rf k c n (v + m)) n).length
    have h := pjW_mono (Rf := Rf) (k := k) (c := c) (v := v + m) (q := pjV Rf k c n (v + m)) 0 n
    rw [Nat.zero_add] at h
    exact h
/-- With a pair that may be joined the list of pairs is not empty. -/
theorem pj_some {zs : List Int} {k c : Int} {v w : Nat} (hvw : v < w) (hv : v < zs.length) (hw : w < zs.length) (hm : mayB zs k c v w = true) : (pjA zs k c).length ≠ 0 := by
  have h1 := pjW_yes (Rf := fun _ => zs) (k := k) (c := c) (q := pjV (fun _ => zs) k c zs.length v) hvw hm
  have h2 := pjW_mono (Rf := fun _ => zs) (k := k) (c := c) (v := v) (q := pjV (fun _ => zs) k c zs.length v) (w + 1) (zs.length - (w + 1))
  rw [show w + 1 + (zs.length - (w + 1)) = zs.length by omega, h1, List.length_append, List.length_singleton] at h2
  have h3 := pjV_mono (Rf := fun _ => zs) (k := k) (c := c) (n := zs.length) (v + 1) (zs.length - (v + 1))
  rw [show v + 1 + (zs.length - (v + 1)) = zs.length by omega] at h3
  have h4 : (pjV (fun _ => zs) k c zs.length (v + 1)).length = (pjW (fun _ => zs) k c v (pjV (fun _ => zs) k c zs.length v) zs.length).length := rfl
  unfold pjA
  omega

set_option maxHeartbeats 3200000 in
theorem specFu_yes (b off cap : Nat) (zs : List Int) (K C : Int) (w : World) (hb : b < w.heap.size) (hc : Cells w b off zs) (h0 : gvC zs.length zs K C = 0) (hl : zs.length ≤ 9223372036854775807) (hs : Sl w (.slice (some ⟨b, off, none⟩) zs.length cap) zs) :
    Calls Tryd.prog 24 #[.agg #[.int .i64 zs.length, .slice (some ⟨b, off, none⟩) zs.length cap], .int .i64 K, .int .i64 C] w fun e w' => e = .returned (.tuple #[.bool (FuB zs.length zs K C), .int .i64 0]) ∧ Below w.heap.size w w' := by
  obtain ⟨hg, hkc, hf⟩ := gvC_zero h0
  obtain ⟨p1, p2, -, -, -⟩ := isG_parts hg
  have hm62 : zs.length ≤ 62 := by omega
  have hc63 : C ≤ 63 := by unfold kcB at hkc; simp only [Bool.and_eq_true, decide_eq_true_eq] at hkc; omega
  have D0 : Below w.heap.size w (w.alloc (.cells #[.int .i64 zs.length, .slice (some ⟨b, off, none⟩) zs.length cap] 28)) := (Below.refl _ _).alloc (Nat.le_refl _) _
  have hch := given_any zs.length (.slice (some ⟨b, off, none⟩) zs.length cap) zs K C _ (hs.below D0) hl
  rw [h0] at hch
  have HNE : Hid (∀ v y : Nat, v < y → v < zs.length → y < zs.length → mayB zs K C v y = true → FuB zs.length zs K C = false) := fun v y h1 h2 h3 h4 => by
    have h5 := pj_some h1 h2 h3 h4
    unfold FuB PjA
    rw [if_pos h0]
    unfold PjL
    rw [List.length_map, decide_eq_false h5]
    simp
  have HYE : Hid (pjV (fun _ => zs) K C zs.length zs.length = [] → FuB zs.length zs K C = true) := fun h => by
    unfold FuB PjA
    rw [if_pos h0, decide_eq_true h0]
    unfold PjL pjA
    rw [h]; rfl
  have HGA := Lib.hid (World.alloc_heap_new w (.cells #[.int .i64 zs.length, .slice (some ⟨b, off, none⟩) zs.length cap] 28))
  have HD0 := Lib.hid D0
  have HMYW : Hid (∀ W, Below w.heap.size w W → ∀ x y : Nat, x < zs.length → y < zs.length → x ≠ y → Calls Tryd.prog 46 #[.agg #[.int .i64 zs.length, .slice (some ⟨b, off, none⟩) zs.length cap], .int .i64 K, .int .i64 C, .int .i64 x, .int .i64 y] W fun e w' => e = .returned (.bool (mayB zs K C x y)) ∧ Below W.heap.size W w') := fun W h x y hx hy hxy => mayS_some b off cap zs x y K C W (Nat.lt_of_lt_of_le hb h.size) (hc.below h hb) hg hx hy hxy hc63
  clear hc hg hkc hf hs D0 h0
  go_enter Tryd.func24, Tryd.ntmps24
  go_wp2_with (go_at_call 45; refine hch.mono ?_; rintro e w1 ⟨rfl, hb1⟩)
  have s1 : w.heap.size + 1 ≤ w1.heap.size := by have := hb1.size; simpa using this
  have HDz := Lib.hid (HD0.out.trans (hb1.mono (by simp)))
  have HG1 : Hid (w1.heap[w.heap.size]? = some (.cells #[.int .i64 zs.length, .slice (some ⟨b, off, none⟩) zs.length cap] 28 (0, 0))) := (hb1.block w.heap.size (by simp)).trans HGA.out
  have HMY : Hid (∀ (x y : Nat) (W : World), Below w1.heap.size w1 W → x < zs.length → y < zs.length → x ≠ y → Calls Tryd.prog 46 #[.agg #[.int .i64 zs.length, .slice (some ⟨b, off, none⟩) zs.length cap], .int .i64 K, .int .i64 C, .int .i64 x, .int .i64 y] W fun e w' => e = .returned (.bool (mayB zs K C x y)) ∧ Below W.heap.size W w') := fun x y W h hx hy hxy => HMYW.out W (HDz.out.trans (h.mono (by omega))) x y hx hy hxy
  clear hch hb1 HGA HMYW
  go_loopw [9] (fun i wr => ∃ k : Nat, k ≤ zs.length ∧ i = .int .i64 k ∧ Hid (pjV (fun _ => zs) K C zs.length k = []) ∧ Below w1.heap.size w1 wr) (fun i _ => zs.length - (intOf i).toNat)
  case atStart => exact ⟨0, Nat.zero_le _, rfl, rfl, Below.refl _ _⟩
  case round =>
    obtain ⟨k, hk, rfl, HT, hE⟩ := hrel
    obtain ⟨b0, b1, -, -⟩ := two_cells ((hE.block w.heap.size (by omega)).trans HG1.out)
    by_cases hlt : (k : Int) < zs.length
    · have hkl : k < zs.length := by omega
      have hk0 : (0 : Int) ≤ k := by omega
      have HT1 : Hid (pjW (fun _ => zs) K C k (pjV (fun _ => zs) K C zs.length k) (k + 1) = []) := by show _ = _; rw [pjW_start _ _ _ (Nat.le_refl _)]; exact HT.out
      go_wp2_with fail
      clear b0 b1 HT
      obtain ⟨wo, rfl⟩ : ∃ wo : World, wo = wr := ⟨_, rfl⟩
      go_loopw [10] (fun i wr => ∃ y : Nat, k < y ∧ y ≤ zs.length ∧ i = .int .i64 y ∧ Hid (pjW (fun _ => zs) K C k (pjV (fun _ => zs) K C zs.length k) y = []) ∧ Below w1.heap.size w1 wr) (fun i _ => zs.length - (intOf i).toNat)
      case atStart => exact ⟨k + 1, by omega, by omega, by go_num, HT1, hE⟩
      case round =>
        clear HT1 hE
        obtain ⟨y, hky, hy, rfl, HT, hE⟩ := hrel
        obtain ⟨b0, b1, -, -⟩ := two_cells ((hE.block w.heap.size (by omega)).trans HG1.out)
        have hs := hE.size
        by_cases hly : (y : Int) < zs.length
        · have hyl : y < zs.length := by omega
          have hy0 : (0 : Int) ≤ y := by omega
          have hhas := HMY.out k y wr hE hkl hyl (by omega)
          cases hbt : mayB zs K C k y with
          | true =>
            have HR := Lib.hid (HNE.out k y hky hkl hyl hbt)
            rw [hbt] at hhas
            have HHAS := Lib.hid hhas
            clear HT hhas hbt
            go_wp2_with (go_at_call 46; refine HHAS.out.mono ?_; rintro e w2 ⟨rfl, hb2⟩)
            go_ret2
            exact ⟨by rw [HR.out]; rfl, HDz.out.trans ((hE.trans (hb2.mono (by omega))).mono (by omega))⟩
          | false =>
            have HT1 : Hid (pjW (fun _ => zs) K C k (pjV (fun _ => zs) K C zs.length k) (y + 1) = []) := by show _ = _; rw [pjW_no (Rf := fun _ => zs) (k := K) (c := C) (q := pjV (fun _ => zs) K C zs.length k) hbt]; exact HT.out
            rw [hbt] at hhas
            have HHAS := Lib.hid hhas
            clear hhas hbt HT
            go_wp2_with (go_at_call 46; refine HHAS.out.mono ?_; rintro e w2 ⟨rfl, hb2⟩; have hE2 := hE.trans (hb2.mono (by omega)))
            go_roundw
            case rel => exact ⟨y + 1, by omega, by omega, by go_num, HT1, hE2⟩
            case measure => simp [intOf]; omega
        · obtain rfl : y = zs.length := by omega
          have HT1 : Hid (pjV (fun _ => zs) K C zs.length (k + 1) = []) := HT.out
          clear HT
          go_wp2_with fail
          go_roundw
          case rel => exact ⟨k + 1, by omega, by go_num, HT1, hE⟩
          case measure => simp [intOf]; omega
    · obtain rfl : k = zs.length := by omega
      have HR := Lib.hid (HYE.out HT.out)
      have hEF := HDz.out.trans (hE.mono (by omega))
      clear HT
      go_wp2_with fail
      go_ret2
      exact ⟨by rw [HR.out]; rfl, hEF⟩

set_option maxHeartbeats 800000 in
theorem specFu_no (n : Int) (v : Value) (zs : List Int) (k c : Int) (w : World) (h : Sl w v zs) (hl : zs.length ≤ 9223372036854775807) (hne : gvC n zs k c ≠ 0) :
    Calls Tryd.prog 24 #[.agg #[.int .i64 n, v], .int .i64 k, .int .i64 c] w fun e w' => e = .returned (.tuple #[.bool false, .int .i64 (gvC n zs k c)]) ∧ Below w.heap.size w w' := by
  have D0 : Below w.heap.size w (w.alloc (.cells #[.int .i64 n, v] 28)) := (Below.refl _ _).alloc (Nat.le_refl _) _
  have hch := given_any n v zs k c _ (h.below D0) hl
  generalize gvC n zs k c = e0 at *
  have hbn : (e0 != 0) = true := by simpa using hne
  clear h
  go_enter Tryd.func24, Tryd.ntmps24
  go_wp2_with (go_at_call 45; refine hch.mono ?_; rintro e w1 ⟨rfl, hb1⟩)
  go_ret2
  exact ⟨rfl, D0.trans (hb1.mono (by simp))⟩

theorem specFu_any (n : Int) (v : Value) (zs : List Int) (k c : Int) (w : World) (h : Sl w v zs) (hl : zs.length ≤ 9223372036854775807) :
    Calls Tryd.prog 24 #[.agg #[.int .i64 n, v], .int .i64 k, .int .i64 c] w fun e w' => e = .returned (.tuple #[.bool (FuB n zs k c), .int .i64 (gvC n zs k c)]) ∧ Below w.heap.size w w' := by
  by_cases h0 : gvC n zs k c = 0
  · rw [h0]
    obtain ⟨hg, -, -⟩ := gvC_zero h0
    obtain ⟨h1, _, h3, _⟩ := isG_parts hg
    obtain ⟨b, off, cap, rfl, hb, hc⟩ := sl_some h (by omega)
    obtain rfl : (zs.length : Int) = n := h3
    exact specFu_yes b off cap zs k c w hb hc h0 hl h
  · rw [FuB_no h0]
    exact specFu_no n v zs k c w h hl h0
end Go.Proofs.YtehpafbhejcbmaaDoor
