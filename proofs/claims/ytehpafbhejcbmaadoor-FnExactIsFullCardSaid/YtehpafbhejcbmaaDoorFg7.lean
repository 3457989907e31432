/-
  impl.checkFitting, spec.l07Given, impl.FillGraph, spec.FillGraph.
-/
import Derived.Test.YtehpafbhejcbmaaDoorFc7
namespace Go.Proofs.YtehpafbhejcbmaaDoor
set_option maxRecDepth 100000
set_option maxRecDepth 100000
open Go.RowKit

/-- The code of a graph that has to fit. -/
def gvC (n : Int) (zs : List Int) (k c : Int) : Int := if isG n zs then if kcB k c then if FbB zs k c then 0 else 5 else 2 else 1
theorem gvC_zero {n : Int} {zs : List Int} {k c : Int} (h : gvC n zs k c = 0) : isG n zs = true ∧ kcB k c = true ∧ FbB zs k c = true := by
  unfold gvC at h
  cases hg : isG n zs <;> cases hk : kcB k c <;> cases hf : FbB zs k c <;> simp [hg, hk, hf] at h ⊢

set_option maxHeartbeats 800000 in
theorem chk_any (n : Int) (v : Value) (zs : List Int) (k c : Int) (w : World) (h : Sl w v zs) (hl : zs.length ≤ 9223372036854775807) (hT : Tab w) :
    Calls Tryd.prog 47 #[.agg #[.int .i64 n, v], .int .i64 k, .int .i64 c] w fun e w' => e = .returned (.int .i64 (gvC n zs k c)) ∧ Below w.heap.size w w' := by
  have D0 : Below w.heap.size w (w.alloc (.cells #[.int .i64 n, v] 28)) := (Below.refl _ _).alloc (Nat.le_refl _) _
  have hfb := implFb_any n v zs k c _ (h.below D0) hl (hT.belowAll D0)
  unfold FbG FbC at hfb
  unfold gvC
  clear h hT
  cases hg : isG n zs <;> cases hk : kcB k c <;> cases hf : FbB zs k c <;> rw [hg] at hfb <;> (try rw [hk] at hfb) <;> (try rw [hf] at hfb) <;> clear hg hk hf <;>
  · go_enter Tryd.func47, Tryd.ntmps47
    go_wp2_with (go_at_call 17; refine hfb.mono ?_; rintro e w1 ⟨rfl, hb1⟩)
    go_ret
    exact ⟨rfl, D0.trans (hb1.mono (by simp))⟩

set_option maxHeartbeats 800000 in
theorem given_any (n : Int) (v : Value) (zs : List Int) (k c : Int) (w : World) (h : Sl w v zs) (hl : zs.length ≤ 9223372036854775807) :
    Calls Tryd.prog 45 #[.agg #[.int .i64 n, v], .int .i64 k, .int .i64 c] w fun e w' => e = .returned (.int .i64 (gvC n zs k c)) ∧ Below w.heap.size w w' := by
  have D0 : Below w.heap.size w (w.alloc (.cells #[.int .i64 n, v] 28)) := (Below.refl _ _).alloc (Nat.le_refl _) _
  have his := l01Is_any n v zs _ (h.below D0) hl
  have hdg := fun W => numbers_any k c W
  unfold gvC
  cases hg : isG n zs with
  | false =>
    rw [hg] at his
    clear h hg hdg
    go_enter Tryd.func45, Tryd.ntmps45
    go_wp2_with (go_at_call 29; refine his.mono ?_; rintro e w1 ⟨rfl, hb1⟩)
    go_ret
    exact ⟨rfl, D0.trans (hb1.mono (by simp))⟩
  | true =>
    cases hkc : kcB k c with
    | false =>
      rw [hg] at his
      rw [hkc] at hdg
      clear h hg hkc
      go_enter Tryd.func45, Tryd.ntmps45
      go_wp2_with (first
        | (go_at_call 29; refine his.mono ?_; rintro e w1 ⟨rfl, hb1⟩)
        | (go_at_call 40; refine (hdg _).mono ?_; rintro e w' ⟨rfl, rfl⟩))
      go_ret
      exact ⟨rfl, D0.trans (hb1.mono (by simp))⟩
    | true =>
      obtain ⟨h1, _, h3, _⟩ := isG_parts hg
      obtain ⟨b, off, cap, rfl, hb, hc⟩ := sl_some h (by omega)
      obtain rfl : (zs.length : Int) = n := h3
      have hkk := hkc
      unfold kcB at hkk
      simp only [Bool.and_eq_true, decide_eq_true_eq] at hkk
      have HF : Hid (∀ W, Below w.heap.size w W → Calls Tryd.prog 41 #[.agg #[.int .i64 zs.length, .slice (some ⟨b, off, none⟩) zs.length cap], .int .i64 k, .int .i64 c] W fun e w' => e = .returned (.bool (FbB zs k c)) ∧ Below W.heap.size W w') := fun W hW => fitsS_some b off cap zs k c W (Nat.lt_of_lt_of_le hb hW.size) (hc.below hW hb) hg (by omega) (by omega)
      rw [hg] at his
      rw [hkc] at hdg
      have HD0 := Lib.hid D0
      have HR0 := Lib.hid (World.alloc_heap_new w (.cells #[.int .i64 zs.length, .slice (some ⟨b, off, none⟩) zs.length cap] 28))
      clear h hg hkc hc hkk D0
      cases hf : FbB zs k c <;> rw [hf] at HF <;> clear hf <;>
      · go_enter Tryd.func45, Tryd.ntmps45
        go_wp2_with (first
          | (go_at_call 29; refine his.mono ?_; rintro e w1 ⟨rfl, hb1⟩; obtain ⟨b0, b1, -, -⟩ := two_cells ((hb1.block w.heap.size (by simp)).trans HR0.out); have HB1 := Lib.hid (HD0.out.trans (hb1.mono (by simp))); clear hb1)
          | (go_at_call 40; refine (hdg _).mono ?_; rintro e w' ⟨rfl, rfl⟩)
          | (go_at_call 41; refine (HF.out _ HB1.out).mono ?_; rintro e w2 ⟨rfl, hb2⟩))
        go_ret
        exact ⟨rfl, HB1.out.trans (hb2.mono HB1.out.size)⟩

def FgN (n : Int) (zs : List Int) (k c : Int) : Int := if gvC n zs k c = 0 then n else 0
def FgL (n : Int) (zs : List Int) (k c : Int) : List Int := if gvC n zs k c = 0 then FR zs (pjV (FR zs) k c zs.length zs.length) else []
theorem FgL_length (n : Int) (zs : List Int) (k c : Int) : (FgL n zs k c).length ≤ zs.length := by
  unfold FgL
  split
  · rw [FR_length]; exact Nat.le_refl _
  · simp

end Go.Proofs.YtehpafbhejcbmaaDoor
