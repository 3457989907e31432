/-
  PairsToJoin of both programs, for all arguments.
-/
import Derived.Test.YtehpafbhejcbmaaDoorPs7
namespace Go.Proofs.YtehpafbhejcbmaaDoor
set_option maxRecDepth 100000
set_option maxRecDepth 100000
open Go.RowKit

def PjA (n : Int) (zs : List Int) (k c : Int) : List (List Int) := if gvC n zs k c = 0 then PjL zs k c else []

set_option maxHeartbeats 800000 in
theorem implPi_no (n : Int) (v : Value) (zs : List Int) (k c : Int) (w : World) (h : Sl w v zs) (hl : zs.length ≤ 9223372036854775807) (hT : Tab w) (hne : gvC n zs k c ≠ 0) :
    Calls Tryd.prog 19 #[.agg #[.int .i64 n, v], .int .i64 k, .int .i64 c] w fun e w' => LSRes w.heap.size [] (gvC n zs k c) e w' ∧ Below w.heap.size w w' := by
  have D0 : Below w.heap.size w (w.alloc (.cells #[.int .i64 n, v] 28)) := (Below.refl _ _).alloc (Nat.le_refl _) _
  have hch := chk_any n v zs k c _ (h.below D0) hl (hT.belowAll D0)
  generalize gvC n zs k c = e0 at *
  have hbn : (e0 != 0) = true := by simpa using hne
  clear h hT
  go_enter Tryd.func19, Tryd.ntmps19
  go_wp2_with (go_at_call 47; refine hch.mono ?_; rintro e w1 ⟨rfl, hb1⟩)
  go_ret2
  exact ⟨⟨_, rfl, TL.nil _ _⟩, D0.trans (hb1.mono (by simp))⟩

set_option maxHeartbeats 800000 in
theorem specPi_no (n : Int) (v : Value) (zs : List Int) (k c : Int) (w : World) (h : Sl w v zs) (hl : zs.length ≤ 9223372036854775807) (hne : gvC n zs k c ≠ 0) :
    Calls Tryd.prog 18 #[.agg #[.int .i64 n, v], .int .i64 k, .int .i64 c] w fun e w' => SRes w.heap.size [] (gvC n zs k c) e w' ∧ Below w.heap.size w w' := by
  have D0 : Below w.heap.size w (w.alloc (.cells #[.int .i64 n, v] 28)) := (Below.refl _ _).alloc (Nat.le_refl _) _
  have hch := given_any n v zs k c _ (h.below D0) hl
  generalize gvC n zs k c = e0 at *
  have hbn : (e0 != 0) = true := by simpa using hne
  clear h
  go_enter Tryd.func18, Tryd.ntmps18
  go_wp2_with (go_at_call 45; refine hch.mono ?_; rintro e w1 ⟨rfl, hb1⟩)
  go_ret2
  exact ⟨⟨_, rfl, TS.nil _ _⟩, D0.trans (hb1.mono (by simp))⟩

theorem implPi_any (n : Int) (v : Value) (zs : List Int) (k c : Int) (w : World) (h : Sl w v zs) (hl : zs.length ≤ 9223372036854775807) (hT : Tab w) :
    Calls Tryd.prog 19 #[.agg #[.int .i64 n, v], .int .i64 k, .int .i64 c] w fun e w' => LSRes w.heap.size (PjA n zs k c) (gvC n zs k c) e w' ∧ Below w.heap.size w w' := by
  unfold PjA
  by_cases h0 : gvC n zs k c = 0
  · obtain ⟨hg, hkc, hf⟩ := gvC_zero h0
    rw [h0, if_pos rfl]
    obtain ⟨h1, _, h3, _⟩ := isG_parts hg
    obtain ⟨b, off, cap, rfl, hb, hc⟩ := sl_some h (by omega)
    obtain rfl : (zs.length : Int) = n := h3
    exact callsIn_wide.1 (implPi_in b off cap zs k c w hb hc hg hkc hf hl h hT)
  · rw [if_neg h0]
    exact implPi_no n v zs k c w h hl hT h0
theorem specPi_any (n : Int) (v : Value) (zs : List Int) (k c : Int) (w : World) (h : Sl w v zs) (hl : zs.length ≤ 9223372036854775807) :
    Calls Tryd.prog 18 #[.agg #[.int .i64 n, v], .int .i64 k, .int .i64 c] w fun e w' => SRes w.heap.size (PjA n zs k c) (gvC n zs k c) e w' ∧ Below w.heap.size w w' := by
  unfold PjA
  by_cases h0 : gvC n zs k c = 0
  · obtain ⟨hg, hkc, hf⟩ := gvC_zero h0
    rw [h0, if_pos rfl]
    obtain ⟨h1, _, h3, _⟩ := isG_parts hg
    obtain ⟨b, off, cap, rfl, hb, hc⟩ := sl_some h (by omega)
    obtain rfl : (zs.length : Int) = n := h3
    exact specPi_yes b off cap zs k c w hb hc hg hkc hf hl h
  · rw [if_neg h0]
    exact specPi_no n v zs k c w h hl h0

theorem pj_sizes (n : Int) (zs : List Int) (k c : Int) : (PjA n zs k c).length ≤ 4000 ∧ ∀ i, i < (PjA n zs k c).length → (elS (PjA n zs k c) i).length ≤ 62 := by
  unfold PjA
  by_cases h0 : gvC n zs k c = 0
  · rw [if_pos h0]
    obtain ⟨hg, -, -⟩ := gvC_zero h0
    obtain ⟨p1, p2, p3, -, -⟩ := isG_parts hg
    refine ⟨?_, fun i hi => ?_⟩
    · unfold PjL pjA
      rw [List.length_map]
      have h2 := pjV_len (Rf := fun _ => zs) (k := k) (c := c) (n := zs.length) zs.length
      have h3 : zs.length * zs.length ≤ 62 * 62 := Nat.mul_le_mul (by omega) (by omega)
      omega
    · unfold PjL at hi ⊢
      rw [List.length_map] at hi
      unfold elS
      rw [List.getD_eq_getElem?_getD, List.getElem?_map, List.getElem?_eq_getElem hi]
      show (prI _).length ≤ 62
      unfold prI; simp
  · rw [if_neg h0]; simp

/-- Whether no pair may be joined. -/
def FuB (n : Int) (zs : List Int) (k c : Int) : Bool := decide (gvC n zs k c = 0) && decide ((PjA n zs k c).length = 0)
theorem FuB_no {n : Int} {zs : List Int} {k c : Int} (h : gvC n zs k c ≠ 0) : FuB n zs k c = false := by unfold FuB; rw [decide_eq_false h]; rfl

set_option maxHeartbeats 800000 in
theorem implFu_any (n : Int) (v : Value) (zs : List Int) (k c : Int) (w : World) (h : Sl w v zs) (hl : zs.length ≤ 9223372036854775807) (hT : Tab w) :
    Calls Tryd.prog 25 #[.agg #[.int .i64 n, v], .int .i64 k, .int .i64 c] w fun e w' => e = .returned (.tuple #[.bool (FuB n zs k c), .int .i64 (gvC n zs k c)]) ∧ Below w.heap.size w w' := by
  have D0 : Below w.heap.size w (w.alloc (.cells #[.int .i64 n, v] 28)) := (Below.refl _ _).alloc (Nat.le_refl _) _
  have hch := implPi_any n v zs k c _ (h.below D0) hl (hT.belowAll D0)
  unfold FuB
  have hpl := (pj_sizes n zs k c).1
  generalize PjA n zs k c = L at *
  generalize gvC n zs k c = e0 at *
  clear h hT
  have HU : Hid (∀ (W : World) (B : Nat) (u : Value), TL W B u L → ∃ p cap, u = .slice p L.length cap) := fun W B u hu => by
    rcases hu.ts.form with ⟨h1, h2⟩ | ⟨g, cp, h1, _⟩
    · exact ⟨none, 0, by rw [h1, h2]; rfl⟩
    · exact ⟨_, cp, h1⟩
  obtain ⟨m, hm⟩ : ∃ m, m = L.length := ⟨_, rfl⟩
  have HU2 : Hid (∀ (W : World) (B : Nat) (u : Value), TL W B u L → ∃ p cap, u = .slice p m cap) := fun W B u hu => by rw [hm]; exact HU.out W B u hu
  rw [← hm] at hpl ⊢
  by_cases h0 : e0 = 0 <;> by_cases h1 : m = 0
  all_goals
    have hb0 : (e0 == 0) = decide (e0 = 0) := by rw [Bool.eq_iff_iff]; simp
    have hb1 : ((m : Int) == 0) = decide (m = 0) := by rw [Bool.eq_iff_iff]; simp
    rw [show decide (e0 = 0) = _ from by first | exact decide_eq_true h0 | exact decide_eq_false h0] at hb0 ⊢
    rw [show decide (m = 0) = _ from by first | exact decide_eq_true h1 | exact decide_eq_false h1] at hb1 ⊢
    clear HU hm
    go_enter Tryd.func25, Tryd.ntmps25
    go_wp2_with (go_at_call 19; refine hch.mono ?_; rintro e w1 ⟨⟨u, rfl, hu⟩, hb⟩; obtain ⟨up, uc, rfl⟩ := HU2.out _ _ _ hu)
    go_ret2
    exact ⟨by first | rfl | (rw [h0]; rfl), D0.trans (hb.mono (by simp))⟩
end Go.Proofs.YtehpafbhejcbmaaDoor
