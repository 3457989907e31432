/-
  PartsOf, program and model, whatever comes in. (A tied seat of graphs.)
-/
import Derived.Test.YtbpcdgfcdahnlaaDoorQs
namespace Go.Proofs.YtbpcdgfcdahnlaaDoor
set_option maxRecDepth 100000
set_option maxRecDepth 100000
open Go.RowKit

theorem TL.below {w w' : World} {B : Nat} {v : Value} {Ts : List (List Int)} (h : TL w B v Ts) (hb : Below w.heap.size w w') : TL w' B v Ts := by
  obtain ⟨cs, h⟩ := h; exact ⟨cs, h.below hb⟩
theorem TL.lo {w : World} {B : Nat} {v : Value} {Ts : List (List Int)} (h : TL w B v Ts) : LO w B v Ts := by
  obtain ⟨cs, hc, hd⟩ := h
  rcases hc.form with ⟨rfl, rfl⟩ | ⟨g, cap, rfl, hB, hg⟩
  · exact .inl ⟨rfl, rfl⟩
  · obtain ⟨h1, h2, h3⟩ := hc
    have hgd : ∀ i, i < Ts.length → cs[i]? = some (cs.getD i (.slice none 0 0)) := fun i hi => by
      rw [List.getD_eq_getElem?_getD, List.getElem?_eq_getElem (by omega)]; rfl
    refine .inr ⟨g, cap, fun i => cs.getD i (.slice none 0 0), rfl, hB, hg, fun i hi => ?_, fun i j b hij hi hj hb => hd i j _ _ b hij (hgd i hi) (hgd j hj) hb⟩
    obtain ⟨u, a, b, c, _⟩ := h3 i hi
    have e : cs.getD i (.slice none 0 0) = u := by have := hgd i hi; rw [a] at this; exact (Option.some.inj this).symm
    show w.cell? ⟨g, i, none⟩ = some (cs.getD i (.slice none 0 0)) ∧ Own w B (cs.getD i (.slice none 0 0)) _ ∧ (cs.getD i (.slice none 0 0)).ownBlock ≠ some g
    rw [e]
    refine ⟨(World.ownsRow.cellAt h1 i (by omega)).trans a, b, fun e2 => ?_⟩
    rcases c with c | c
    · rw [c] at e2; cases e2
    · exact c (by rw [e2]; rfl)

set_option maxHeartbeats 800000 in
theorem specPa_no (n : Int) (v : Value) (zs : List Int) (w : World) (h : Sl w v zs) (hg : isG n zs = false) (hl : zs.length ≤ 9223372036854775807) :
    Calls Tryd.prog 26 #[.agg #[.int .i64 n, v]] w fun e w' => SRes w.heap.size [] 1 e w' ∧ Below w.heap.size w w' := by
  have D0 : Below w.heap.size w (w.alloc (.cells #[.int .i64 n, v] 28)) := (Below.refl _ _).alloc (Nat.le_refl _) _
  have his := l01Is_any n v zs _ (h.below D0) hl
  rw [hg] at his
  clear h hg
  go_enter Tryd.func26, Tryd.ntmps26
  go_wp2_with (go_at_call 52; refine his.mono ?_; rintro e w1 ⟨rfl, hb1⟩)
  go_ret2
  exact ⟨⟨_, rfl, TS.nil _ _⟩, D0.trans (hb1.mono (by simp))⟩

theorem specPa_any (n : Int) (v : Value) (zs : List Int) (w : World) (h : Sl w v zs) (hl : zs.length ≤ 9223372036854775807) :
    Calls Tryd.prog 26 #[.agg #[.int .i64 n, v]] w fun e w' => SRes w.heap.size (PaL n zs) (PaC n zs) e w' ∧ Below w.heap.size w w' := by
  unfold PaL PaC
  cases hg : isG n zs
  · exact specPa_no n v zs w h hg hl
  · obtain ⟨h1, _, h3, _⟩ := isG_parts hg
    obtain ⟨b, off, cap, rfl, hb, hc⟩ := sl_some h (by omega)
    obtain rfl : (zs.length : Int) = n := h3
    exact specPa_yes b off cap zs w hb hc hg

set_option maxHeartbeats 800000 in
theorem implPa_no (n : Int) (v : Value) (zs : List Int) (w : World) (h : Sl w v zs) (hg : isG n zs = false) (hl : zs.length ≤ 9223372036854775807) (hT : Tab w) :
    Calls Tryd.prog 27 #[.agg #[.int .i64 n, v]] w fun e w' => LSRes w.heap.size [] 1 e w' ∧ Below w.heap.size w w' := by
  have D0 : Below w.heap.size w (w.alloc (.cells #[.int .i64 n, v] 28)) := (Below.refl _ _).alloc (Nat.le_refl _) _
  have his := implIs_any n v zs _ (h.below D0) hl (hT.belowAll D0)
  rw [hg] at his
  clear h hg hT
  go_enter Tryd.func27, Tryd.ntmps27
  go_wp2_with (go_at_call 54; refine his.mono ?_; rintro e w1 ⟨rfl, hb1⟩)
  go_ret2
  exact ⟨⟨_, rfl, TL.nil _ _⟩, D0.trans (hb1.mono (by simp))⟩

theorem implPa_any (n : Int) (v : Value) (zs : List Int) (w : World) (h : Sl w v zs) (hl : zs.length ≤ 9223372036854775807) (hT : Tab w) :
    Calls Tryd.prog 27 #[.agg #[.int .i64 n, v]] w fun e w' => LSRes w.heap.size (PaL n zs) (PaC n zs) e w' ∧ Below w.heap.size w w' := by
  unfold PaL PaC
  cases hg : isG n zs
  · exact implPa_no n v zs w h hg hl hT
  · obtain ⟨h1, _, h3, _⟩ := isG_parts hg
    obtain ⟨b, off, cap, rfl, hb, hc⟩ := sl_some h (by omega)
    obtain rfl : (zs.length : Int) = n := h3
    exact callsIn_wide.1 (implPa_in b off cap zs w hb hc hg hT)

theorem tot_le (Ls : List (List Int)) (m : Nat) : ∀ k, (∀ i, i < k → (elS Ls i).length ≤ m) → tot Ls k ≤ m * k
  | 0, _ => Nat.le_refl _
  | k + 1, h => by
    have h1 := tot_le Ls m k (fun i hi => h i (by omega))
    have h2 := h k (by omega)
    show tot Ls k + (elS Ls k).length ≤ m * (k + 1)
    rw [Nat.mul_add]; omega
theorem pa_sizes (n : Int) (zs : List Int) : (PaL n zs).length ≤ 62 ∧ ∀ i, i < (PaL n zs).length → (elS (PaL n zs) i).length ≤ 62 := by
  unfold PaL
  cases h : isG n zs with
  | true =>
    rw [if_pos rfl]
    obtain ⟨g1, g2, g3, -, -⟩ := isG_parts h
    have hp := prN_length zs zs.length
    refine ⟨by unfold PtL; rw [PtU_length]; omega, fun i hi => ?_⟩
    unfold PtL PtU at hi ⊢
    rw [List.length_map] at hi
    have e : elS ((prN zs zs.length).map fun u => nI (ptN zs u)) i = nI (ptN zs ((prN zs zs.length)[i])) := by simp [elS, hi]
    rw [e, nI_length]
    unfold ptN
    exact Nat.le_trans (List.length_filter_le _ _) (by simp; omega)
  | false => exact ⟨by simp, fun i hi => by simp at hi⟩
theorem ss_slice {w : World} {v : Value} {Ls : List (List Int)} (h : SS w v Ls) : ∃ a c, v = .slice a Ls.length c := ⟨_, _, h.form⟩
end Go.Proofs.YtbpcdgfcdahnlaaDoor
