/-
  spec.l01Edges, spec.EdgesOf.
-/
import Derived.Test.YtibpnemeehkdbaaDoorEo7
namespace Go.Proofs.YtibpnemeehkdbaaDoor
set_option maxRecDepth 100000
set_option maxRecDepth 100000
open Go.RowKit

/-- The edges ahead of the pair v, w. -/
def edW (zs : List Int) (v w : Nat) : List (Nat × Nat) := edP zs v ++ ((List.range w).filter fun y => decide (v < y) && bt (el zs v) y).map fun y => (v, y)
theorem edW_start (zs : List Int) (v : Nat) : edW zs v (v + 1) = edP zs v := by
  unfold edW
  rw [show (List.range (v + 1)).filter (fun y => decide (v < y) && bt (el zs v) y) = [] from List.filter_eq_nil_iff.2 fun y hy => by
    have := List.mem_range.1 hy
    simp; omega]
  simp
theorem edW_yes {zs : List Int} {v w : Nat} (h : v < w) (hb : bt (el zs v) w = true) : edW zs v (w + 1) = edW zs v w ++ [(v, w)] := by
  unfold edW; rw [List.range_succ, List.filter_append]; simp [h, hb]
theorem edW_no {zs : List Int} {v w : Nat} (hb : bt (el zs v) w = false) : edW zs v (w + 1) = edW zs v w := by
  unfold edW; rw [List.range_succ, List.filter_append]; simp [hb]
theorem filter_end {p : Nat → Bool} {n : Nat} (h : ∀ y, n ≤ y → p y = false) : ∀ m, n ≤ m → (List.range m).filter p = (List.range n).filter p := by
  intro m hm
  induction m with
  | zero => obtain rfl : n = 0 := (by omega); rfl
  | succ m ih =>
    by_cases e : n ≤ m
    · rw [List.range_succ, List.filter_append, ih e]; simp [h m e]
    · obtain rfl : n = m + 1 := (by omega); rfl
theorem edW_end {zs : List Int} {v : Nat} (h62 : zs.length ≤ 62) (hz : (el zs v).toNat < 2 ^ zs.length) : edW zs v zs.length = edP zs (v + 1) := by
  rw [edP_succ]
  unfold edW
  congr 2
  unfold mem
  rw [filter_end (n := zs.length) (fun y hy => ?_) 64 (by omega)]
  · refine List.filter_congr fun y _ => ?_
    rw [hiN, anot_bit, low_bit]
    unfold bt
    rw [Bool.and_comm]
    congr 1
    rw [← decide_not]
    exact decide_eq_decide.2 ⟨fun h => by omega, fun h => by omega⟩
  · rw [hiN]
    exact Nat.testBit_lt_two_pow (Nat.lt_of_lt_of_le (anot_lt hz) (Nat.pow_le_pow_right (by decide) hy))
theorem edW_len {zs : List Int} {v w : Nat} (h62 : zs.length ≤ 62) (hv : v < zs.length) (hw : w ≤ 62) : (edW zs v w).length ≤ 4100 := by
  unfold edW
  rw [List.length_append, List.length_map]
  have h1 := edP_len zs h62 v
  have h2 := List.length_filter_le (fun y => decide (v < y) && bt (el zs v) y) (List.range w)
  rw [List.length_range] at h2
  omega

/-- What holds when a pair has been appended to a list of lists. -/
theorem ts_end {B : Nat} {W5 w8 : World} {x y : Int} {u l3 : Value} {Lp : List (List Int)} {cs : List Value} (hT : TSc W5 B u Lp cs) (hB5 : B ≤ W5.heap.size)
    (hown8 : w8.ownsRow B 22 1 l3 (Lp.length + 1) (cs ++ [.slice (some ⟨W5.heap.size, 0, none⟩) 2 2]))
    (hgr8 : ((W5.alloc (.cells #[.int .i64 x, .int .i64 y] 2)).alloc (.cells #[.slice (some ⟨W5.heap.size, 0, none⟩) 2 2] 22)).grownBy w8 u.ownBlock)
    (hloc : l3.ownBlock = u.ownBlock ∨ l3.ownBlock = some (W5.heap.size + 2)) :
    TS w8 B l3 (Lp ++ [[x, y]]) ∧ ∀ B0, B0 ≤ B → Below B0 W5 w8 := by
  obtain ⟨W6, hW6⟩ : ∃ W6, W6 = W5.alloc (.cells #[.int .i64 x, .int .i64 y] 2) := ⟨_, rfl⟩
  obtain ⟨W7, hW7⟩ : ∃ W7, W7 = W6.alloc (.cells #[.slice (some ⟨W5.heap.size, 0, none⟩) 2 2] 22) := ⟨_, rfl⟩
  have s6 : W6.heap.size = W5.heap.size + 1 := by rw [hW6]; simp
  have s7 : W7.heap.size = W5.heap.size + 2 := by rw [hW7]; simp [s6]
  have hO6 : Own W6 B (.slice (some ⟨W5.heap.size, 0, none⟩) 2 2) [x, y] := by
    rw [hW6]; exact Own.of_blk (Blk.new W5 [x, y]) hB5 (by unfold maxLen; simp)
  have B7 : Below W5.heap.size W5 W7 := by rw [hW7, hW6]; exact ((Below.refl _ _).alloc (Nat.le_refl _) _).alloc (by simp) _
  have hO7 : Own W7 B (.slice (some ⟨W5.heap.size, 0, none⟩) 2 2) [x, y] := by rw [hW7]; exact hO6.below ((Below.refl _ W6).alloc (Nat.le_refl _) _)
  rw [← hW6, ← hW7] at hgr8
  have hub : ∀ k, u.ownBlock = some k → B ≤ k ∧ k < W5.heap.size := fun k e => World.ownsRow.lt hT.1 k e
  refine ⟨(hT.below B7).snoc hO7 (.inr fun e => ?_) (fun e => by cases e) hown8 hgr8 (by rw [s7]; exact hloc), fun B0 h0 => (B7.mono (by omega)).grown hgr8 (by omega) (fun k e => by have := (hub k e).1; omega)⟩
  have := (hub W5.heap.size e.symm).2
  omega

theorem eo_sizes (n : Int) (zs : List Int) : (EoL n zs).length ≤ 4000 ∧ ∀ i, i < (EoL n zs).length → (elS (EoL n zs) i).length ≤ 62 := by
  unfold EoL
  cases h : isG n zs with
  | true =>
    rw [if_pos rfl]
    obtain ⟨g1, g2, g3, -, -⟩ := isG_parts h
    have h1 := edP_len zs (by omega) zs.length
    refine ⟨by unfold EdLL edL; rw [List.length_map]; omega, fun i hi => ?_⟩
    unfold EdLL at hi ⊢
    rw [List.length_map] at hi
    have e : elS ((edL zs).map prI) i = prI ((edL zs)[i]) := by simp [elS, hi]
    rw [e]; simp [prI]
  | false => exact ⟨by simp, fun i hi => by simp at hi⟩
end Go.Proofs.YtibpnemeehkdbaaDoor
