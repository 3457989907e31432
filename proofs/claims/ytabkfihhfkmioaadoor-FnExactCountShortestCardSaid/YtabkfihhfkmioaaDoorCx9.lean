/-
  Ways from level to level: plain facts, arrays of them.
-/
import Derived.Test.YtabkfihhfkmioaaDoorGo7
import Derived.RangeFuncNested
namespace Go.Proofs.YtabkfihhfkmioaaDoor
set_option maxRecDepth 100000
open Go.RowKit

/-- The vertices of the level d, of the first m, that have an edge to y. -/
def frL (zs : List Int) (D : Nat → Int) (d m y : Nat) : List Nat := (List.range m).filter fun x => (D x == (d : Int)) && bt (el zs x) y
def sumW (f : Nat → Int) (s : Int) (l : List Nat) : Int := l.foldl (fun s x => IntKind.i64.wrap (s + f x)) s
theorem sumW_snoc (f : Nat → Int) (s : Int) (l : List Nat) (x : Nat) : sumW f s (l ++ [x]) = IntKind.i64.wrap (sumW f s l + f x) := by unfold sumW; rw [List.foldl_append]; rfl
theorem sumW_congr {f g : Nat → Int} : ∀ {l : List Nat}, (∀ x, x ∈ l → f x = g x) → ∀ s, sumW f s l = sumW g s l
  | [], _, _ => rfl
  | x :: l, h, s => by
    show sumW f (IntKind.i64.wrap (s + f x)) l = sumW g (IntKind.i64.wrap (s + g x)) l
    rw [h x List.mem_cons_self]
    exact sumW_congr (fun y hy => h y (List.mem_cons_of_mem _ hy)) _
theorem frL_snoc (zs : List Int) (D : Nat → Int) (d x y : Nat) : frL zs D d (x + 1) y = if ((D x == (d : Int)) && bt (el zs x) y) = true then frL zs D d x y ++ [x] else frL zs D d x y := by
  unfold frL
  rw [List.range_succ, List.filter_append]
  by_cases h : ((D x == (d : Int)) && bt (el zs x) y) = true
  · rw [if_pos h]; simp only [List.filter_cons, h, if_pos, List.filter_nil]
  · rw [if_neg h]; simp only [List.filter_cons, List.filter_nil, h]; simp
/-- The ways to y on the level d. -/
def wyL (zs : List Int) (D : Nat → Int) (a : Nat) : Nat → Nat → Int
  | 0, y => if y = a then 1 else 0
  | d + 1, y => sumW (wyL zs D a d) 0 (frL zs D d zs.length y)
/-- The ways to y. -/
def wyV (zs : List Int) (D : Nat → Int) (a y : Nat) : Int := wyL zs D a (D y).toNat y
theorem wyV_succ {zs : List Int} {D : Nat → Int} {a d y : Nat} (h : D y = ((d + 1 : Nat) : Int)) : wyV zs D a y = sumW (wyV zs D a) 0 (frL zs D d zs.length y) := by
  show wyL zs D a (D y).toNat y = _
  rw [h, Int.toNat_natCast]
  show sumW (wyL zs D a d) 0 _ = _
  refine sumW_congr (fun x hx => ?_) 0
  have h2 := (List.mem_filter.1 hx).2
  rw [Bool.and_eq_true, beq_iff_eq] at h2
  show _ = wyL zs D a (D x).toNat x
  rw [h2.1, Int.toNat_natCast]
/-- The ways that are known when the levels up to d are done. -/
def wyD (zs : List Int) (D : Nat → Int) (a d y : Nat) : Int := if 0 ≤ D y ∧ D y ≤ (d : Int) then wyV zs D a y else 0
theorem wyD_zero {zs : List Int} {D : Nat → Int} {a : Nat} (hD : ∀ y, D y = 0 ↔ y = a) (y : Nat) : wyD zs D a 0 y = if y = a then 1 else 0 := by
  unfold wyD
  by_cases h : y = a
  · have h0 := (hD y).2 h
    rw [if_pos h, if_pos (by omega)]
    show wyL zs D a (D y).toNat y = 1
    rw [h0]
    show (if y = a then (1 : Int) else 0) = 1
    rw [if_pos h]
  · have h0 : D y ≠ 0 := fun e => h ((hD y).1 e)
    rw [if_neg h, if_neg (by omega)]
theorem wyD_at {zs : List Int} {D : Nat → Int} {a d x : Nat} (h : D x = (d : Int)) : wyD zs D a d x = wyV zs D a x := by unfold wyD; rw [if_pos (by omega)]
theorem wyD_far {zs : List Int} {D : Nat → Int} {a d x : Nat} (h : D x = ((d + 1 : Nat) : Int)) : wyD zs D a d x = 0 := by unfold wyD; rw [if_neg (by omega)]
theorem wyD_same {zs : List Int} {D : Nat → Int} {a d x : Nat} (h : D x ≠ ((d + 1 : Nat) : Int)) : wyD zs D a (d + 1) x = wyD zs D a d x := by
  unfold wyD
  by_cases e : 0 ≤ D x ∧ D x ≤ (d : Int)
  · rw [if_pos e, if_pos (by omega)]
  · rw [if_neg e, if_neg (by omega)]

theorem cnt_one : ∀ {l : List Nat} {a : Nat}, l.Nodup → a ∈ l → l.count a = 1
  | [], _, _, h => by simp at h
  | b :: l, a, hd, hm => by
    rw [List.nodup_cons] at hd
    rw [List.count_cons]
    by_cases e : b = a
    · subst e; rw [List.count_eq_zero_of_not_mem hd.1]; simp
    · rcases List.mem_cons.1 hm with h | h
      · exact absurd h.symm e
      · rw [cnt_one hd.2 h]; simp [e]
/-- What the program has while it counts the ways to the level d + 1: those of pre are done. -/
def stW (zs : List Int) (D : Nat → Int) (a d : Nat) (pre : List Nat) (i : Nat) : Int :=
  (pre.filter fun w => w == i).foldl (fun s w => sumW (wyV zs D a) s (frL zs D d zs.length w)) (wyD zs D a d i)
theorem stW_nil (zs : List Int) (D : Nat → Int) (a d i : Nat) : stW zs D a d [] i = wyD zs D a d i := rfl
theorem stW_same (zs : List Int) (D : Nat → Int) (a d : Nat) (pre : List Nat) (w : Nat) : stW zs D a d (pre ++ [w]) w = sumW (wyV zs D a) (stW zs D a d pre w) (frL zs D d zs.length w) := by
  unfold stW
  rw [List.filter_append, List.foldl_append]
  simp
theorem stW_other {zs : List Int} {D : Nat → Int} {a d : Nat} {pre : List Nat} {w i : Nat} (h : i ≠ w) : stW zs D a d (pre ++ [w]) i = stW zs D a d pre i := by
  unfold stW
  rw [List.filter_append]
  have : (w == i) = false := by rw [beq_eq_false_iff_ne]; exact fun e => h e.symm
  simp [this]
theorem stW_low {zs : List Int} {D : Nat → Int} {a d : Nat} {pre : List Nat} {i : Nat} (h : ∀ w, w ∈ pre → w ≠ i) : stW zs D a d pre i = wyD zs D a d i := by
  unfold stW
  rw [List.filter_eq_nil_iff.2 fun w hw => by simpa using h w hw]
  rfl
theorem stW_all {zs : List Int} {D : Nat → Int} {a d r : Nat} (hr : ∀ w, r.testBit w = (D w == ((d + 1 : Nat) : Int))) {i : Nat} (hi : i < 62) : stW zs D a d (mem r) i = wyD zs D a (d + 1) i := by
  have hnd : (mem r).Nodup := List.Pairwise.filter _ List.nodup_range
  by_cases h : D i = ((d + 1 : Nat) : Int)
  · have hm : i ∈ mem r := mem_iff.2 ⟨by omega, by rw [hr, h]; simp⟩
    unfold stW
    rw [List.filter_beq, cnt_one hnd hm, wyD_far h, wyD_at h, wyV_succ h]
    rfl
  · rw [wyD_same h]
    refine stW_low fun w hw e => h ?_
    have := (mem_iff.1 hw).2
    rw [e, hr] at this
    simpa using this
/-- The members of what a row and a level have in common. -/
theorem mem_frL {zs : List Int} {D : Nat → Int} {d w z : Nat} (h62 : zs.length ≤ 62) (hz : ∀ x, x < zs.length → z.testBit x = ((D x == (d : Int)) && bt (el zs x) w)) (hf : ∀ x, zs.length ≤ x → z.testBit x = false) : mem z = frL zs D d zs.length w := by
  unfold mem frL
  rw [show (64 : Nat) = zs.length + (64 - zs.length) by omega, List.range_add, List.filter_append]
  have h0 : ((List.range (64 - zs.length)).map fun x => zs.length + x).filter (fun j => z.testBit j) = [] := List.filter_eq_nil_iff.2 fun x hx => by
    obtain ⟨k, -, rfl⟩ := List.mem_map.1 hx
    rw [hf _ (by omega)]; simp
  rw [h0, List.append_nil]
  exact List.filter_congr fun x hx => hz x (List.mem_range.1 hx)

theorem cyD_lev {zs : List Int} {a wo k y : Nat} (ha : a < zs.length) : lev (Rw zs a wo) zs.length a k y = true ↔ cyD zs a wo y = (k : Int) := by
  refine ⟨fun h => dOf_lev ha h, fun h => ?_⟩
  by_cases hex : ∃ d, lev (Rw zs a wo) zs.length a d y = true
  · obtain ⟨d, hd⟩ := hex
    have h1 : cyD zs a wo y = (d : Int) := dOf_lev ha hd
    obtain rfl : d = k := by omega
    exact hd
  · have h1 : cyD zs a wo y = -1 := dOf_none fun d => by
      cases hl : lev (Rw zs a wo) zs.length a d y with
      | false => rfl
      | true => exact absurd ⟨d, hl⟩ hex
    omega
theorem cyD_levB {zs : List Int} {a wo k : Nat} (ha : a < zs.length) (y : Nat) : lev (Rw zs a wo) zs.length a k y = (cyD zs a wo y == (k : Int)) := by
  rw [Bool.eq_iff_iff, cyD_lev ha, beq_iff_eq]
theorem cyD_zero {zs : List Int} {a wo : Nat} (ha : a < zs.length) (y : Nat) : cyD zs a wo y = 0 ↔ y = a := by
  rw [show (0 : Int) = ((0 : Nat) : Int) from rfl, ← cyD_lev ha, lev_zero, beq_iff_eq]
theorem cyD_far {zs : List Int} {a wo y : Nat} (ha : a < zs.length) (hy : zs.length ≤ y) : cyD zs a wo y = -1 := dOf_none fun d => by
  cases hl : lev (Rw zs a wo) zs.length a d y with
  | false => rfl
  | true => have := lev_lt ha hl; omega
/-- The cycles of the length G with the edge of a and b. -/
def ctN (zs : List Int) (a b : Nat) (G : Int) : Int := if cyD zs a (2 ^ b) b + 1 = G then wyV zs (cyD zs a (2 ^ b)) a b else 0

/-- Block B is an array of 62 numbers. -/
def AW (W : World) (B : Nat) (g : Nat → Int) : Prop := W.heap[B]? = some (.cells (rowsA g) 97 (0, 0))
theorem AW.lt {W : World} {B : Nat} {g : Nat → Int} (h : AW W B g) : B < W.heap.size := (Array.getElem?_eq_some_iff.1 h).1
theorem AW.cell {W : World} {B : Nat} {g : Nat → Int} (h : AW W B g) {j : Nat} (hj : j < 62) : W.cell? ⟨B, j, none⟩ = some (.int .i64 (g j)) := by
  rw [cell_of_row W B j _ _ _ h]; exact rowsA_at g j hj
theorem AW.frozen {W : World} {B : Nat} {g : Nat → Int} (h : AW W B g) (j : Nat) : W.frozen? ⟨B, j, none⟩ = false := frozen_of_row W B j _ _ h
theorem AW.congr {W : World} {B : Nat} {f g : Nat → Int} (h : AW W B f) (e : ∀ i, i < 62 → f i = g i) : AW W B g := by
  have : rowsA f = rowsA g := by unfold rowsA rowsL; congr 1; exact List.map_congr_left fun i hi => by rw [e i (List.mem_range.1 hi)]
  unfold AW at *; rw [← this]; exact h
theorem AW.set {W : World} {B : Nat} {f : Nat → Int} (h : AW W B f) {j : Nat} (hj : j < 62) (n : Int) : AW (W.setCell ⟨B, j, none⟩ (.int .i64 n)) B (fun i => if i = j then n else f i) := by
  unfold AW at *
  rw [heap_setCell_same W B j _ _ _ h]
  congr 2
  apply Array.ext_getElem?
  intro i
  by_cases hi : i < 62
  · rw [rowsA_at _ i hi, Array.getElem?_setIfInBounds]
    by_cases hij : j = i
    · subst hij; simp [rowsA_size, hj]
    · have : i ≠ j := fun e => hij e.symm
      simp [hij, this, rowsA_at f i hi]
  · rw [Array.getElem?_eq_none (by rw [Array.size_setIfInBounds, rowsA_size]; omega), Array.getElem?_eq_none (by rw [rowsA_size]; omega)]
end Go.Proofs.YtabkfihhfkmioaaDoor
