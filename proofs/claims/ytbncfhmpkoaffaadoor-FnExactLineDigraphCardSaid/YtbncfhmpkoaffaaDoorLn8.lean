/-
  Rows of line digraphs: plain facts.
-/
import Derived.Test.YtbncfhmpkoaffaaDoorAp8
import Derived.Test.YtbncfhmpkoaffaaDoorQs7
import Derived.Test.YtbncfhmpkoaffaaDoorOn1
import Derived.Test.YtbncfhmpkoaffaaDoorQm
namespace Go.Proofs.YtbncfhmpkoaffaaDoor
set_option maxRecDepth 100000
set_option maxRecDepth 100000
open Go.RowKit

/-- The pairs at i. -/
def prA (P : List (Nat × Nat)) (i : Nat) : Nat × Nat := P.getD i (0, 0)
/-- The first j bits of row i. -/
def lnF (P : List (Nat × Nat)) (i : Nat) : Nat → Nat
  | 0 => 0
  | j + 1 => if (prA P i).2 = (prA P j).1 then lnF P i j ||| 2 ^ j else lnF P i j
theorem lnF_lt (P : List (Nat × Nat)) (i : Nat) : ∀ j, lnF P i j < 2 ^ j
  | 0 => Nat.one_pos
  | j + 1 => by
    have h := lnF_lt P i j
    have h1 : 2 ^ j < 2 ^ (j + 1) := Nat.pow_lt_pow_right (by decide) (by omega)
    rw [lnF]
    split
    · exact Nat.or_lt_two_pow (by omega) h1
    · omega
/-- The rows when row i has j bits. -/
def lnL (P : List (Nat × Nat)) (i j : Nat) : List Int := (List.range P.length).map fun r => if r < i then ((lnF P r P.length : Nat) : Int) else if r = i then ((lnF P i j : Nat) : Int) else 0
def lnR (P : List (Nat × Nat)) : List Int := (List.range P.length).map fun r => ((lnF P r P.length : Nat) : Int)
theorem lnL_length (P : List (Nat × Nat)) (i j : Nat) : (lnL P i j).length = P.length := by simp [lnL]
theorem lnR_length (P : List (Nat × Nat)) : (lnR P).length = P.length := by simp [lnR]
theorem lnL_at {P : List (Nat × Nat)} {i j : Nat} (h : i < P.length) : el (lnL P i j) i = ((lnF P i j : Nat) : Int) := by
  rw [el_lt (by rw [lnL_length]; exact h)]; simp [lnL]
theorem lnL_zero (P : List (Nat × Nat)) : lnL P 0 0 = List.replicate P.length 0 := by
  refine List.eq_replicate_iff.2 ⟨lnL_length _ _ _, fun x hx => ?_⟩
  unfold lnL at hx
  obtain ⟨r, _, hr⟩ := List.mem_map.1 hx
  rw [if_neg (Nat.not_lt_zero r)] at hr
  split at hr
  · rw [← hr]; rfl
  · exact hr.symm
theorem lnL_row (P : List (Nat × Nat)) (i : Nat) : lnL P i P.length = lnL P (i + 1) 0 := by
  unfold lnL
  refine List.map_congr_left fun r _ => ?_
  by_cases h1 : r < i
  · rw [if_pos h1, if_pos (by omega)]
  · rw [if_neg h1]
    by_cases h2 : r = i
    · rw [if_pos h2, if_pos (by omega), h2]
    · rw [if_neg h2, if_neg (by omega)]
      split
      · rfl
      · rfl
theorem lnL_all (P : List (Nat × Nat)) : lnL P P.length 0 = lnR P := by
  unfold lnL lnR
  refine List.map_congr_left fun r hr => ?_
  rw [if_pos (List.mem_range.1 hr)]
theorem lnL_set {P : List (Nat × Nat)} {i j : Nat} (hi : i < P.length) {x : Nat} (hx : x = lnF P i (j + 1)) : (lnL P i j).set i ((x : Nat) : Int) = lnL P i (j + 1) := by
  refine ext_el (by rw [List.length_set, lnL_length, lnL_length]) fun r hr => ?_
  rw [List.length_set, lnL_length] at hr
  by_cases e : r = i
  · subst e
    rw [elSet_eq (by rw [lnL_length]; exact hr), lnL_at hr, hx]
  · rw [elSet_ne e, el_lt (by rw [lnL_length]; exact hr), el_lt (by rw [lnL_length]; exact hr)]
    simp [lnL, e]
theorem lnF_yes {P : List (Nat × Nat)} {i j : Nat} (h : (prA P i).2 = (prA P j).1) : lnF P i j ||| 2 ^ j = lnF P i (j + 1) := by rw [lnF, if_pos h]
theorem lnL_no {P : List (Nat × Nat)} {i j : Nat} (h : (prA P i).2 ≠ (prA P j).1) : lnL P i (j + 1) = lnL P i j := by
  unfold lnL; rw [show lnF P i (j + 1) = lnF P i j by rw [lnF, if_neg h]]

/-- The line digraph. -/
def lnOk (n : Int) (zs : List Int) : Bool := isD n zs && (decide (1 ≤ (acP zs zs.length).length) && decide ((acP zs zs.length).length ≤ 62))
def lnN (n : Int) (zs : List Int) : Int := if lnOk n zs then ((acP zs zs.length).length : Int) else 0
def lnD (n : Int) (zs : List Int) : List Int := if lnOk n zs then lnR (acP zs zs.length) else []
def lnC (n : Int) (zs : List Int) : Int := if isD n zs then (if (acP zs zs.length).length = 0 then 5 else if 62 < (acP zs zs.length).length then 3 else 0) else 1
theorem lnD_length (n : Int) (zs : List Int) : (lnD n zs).length ≤ 62 := by
  unfold lnD
  cases h : lnOk n zs with
  | false => simp
  | true =>
    unfold lnOk at h
    simp only [Bool.and_eq_true, decide_eq_true_eq] at h
    rw [if_pos rfl, lnR_length]; exact h.2.2

/-- What stands in cell i of a list of pairs. -/
theorem ar_row {w : World} {b off : Nat} {P : List (Nat × Nat)} (h : Rows w b off (P.map prI)) {i : Nat} (hi : i < P.length) :
    ∃ g o c, w.cell? ⟨b, off + i, none⟩ = some (.slice (some ⟨g, o, none⟩) 2 c) ∧ w.cell? ⟨g, o, none⟩ = some (.int .i64 (prA P i).1) ∧ w.cell? ⟨g, o + 1, none⟩ = some (.int .i64 (prA P i).2) := by
  obtain ⟨p, c, h1, h2⟩ := h i (by rw [List.length_map]; exact hi)
  have e : elS (P.map prI) i = [((prA P i).1 : Int), ((prA P i).2 : Int)] := by
    unfold elS prA prI
    rw [List.getD_eq_getElem?_getD, List.getD_eq_getElem?_getD, List.getElem?_map, List.getElem?_eq_getElem hi]; rfl
  rw [e] at h1 h2
  rcases h2 with ⟨a, c', h3, h4⟩ | ⟨g, o, c', h3, h4, h5⟩
  · cases h4
  · cases h3
    refine ⟨g, o, c, h1, ?_, ?_⟩
    · have := h5 0 (by simp); rw [Nat.add_zero] at this; exact this
    · exact h5 1 (by simp)
end Go.Proofs.YtbncfhmpkoaffaaDoor
