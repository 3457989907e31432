/-
  The part of a graph on vertices: plain facts; impl.areAscending.
-/
import Derived.Test.YtlodaeoikkjbkaaDoorPe7
namespace Go.Proofs.YtlodaeoikkjbkaaDoor
set_option maxRecDepth 100000
open Go.RowKit

/-- The digits 0 to k - 1 of the row i of the part on vs. -/
def onN (zs vs : List Int) (i : Nat) : Nat → Nat
  | 0 => 0
  | k + 1 => if bt (el zs (el vs i).toNat) (el vs k).toNat then onN zs vs i k ||| 2 ^ k else onN zs vs i k
theorem onN_yes {zs vs : List Int} {i k : Nat} (h : bt (el zs (el vs i).toNat) (el vs k).toNat = true) : onN zs vs i (k + 1) = onN zs vs i k ||| 2 ^ k := by rw [onN, if_pos h]
theorem onN_no {zs vs : List Int} {i k : Nat} (h : bt (el zs (el vs i).toNat) (el vs k).toNat = false) : onN zs vs i (k + 1) = onN zs vs i k := by rw [onN, if_neg (by simp [h])]
theorem onN_lt (zs vs : List Int) (i : Nat) : ∀ k, onN zs vs i k < 2 ^ k
  | 0 => by simp [onN]
  | k + 1 => by
    have ih := onN_lt zs vs i k
    have h1 : 2 ^ k < 2 ^ (k + 1) := Nat.pow_lt_pow_right (by decide) (by omega)
    rw [onN]
    split
    · exact Nat.or_lt_two_pow (by omega) h1
    · omega
/-- The row as a number. -/
def onR (zs vs : List Int) (i k : Nat) : Int := (onN zs vs i k : Int)
theorem onR_zero (zs vs : List Int) (i : Nat) : onR zs vs i 0 = 0 := rfl
theorem onR_yes {zs vs : List Int} {i k : Nat} (h : bt (el zs (el vs i).toNat) (el vs k).toNat = true) : onR zs vs i (k + 1) = por (onR zs vs i k) k := by
  unfold onR por; rw [onN_yes h, Int.toNat_natCast]
theorem onR_no {zs vs : List Int} {i k : Nat} (h : bt (el zs (el vs i).toNat) (el vs k).toNat = false) : onR zs vs i (k + 1) = onR zs vs i k := by
  unfold onR; rw [onN_no h]
theorem onR_bd (zs vs : List Int) (i k m : Nat) (h : k ≤ m) : 0 ≤ onR zs vs i k ∧ onR zs vs i k ≤ 2 ^ m - 1 := by
  have h1 := onN_lt zs vs i k
  have h2 : 2 ^ k ≤ 2 ^ m := Nat.pow_le_pow_right (by decide) h
  have e : ((2 : Int) ^ m) = ((2 ^ m : Nat) : Int) := by simp
  unfold onR
  rw [e]
  omega

/-- The rows of the part. -/
def onL (zs vs : List Int) : List Int := (List.range vs.length).map fun a => onR zs vs a vs.length
theorem onL_length (zs vs : List Int) : (onL zs vs).length = vs.length := by simp [onL]
theorem el_map_range (f : Nat → Int) (m a : Nat) (h : a < m) : el ((List.range m).map f) a = f a := by simp [el, h]
theorem ext_el {L M : List Int} (hl : L.length = M.length) (h : ∀ a, a < L.length → el L a = el M a) : L = M := by
  apply List.ext_getElem hl
  intro i h1 h2
  have := h i h1
  rw [el_lt h1, el_lt h2] at this
  exact this

/-- The rows while the program fills row i from left to right. -/
def onT (zs vs : List Int) (i j : Nat) : List Int := (List.range vs.length).map fun a => if a < i then onR zs vs a vs.length else if a = i then onR zs vs i j else 0
theorem onT_length (zs vs : List Int) (i j : Nat) : (onT zs vs i j).length = vs.length := by simp [onT]
theorem onT_zero (zs vs : List Int) : onT zs vs 0 0 = List.replicate vs.length 0 := by
  refine ext_el (by simp [onT]) fun a ha => ?_
  rw [onT_length] at ha
  rw [onT, el_map_range _ _ _ ha]
  have e : el (List.replicate vs.length (0 : Int)) a = 0 := by simp [el, ha]
  rw [e, if_neg (by omega)]
  split
  · exact onR_zero ..
  · rfl
theorem onT_next (zs vs : List Int) (i : Nat) : onT zs vs i vs.length = onT zs vs (i + 1) 0 := by
  refine ext_el (by simp [onT]) fun a ha => ?_
  rw [onT_length] at ha
  rw [onT, onT, el_map_range _ _ _ ha, el_map_range _ _ _ ha]
  by_cases h1 : a < i
  · rw [if_pos h1, if_pos (by omega)]
  · by_cases h2 : a = i
    · subst h2; rw [if_neg h1, if_pos rfl, if_pos (by omega)]
    · rw [if_neg h1, if_neg h2, if_neg (by omega)]
      split
      · rw [onR_zero]
      · rfl
theorem onT_all (zs vs : List Int) : onT zs vs vs.length 0 = onL zs vs := by
  refine ext_el (by simp [onT, onL]) fun a ha => ?_
  rw [onT_length] at ha
  rw [onT, onL, el_map_range _ _ _ ha, el_map_range _ _ _ ha, if_pos ha]
theorem onT_at (zs vs : List Int) (i j : Nat) (hi : i < vs.length) : el (onT zs vs i j) i = onR zs vs i j := by
  rw [onT, el_map_range _ _ _ hi, if_neg (by omega), if_pos rfl]
theorem onT_set (zs vs : List Int) (i j : Nat) (hi : i < vs.length) : (onT zs vs i j).set i (onR zs vs i (j + 1)) = onT zs vs i (j + 1) := by
  refine ext_el (by simp [onT]) fun a ha => ?_
  rw [List.length_set, onT_length] at ha
  by_cases e : a = i
  · subst e
    rw [el_set_same _ _ _ (by rw [onT_length]; exact ha), onT_at _ _ _ _ ha]
  · rw [el_set_ne _ _ _ _ (fun h => e h.symm), onT, onT, el_map_range _ _ _ ha, el_map_range _ _ _ ha, if_neg e, if_neg e]

/-- The rows while the model puts the edges of row i to the rows before it. -/
def onS (zs vs : List Int) (i k : Nat) : List Int := (List.range vs.length).map fun a => if a < k then onR zs vs a (i + 1) else if a < i then onR zs vs a i else if a = i then onR zs vs i k else 0
theorem onS_length (zs vs : List Int) (i k : Nat) : (onS zs vs i k).length = vs.length := by simp [onS]
theorem onS_zero (zs vs : List Int) : onS zs vs 0 0 = List.replicate vs.length 0 := by
  refine ext_el (by simp [onS]) fun a ha => ?_
  rw [onS_length] at ha
  rw [onS, el_map_range _ _ _ ha]
  have e : el (List.replicate vs.length (0 : Int)) a = 0 := by simp [el, ha]
  rw [e, if_neg (by omega), if_neg (by omega)]
  split
  · exact onR_zero ..
  · rfl
theorem onS_bd (zs vs : List Int) (i k a : Nat) (hk : k ≤ i) (hi : i < vs.length) (ha : a < vs.length) : 0 ≤ el (onS zs vs i k) a ∧ el (onS zs vs i k) a ≤ 2 ^ vs.length - 1 := by
  rw [onS, el_map_range _ _ _ ha]
  have hp := onR_bd zs vs a 0 vs.length (by omega)
  split
  · exact onR_bd zs vs a (i + 1) vs.length (by omega)
  · split
    · exact onR_bd zs vs a i vs.length (by omega)
    · split
      · exact onR_bd zs vs i k vs.length (by omega)
      · rw [onR_zero] at hp; exact hp
theorem onS_next {zs vs : List Int} {i : Nat} (hd : bt (el zs (el vs i).toNat) (el vs i).toNat = false) : onS zs vs i i = onS zs vs (i + 1) 0 := by
  refine ext_el (by simp [onS]) fun a ha => ?_
  rw [onS_length] at ha
  rw [onS, onS, el_map_range _ _ _ ha, el_map_range _ _ _ ha, if_neg (by omega : ¬ a < 0)]
  by_cases h1 : a < i
  · rw [if_pos h1, if_pos (by omega)]
  · rw [if_neg h1, if_neg h1]
    by_cases h2 : a = i
    · subst h2; rw [if_pos rfl, if_pos (by omega), onR_no hd]
    · rw [if_neg h2, if_neg (by omega)]
      split
      · rw [onR_zero]
      · rfl
theorem onS_all (zs vs : List Int) : onS zs vs vs.length 0 = onL zs vs := by
  refine ext_el (by simp [onS, onL]) fun a ha => ?_
  rw [onS_length] at ha
  rw [onS, onL, el_map_range _ _ _ ha, el_map_range _ _ _ ha, if_neg (by omega), if_pos ha]
theorem onS_no {zs vs : List Int} {i k : Nat} (hk : k < i) (h1 : bt (el zs (el vs i).toNat) (el vs k).toNat = false) (h2 : bt (el zs (el vs k).toNat) (el vs i).toNat = false) : onS zs vs i (k + 1) = onS zs vs i k := by
  refine ext_el (by simp [onS]) fun a ha => ?_
  rw [onS_length] at ha
  rw [onS, onS, el_map_range _ _ _ ha, el_map_range _ _ _ ha]
  by_cases a1 : a < k
  · rw [if_pos a1, if_pos (by omega)]
  · rw [if_neg a1]
    by_cases a2 : a = k
    · subst a2; rw [if_pos (by omega), if_pos hk, onR_no h2]
    · rw [if_neg (by omega)]
      by_cases a3 : a < i
      · rw [if_pos a3, if_pos a3]
      · rw [if_neg a3, if_neg a3, onR_no h1]
theorem onS_yes {zs vs : List Int} {i k : Nat} (hk : k < i) (hi : i < vs.length) (h1 : bt (el zs (el vs i).toNat) (el vs k).toNat = true) (h2 : bt (el zs (el vs k).toNat) (el vs i).toNat = true) : putL (onS zs vs i k) i k = onS zs vs i (k + 1) := by
  have ei : el (onS zs vs i k) i = onR zs vs i k := by rw [onS, el_map_range _ _ _ hi, if_neg (by omega), if_neg (by omega), if_pos rfl]
  have ek : el (onS zs vs i k) k = onR zs vs k i := by rw [onS, el_map_range _ _ _ (by omega), if_neg (by omega), if_pos hk]
  unfold putL
  rw [el_set_ne _ _ _ _ (show i ≠ k by omega), ei, ek, ← onR_yes h1, ← onR_yes h2]
  refine ext_el (by simp [onS]) fun a ha => ?_
  rw [List.length_set, List.length_set, onS_length] at ha
  by_cases a2 : a = k
  · subst a2
    rw [el_set_same _ _ _ (by rw [List.length_set, onS_length]; exact ha), onS, el_map_range _ _ _ ha, if_pos (by omega)]
  · rw [el_set_ne _ _ _ _ (fun h => a2 h.symm)]
    by_cases a3 : a = i
    · subst a3
      rw [el_set_same _ _ _ (by rw [onS_length]; exact ha), onS, el_map_range _ _ _ ha, if_neg (by omega), if_neg (by omega), if_pos rfl]
    · rw [el_set_ne _ _ _ _ (fun h => a3 h.symm), onS, onS, el_map_range _ _ _ ha, el_map_range _ _ _ ha]
      by_cases a1 : a < k
      · rw [if_pos a1, if_pos (by omega)]
      · have a5 : ¬ a < k + 1 := by omega
        rw [if_neg a1, if_neg a5, if_neg a3, if_neg a3]

/-- The least number that may stand at place k of an ascending list. -/
def ascB (vs : List Int) : Nat → Int
  | 0 => 0
  | k + 1 => el vs k + 1
/-- The first k numbers ascend and are vertices. -/
def ascTo (n : Int) (vs : List Int) (k : Nat) : Bool := (List.range k).all fun i => decide (ascB vs i ≤ el vs i) && decide (el vs i < n)
theorem ascTo_succ (n : Int) (vs : List Int) (k : Nat) : ascTo n vs (k + 1) = (ascTo n vs k && (decide (ascB vs k ≤ el vs k) && decide (el vs k < n))) := by
  unfold ascTo; rw [List.range_succ, List.all_append]; simp
theorem ascTo_at {n : Int} {vs : List Int} {k i : Nat} (h : ascTo n vs k = true) (hi : i < k) : ascB vs i ≤ el vs i ∧ el vs i < n := by
  unfold ascTo at h
  have := List.all_eq_true.1 h i (List.mem_range.2 hi)
  simpa using this
theorem ascTo_no {n : Int} {vs : List Int} {k m : Nat} (hk : k < m) (h : ¬ (ascB vs k ≤ el vs k ∧ el vs k < n)) : ascTo n vs m = false := by
  cases e : ascTo n vs m with
  | false => rfl
  | true => exact absurd (ascTo_at e hk) h
theorem ascTo_ge {n : Int} {vs : List Int} {k : Nat} (h : ascTo n vs k = true) : ∀ i, i < k → (i : Int) ≤ el vs i
  | 0, hi => (ascTo_at h hi).1
  | i + 1, hi => by
    have h1 := (ascTo_at h hi).1
    have h2 := ascTo_ge h i (by omega)
    rw [ascB] at h1
    omega
theorem ascTo_len {n : Int} {vs : List Int} (h : ascTo n vs vs.length = true) (h0 : 0 ≤ n) : (vs.length : Int) ≤ n := by
  by_cases e : vs.length = 0
  · omega
  · have h1 := ascTo_ge h (vs.length - 1) (by omega)
    have h2 := (ascTo_at h (show vs.length - 1 < vs.length by omega)).2
    omega

end Go.Proofs.YtlodaeoikkjbkaaDoor
