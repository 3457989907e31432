/-
  Rows made of the images of neighbours: plain facts.
-/
import Derived.Test.YtlodaeoikkjbkaaDoorLd
import Derived.Test.YtlodaeoikkjbkaaDoorDeg
namespace Go.Proofs.YtlodaeoikkjbkaaDoor
set_option maxRecDepth 100000
open Go.RowKit

/-- The row of a list of places. -/
def orL (l : List Nat) : Nat := l.foldl (fun a p => a ||| 2 ^ p) 0
theorem orL_snoc (l : List Nat) (p : Nat) : orL (l ++ [p]) = orL l ||| 2 ^ p := by unfold orL; rw [List.foldl_append]; rfl
theorem orL_lt {l : List Nat} {m : Nat} (h : ∀ p, p ∈ l → p < m) : orL l < 2 ^ m := by
  have key : ∀ (l : List Nat) (a : Nat), (∀ p, p ∈ l → p < m) → a < 2 ^ m → l.foldl (fun a p => a ||| 2 ^ p) a < 2 ^ m := by
    intro l
    induction l with
    | nil => intro a _ ha; exact ha
    | cons q l ih =>
      intro a hl ha
      exact ih _ (fun p hp => hl p (List.mem_cons_of_mem _ hp)) (Nat.or_lt_two_pow ha (Nat.pow_lt_pow_right (by decide) (hl q List.mem_cons_self)))
  exact key l 0 h (Nat.two_pow_pos m)
theorem one_len (f : Nat → Bool) (m : Nat) : ([m].filter f).length = if f m then 1 else 0 := by cases h : f m <;> simp [h]
theorem pc_or_pow (a p : Nat) (hp : p < 64) : pc (a ||| 2 ^ p) = pc a + if a.testBit p then 0 else 1 := by
  have key : ∀ m, ((List.range m).filter fun j => (a ||| 2 ^ p).testBit j).length = ((List.range m).filter fun j => a.testBit j).length + if p < m ∧ a.testBit p = false then 1 else 0 := by
    intro m
    induction m with
    | zero => simp
    | succ m ih =>
      rw [List.range_succ, List.filter_append, List.filter_append, List.length_append, List.length_append, ih, one_len, one_len]
      have hb : (a ||| 2 ^ p).testBit m = (a.testBit m || decide (p = m)) := by rw [Nat.testBit_or, Nat.testBit_two_pow]
      rw [hb]
      by_cases e : p = m
      · subst e
        cases hap : a.testBit p <;> simp
      · rw [decide_eq_false e, Bool.or_false]
        have h1 : (p < m + 1 ∧ a.testBit p = false) ↔ (p < m ∧ a.testBit p = false) := by constructor <;> (rintro ⟨h, k⟩; exact ⟨by omega, k⟩)
        simp only [h1]
        omega
  have := key 64
  unfold pc
  rw [pcF_filter, pcF_filter, this]
  cases a.testBit p <;> simp [hp]
theorem pc_take {l : List Nat} (h : ∀ p, p ∈ l → p < 64) : ∀ k, k ≤ l.length → pc (orL (l.take k)) ≤ k
  | 0, _ => by simp [orL, pc, pcF_zero]
  | k + 1, hk => by
    have hlt : k < l.length := by omega
    have e : l.take (k + 1) = l.take k ++ [l[k]] := by rw [List.take_add_one, List.getElem?_eq_getElem hlt]; rfl
    rw [e, orL_snoc, pc_or_pow _ _ (h _ (List.getElem_mem hlt))]
    have := pc_take h k (by omega)
    split <;> omega
theorem pc_orL_le {l : List Nat} (h : ∀ p, p ∈ l → p < 64) : pc (orL l) ≤ l.length := by
  have := pc_take h l.length (Nat.le_refl _)
  rw [List.take_length] at this; exact this
theorem and_pow_bit (a p : Nat) : a &&& 2 ^ p = if a.testBit p then 2 ^ p else 0 := by
  apply Nat.eq_of_testBit_eq
  intro i
  rw [Nat.testBit_and, Nat.testBit_two_pow]
  by_cases e : p = i
  · subst e
    cases h : a.testBit p <;> simp
  · rw [decide_eq_false e, Bool.and_false]
    cases h : a.testBit p with
    | true => rw [if_pos rfl, Nat.testBit_two_pow, decide_eq_false e]
    | false => rw [if_neg (by simp), Nat.zero_testBit]
/-- The places of the neighbours of v, told by vs. -/
def imgL (zs vs : List Int) (v : Nat) : List Nat := (nbN zs v).map fun w => (el vs w).toNat
theorem imgL_length (zs vs : List Int) (v : Nat) : (imgL zs vs v).length = (nbN zs v).length := by simp [imgL]
theorem imgL_lt {zs vs : List Int} {n1 : Int} {v : Nat} (hl : vs.length = zs.length) (h : vsOk n1 vs vs.length = true) (h62 : n1 ≤ 62) : ∀ p, p ∈ imgL zs vs v → p < 62 := by
  intro p hp
  unfold imgL at hp
  obtain ⟨w, hw, rfl⟩ := List.mem_map.1 hp
  have hwl := (nbN_mem.1 hw).1
  unfold vsOk at h
  rw [List.all_eq_true] at h
  have := h w (List.mem_range.2 (by omega))
  simp at this
  omega
/-- Whether the neighbours of v go to just those of its place, each once. -/
def goodB (zs hs vs : List Int) (v : Nat) : Bool := decide (((orL (imgL zs vs v) : Nat) : Int) = el hs (el vs v).toNat) && decide (pc (orL (imgL zs vs v)) = dg zs v)
theorem dg_nbN {zs : List Int} {v : Nat} (h : (el zs v).toNat < 2 ^ zs.length) (h62 : zs.length ≤ 62) : dg zs v = (nbN zs v).length := by
  unfold dg nbN
  rw [pc_few h (by omega)]; rfl
theorem dup_bad {l : List Nat} {k : Nat} (h : ∀ p, p ∈ l → p < 64) (hk : k < l.length) (hd : (orL (l.take k)).testBit l[k] = true) : pc (orL l) < l.length := by
  have key : ∀ j, k + 1 + j ≤ l.length → pc (orL (l.take (k + 1 + j))) ≤ k + j := by
    intro j
    induction j with
    | zero =>
      intro _
      have e : l.take (k + 1) = l.take k ++ [l[k]] := by rw [List.take_add_one, List.getElem?_eq_getElem hk]; rfl
      rw [Nat.add_zero, e, orL_snoc, pc_or_pow _ _ (h _ (List.getElem_mem hk)), hd, if_pos rfl]
      have := pc_orL_le (l := l.take k) (fun p hp => h p (List.mem_of_mem_take hp))
      rw [List.length_take] at this
      omega
    | succ j ih =>
      intro hj
      have hlt : k + 1 + j < l.length := by omega
      have e : l.take (k + 1 + j + 1) = l.take (k + 1 + j) ++ [l[k + 1 + j]] := by rw [List.take_add_one, List.getElem?_eq_getElem hlt]; rfl
      rw [← Nat.add_assoc, e, orL_snoc, pc_or_pow _ _ (h _ (List.getElem_mem hlt))]
      have := ih (by omega)
      split <;> omega
  have := key (l.length - (k + 1)) (by omega)
  rw [show k + 1 + (l.length - (k + 1)) = l.length by omega, List.take_length] at this
  omega
theorem nodup_good {l : List Nat} (h : ∀ p, p ∈ l → p < 64) : ∀ k, k ≤ l.length → (∀ j (hj : j < l.length), j < k → (orL (l.take j)).testBit l[j] = false) → pc (orL (l.take k)) = k
  | 0, _, _ => by simp [orL, pc, pcF_zero]
  | k + 1, hk, hn => by
    have hlt : k < l.length := by omega
    have e : l.take (k + 1) = l.take k ++ [l[k]] := by rw [List.take_add_one, List.getElem?_eq_getElem hlt]; rfl
    rw [e, orL_snoc, pc_or_pow _ _ (h _ (List.getElem_mem hlt)), hn k hlt (by omega), nodup_good h k (by omega) (fun j hj hjk => hn j hj (by omega))]
    rfl
/-- Whether a list is a cover, and the code. -/
def allGood (zs hs vs : List Int) (k : Nat) : Bool := (List.range k).all fun v => goodB zs hs vs v
theorem allGood_succ (zs hs vs : List Int) (k : Nat) : allGood zs hs vs (k + 1) = (allGood zs hs vs k && goodB zs hs vs k) := by
  unfold allGood; rw [List.range_succ, List.all_append]; simp
theorem allGood_no {zs hs vs : List Int} {v k : Nat} (hv : v < k) (h : goodB zs hs vs v = false) : allGood zs hs vs k = false := by
  cases ha : allGood zs hs vs k with
  | false => rfl
  | true =>
    unfold allGood at ha
    rw [List.all_eq_true] at ha
    have := ha v (List.mem_range.2 hv)
    rw [h] at this; cases this
def ivC (n0 n1 : Int) (zs hs vs : List Int) : Int := if isG n0 zs && isG n1 hs then (if decide ((vs.length : Int) = n0) && vsOk n1 vs vs.length then 0 else 2) else 1
def ivD (n0 n1 : Int) (zs hs vs : List Int) : Bool := isG n0 zs && isG n1 hs && (decide ((vs.length : Int) = n0) && vsOk n1 vs vs.length) && allGood zs hs vs zs.length
end Go.Proofs.YtlodaeoikkjbkaaDoor
