/-
  Words of Kautz and of de Bruijn: plain facts.
-/
import Derived.Test.YtkflcjhoghiffaaDoorLg1
import Derived.Test.YtkflcjhoghiffaaDoorKzm
namespace Go.Proofs.YtkflcjhoghiffaaDoor
set_option maxRecDepth 100000
set_option maxRecDepth 100000
open Go.RowKit

/-- The numbers that may stand behind a word. -/
def nxt (kz : Bool) (m : Nat) (t : List Int) : List Nat := (List.range m).filter fun y => !(kz && (t.getLast? == some (y : Int)))
def extK (kz : Bool) (m : Nat) (t : List Int) : List (List Int) := (nxt kz m t).map fun y : Nat => t ++ [(y : Int)]
/-- The words of so many numbers, as the program makes them. -/
def kwL (kz : Bool) (m : Nat) : Nat → List (List Int)
  | 0 => [[]]
  | j + 1 => (kwL kz m j).flatMap (extK kz m)
/-- The words that begin with b and have n numbers more, as the model makes them. -/
def spL (kz : Bool) (m : Nat) : Nat → List Int → List (List Int)
  | 0, b => [b]
  | n + 1, b => (extK kz m b).flatMap (spL kz m n)
theorem sp_kw (kz : Bool) (m : Nat) : ∀ n j, (kwL kz m j).flatMap (spL kz m n) = kwL kz m (j + n)
  | 0, j => by
    have : spL kz m 0 = fun b => [b] := rfl
    rw [this]
    simp
  | n + 1, j => by
    have : spL kz m (n + 1) = fun b => (extK kz m b).flatMap (spL kz m n) := rfl
    rw [this, ← List.flatMap_assoc]
    have h := sp_kw kz m n (j + 1)
    rw [show j + 1 + n = j + (n + 1) by omega] at h
    exact h
theorem sp_all (kz : Bool) (m n : Nat) : spL kz m n [] = kwL kz m n := by
  have := sp_kw kz m n 0
  rw [show kwL kz m 0 = [[]] from rfl] at this
  simpa using this

theorem kw_mem {kz : Bool} {m : Nat} : ∀ {j : Nat} {t : List Int}, t ∈ kwL kz m j → t.length = j ∧ ∀ x, x ∈ t → 0 ≤ x ∧ x < m
  | 0, t, h => by simp [kwL] at h; subst h; simp
  | j + 1, t, h => by
    rw [kwL, List.mem_flatMap] at h
    obtain ⟨s, hs, h⟩ := h
    unfold extK at h
    rw [List.mem_map] at h
    obtain ⟨y, hy, rfl⟩ := h
    obtain ⟨h1, h2⟩ := kw_mem hs
    have hy' := List.mem_range.1 (List.mem_filter.1 hy).1
    refine ⟨by simp [h1], fun x hx => ?_⟩
    rcases List.mem_append.1 hx with hx | hx
    · exact h2 x hx
    · rw [List.mem_singleton] at hx; subst hx; omega
theorem kw_last {kz : Bool} {m j : Nat} {t : List Int} (h : t ∈ kwL kz m (j + 1)) : ∃ l : Nat, l < m ∧ t.getLast? = some (l : Int) := by
  obtain ⟨h1, h2⟩ := kw_mem h
  cases e : t.getLast? with
  | none => rw [List.getLast?_eq_none_iff] at e; subst e; simp at h1
  | some x =>
    obtain ⟨h3, h4⟩ := h2 x (List.mem_of_getLast? e)
    exact ⟨x.toNat, by omega, by rw [Int.toNat_of_nonneg h3]⟩
theorem nxt_last {m l : Nat} {t : List Int} (h : t.getLast? = some (l : Int)) : nxt true m t = (List.range m).filter fun y => !(y == l) := by
  unfold nxt
  rw [h]
  congr 1
  funext y
  by_cases e : y = l
  · subst e; simp
  · have e2 : ¬ (l : Int) = (y : Int) := by omega
    have a : ((l : Int) == (y : Int)) = false := beq_eq_false_iff_ne.2 e2
    have b : (y == l) = false := beq_eq_false_iff_ne.2 e
    rw [show (some (l : Int) == some (y : Int)) = ((l : Int) == (y : Int)) from rfl, a, b]
    rfl
theorem nxt_free (m : Nat) (t : List Int) : nxt false m t = List.range m := by unfold nxt; simp
theorem nxt_nil (kz : Bool) (m : Nat) : nxt kz m [] = List.range m := by unfold nxt; simp
theorem but_length : ∀ (m l : Nat), l < m → ((List.range m).filter fun y => !(y == l)).length = m - 1 := by
  intro m
  induction m with
  | zero => intro l h; omega
  | succ m ih =>
    intro l h
    rw [List.range_succ, List.filter_append, List.length_append]
    by_cases e : l = m
    · subst e
      have : (List.range l).filter (fun y => !(y == l)) = List.range l := List.filter_eq_self.2 fun y hy => by have := List.mem_range.1 hy; simp; omega
      rw [this]
      simp
    · rw [ih l (by omega)]
      have : ¬ m = l := fun h => e h.symm
      simp [this]
      omega
theorem flat_const {f : List Int → List (List Int)} {c : Nat} : ∀ T : List (List Int), (∀ t, t ∈ T → (f t).length = c) → (T.flatMap f).length = T.length * c
  | [], _ => by simp
  | t :: T, h => by
    rw [List.flatMap_cons, List.length_append, h t (List.mem_cons_self ..), flat_const T fun t ht => h t (List.mem_cons_of_mem _ ht), List.length_cons, Nat.add_mul]
    omega
theorem kw_len_free (m : Nat) : ∀ j, (kwL false m j).length = m ^ j
  | 0 => by simp [kwL]
  | j + 1 => by
    rw [kwL, flat_const (c := m) _ fun t _ => by unfold extK; rw [nxt_free]; simp, kw_len_free m j, Nat.pow_succ]
theorem kw_len (m : Nat) : ∀ j, (kwL true m (j + 1)).length = m * (m - 1) ^ j
  | 0 => by
    rw [kwL, show kwL true m 0 = [[]] from rfl]
    simp [extK, nxt_nil]
  | j + 1 => by
    rw [kwL, flat_const (c := m - 1) _ fun t ht => by
      obtain ⟨l, hl, e⟩ := kw_last ht
      unfold extK; rw [nxt_last e, List.length_map, but_length m l hl], kw_len m j, Nat.pow_succ, Nat.mul_assoc]

/-- The row of the numbers that may stand behind a word. -/
def kF (kz : Bool) (m : Nat) (t : List Int) : Nat := match kz, t.getLast? with
  | true, some l => 2 ^ m - 1 - 2 ^ l.toNat
  | _, _ => 2 ^ m - 1
theorem kF_ext {kz : Bool} {m : Nat} {t : List Int} (hm : m ≤ 62) (ht : t = [] ∨ ∃ l : Nat, l < m ∧ t.getLast? = some (l : Int)) : extF (kF kz m) t = extK kz m t := by
  have h : mem (kF kz m t) = nxt kz m t := by
    cases kz
    · rw [nxt_free]
      exact mem_fullK ⟨m, by omega⟩
    · rcases ht with rfl | ⟨l, hl, e⟩
      · rw [nxt_nil]
        exact mem_fullK ⟨m, by omega⟩
      · rw [nxt_last e]
        have h := mem_but ⟨m, by omega⟩ ⟨l, by omega⟩ hl
        unfold kF
        rw [e]
        exact h
  unfold extF extK
  rw [h]
theorem kF_lt (kz : Bool) (m : Nat) (t : List Int) : kF kz m t < 2 ^ m := by
  have := Nat.two_pow_pos m
  unfold kF
  split
  · exact Nat.lt_of_le_of_lt (Nat.sub_le _ _) (by omega)
  · omega
theorem elS_mem {T : List (List Int)} {i : Nat} (h : i < T.length) : elS T i ∈ T := by
  unfold elS
  rw [List.getD_eq_getElem?_getD, List.getElem?_eq_getElem h]
  exact List.getElem_mem _
theorem kw_flat {kz : Bool} {m : Nat} (hm : m ≤ 62) (j : Nat) : (kwL kz m j).flatMap (extF (kF kz m)) = kwL kz m (j + 1) := by
  rw [kwL]
  have : ∀ T : List (List Int), (∀ t, t ∈ T → t = [] ∨ ∃ l : Nat, l < m ∧ t.getLast? = some (l : Int)) → T.flatMap (extF (kF kz m)) = T.flatMap (extK kz m) := by
    intro T
    induction T with
    | nil => intro _; rfl
    | cons t T ih =>
      intro h
      rw [List.flatMap_cons, List.flatMap_cons, kF_ext hm (h t (List.mem_cons_self ..)), ih fun t ht => h t (List.mem_cons_of_mem _ ht)]
  refine this _ fun t ht => ?_
  cases j with
  | zero => simp [kwL] at ht; exact .inl ht
  | succ j => exact .inr (kw_last ht)
theorem sp_pos (kz : Bool) (m : Nat) (hm : 1 ≤ m) (hz : kz = true → 2 ≤ m) : ∀ n b, 0 < (spL kz m n b).length
  | 0, b => by simp [spL]
  | n + 1, b => by
    have h : nxt kz m b ≠ [] := by
      intro e
      by_cases e0 : kz = true ∧ b.getLast? = some 0
      · have : 1 ∈ nxt kz m b := by
          unfold nxt
          rw [List.mem_filter]
          refine ⟨List.mem_range.2 (by have := hz e0.1; omega), ?_⟩
          rw [e0.2]
          simp
        rw [e] at this
        cases this
      · have : 0 ∈ nxt kz m b := by
          unfold nxt
          rw [List.mem_filter]
          refine ⟨List.mem_range.2 (by omega), ?_⟩
          cases kz
          · rfl
          · have : ¬ b.getLast? = some 0 := fun h => e0 ⟨rfl, h⟩
            simpa using this
        rw [e] at this
        cases this
    obtain ⟨y, l, e⟩ := List.exists_cons_of_ne_nil h
    rw [spL]
    unfold extK
    rw [e, List.map_cons, List.flatMap_cons, List.length_append]
    have := sp_pos kz m hm hz n (b ++ [(y : Int)])
    omega
end Go.Proofs.YtkflcjhoghiffaaDoor
