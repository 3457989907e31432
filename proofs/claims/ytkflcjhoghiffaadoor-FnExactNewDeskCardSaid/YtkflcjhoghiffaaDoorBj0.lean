/-
  Word digraphs: plain facts (words in order, which word follows which).
-/
import Derived.Test.YtkflcjhoghiffaaDoorKz0
import Derived.Test.YtkflcjhoghiffaaDoorEd
namespace Go.Proofs.YtkflcjhoghiffaaDoor
set_option maxRecDepth 100000
set_option maxRecDepth 100000
open Go.RowKit

/-- The order of two lists of one length. -/
def cmpL : List Int → List Int → Int
  | x :: xs, y :: ys => if x < y then -1 else if y < x then 1 else cmpL xs ys
  | _, _ => 0
theorem cmpL_self : ∀ xs, cmpL xs xs = 0
  | [] => rfl
  | x :: xs => by rw [cmpL, if_neg (Int.lt_irrefl x), if_neg (Int.lt_irrefl x)]; exact cmpL_self xs
theorem cmpL_swap : ∀ xs ys, cmpL ys xs = - cmpL xs ys
  | [], [] => rfl
  | [], _ :: _ => rfl
  | _ :: _, [] => rfl
  | x :: xs, y :: ys => by
    rw [cmpL, cmpL]
    by_cases h1 : x < y
    · rw [if_neg (by omega), if_pos h1, if_pos h1]; rfl
    · by_cases h2 : y < x
      · rw [if_pos h2, if_neg h1, if_pos h2]
      · rw [if_neg h2, if_neg h1, if_neg h1, if_neg h2]; exact cmpL_swap xs ys
theorem cmpL_pre : ∀ p xs ys, cmpL (p ++ xs) (p ++ ys) = cmpL xs ys
  | [], _, _ => rfl
  | x :: p, xs, ys => by
    rw [List.cons_append, List.cons_append, cmpL, if_neg (Int.lt_irrefl x), if_neg (Int.lt_irrefl x)]
    exact cmpL_pre p xs ys
theorem cmpL_app : ∀ {xs ys us vs : List Int}, cmpL xs ys = -1 → cmpL (xs ++ us) (ys ++ vs) = -1
  | [], [], _, _, h => by simp [cmpL] at h
  | [], _ :: _, _, _, h => by simp [cmpL] at h
  | _ :: _, [], _, _, h => by simp [cmpL] at h
  | x :: xs, y :: ys, us, vs, h => by
    rw [List.cons_append, List.cons_append, cmpL]
    rw [cmpL] at h
    by_cases h1 : x < y
    · rw [if_pos h1]
    · rw [if_neg h1] at h ⊢
      by_cases h2 : y < x
      · rw [if_pos h2] at h; cases h
      · rw [if_neg h2] at h ⊢
        exact cmpL_app h
theorem kw_sorted (kz : Bool) (m : Nat) : ∀ j, (kwL kz m j).Pairwise fun s t => cmpL s t = -1
  | 0 => by simp [kwL]
  | j + 1 => by
    rw [kwL, List.pairwise_flatMap]
    refine ⟨fun v _ => ?_, (kw_sorted kz m j).imp fun {s t} h x hx y hy => ?_⟩
    · unfold extK
      rw [List.pairwise_map]
      refine (List.pairwise_lt_range.filter _).imp fun {a b} h => ?_
      rw [cmpL_pre, cmpL, if_pos (by omega)]
    · unfold extK at hx hy
      obtain ⟨a, _, rfl⟩ := List.mem_map.1 hx
      obtain ⟨b, _, rfl⟩ := List.mem_map.1 hy
      exact cmpL_app h
theorem elS_get {T : List (List Int)} {i : Nat} (h : i < T.length) : elS T i = T[i] := by
  unfold elS; rw [List.getD_eq_getElem?_getD, List.getElem?_eq_getElem h]; rfl
/-- Lists in order, each before the next. -/
def Srt (T : List (List Int)) : Prop := ∀ i j, i < j → j < T.length → cmpL (elS T i) (elS T j) = -1
theorem kw_srt (kz : Bool) (m j : Nat) : Srt (kwL kz m j) := fun a b hab hb => by
  have h := List.pairwise_iff_getElem.1 (kw_sorted kz m j) a b (by omega) hb hab
  rw [elS_get (by omega), elS_get hb]
  exact h
theorem Srt.inj {T : List (List Int)} (h : Srt T) {i j : Nat} (hi : i < T.length) (hj : j < T.length) (e : elS T i = elS T j) : i = j := by
  rcases Nat.lt_trichotomy i j with h1 | h1 | h1
  · have := h i j h1 hj; rw [e, cmpL_self] at this; cases this
  · exact h1
  · have := h j i h1 hi; rw [e, cmpL_self] at this; cases this
theorem Srt.lt {T : List (List Int)} (h : Srt T) {i j : Nat} (hi : i < T.length) (hj : j < T.length) : cmpL (elS T i) (elS T j) = if i < j then -1 else if j < i then 1 else 0 := by
  rcases Nat.lt_trichotomy i j with h1 | h1 | h1
  · rw [if_pos h1]; exact h i j h1 hj
  · subst h1; rw [if_neg (Nat.lt_irrefl i), if_neg (Nat.lt_irrefl i)]; exact cmpL_self _
  · rw [if_neg (by omega), if_pos h1, cmpL_swap, h j i h1 hi]; rfl

/-- The numbers of a word but the first are the first ones of another. -/
def fol (s t : List Int) : Bool := decide (s.drop 1 = t.take (s.length - 1))
def flw (kz : Bool) (s t : List Int) : Bool := fol s t && !(kz && (s.getLast? == t.getLast?))
/-- The arcs between words. -/
def arcF (kz : Bool) (T : List (List Int)) (v w : Nat) : Bool := flw kz (elS T v) (elS T w)

theorem kw_split {kz : Bool} {m j : Nat} {t : List Int} (h : t ∈ kwL kz m (j + 1)) : ∃ (s : List Int) (b : Nat), s ∈ kwL kz m j ∧ b < m ∧ (kz = true → s.getLast? ≠ some (b : Int)) ∧ t = s ++ [(b : Int)] := by
  rw [kwL, List.mem_flatMap] at h
  obtain ⟨s, hs, h⟩ := h
  unfold extK at h
  obtain ⟨b, hb, rfl⟩ := List.mem_map.1 h
  unfold nxt at hb
  rw [List.mem_filter] at hb
  refine ⟨s, b, hs, List.mem_range.1 hb.1, fun hz e => ?_, rfl⟩
  have := hb.2
  rw [hz, e] at this
  simp at this
theorem kw_join {kz : Bool} {m j b : Nat} {s : List Int} (hs : s ∈ kwL kz m j) (hb : b < m) (hz : kz = true → s.getLast? ≠ some (b : Int)) : s ++ [(b : Int)] ∈ kwL kz m (j + 1) := by
  rw [kwL, List.mem_flatMap]
  refine ⟨s, hs, ?_⟩
  unfold extK
  refine List.mem_map.2 ⟨b, ?_, rfl⟩
  unfold nxt
  rw [List.mem_filter]
  refine ⟨List.mem_range.2 hb, ?_⟩
  cases kz
  · rfl
  · have := hz rfl
    simpa using this
theorem last_drop {s : List Int} (h : 2 ≤ s.length) : (s.drop 1).getLast? = s.getLast? := by
  rw [List.getLast?_drop, if_neg (by omega)]
theorem kw_drop {kz : Bool} {m : Nat} : ∀ {j : Nat} {t : List Int}, t ∈ kwL kz m (j + 1 + 1) → t.drop 1 ∈ kwL kz m (j + 1)
  | 0, t, h => by
    obtain ⟨s, b, hs, hb, _, rfl⟩ := kw_split h
    have hl := (kw_mem hs).1
    have : (s ++ [(b : Int)]).drop 1 = [] ++ [(b : Int)] := by
      rw [List.drop_append_of_le_length (by omega), List.drop_of_length_le (by omega)]
    rw [this]
    exact kw_join (j := 0) (by simp [kwL]) hb (fun _ => by simp)
  | j + 1, t, h => by
    obtain ⟨s, b, hs, hb, hz, rfl⟩ := kw_split h
    have hl := (kw_mem hs).1
    rw [List.drop_append_of_le_length (by omega)]
    exact kw_join (kw_drop hs) hb (fun e => by rw [last_drop (by omega)]; exact hz e)
theorem kw_take {kz : Bool} {m j : Nat} {t : List Int} (h : t ∈ kwL kz m (j + 1)) : t.take j ∈ kwL kz m j := by
  obtain ⟨s, b, hs, _, _, rfl⟩ := kw_split h
  have hl := (kw_mem hs).1
  rw [List.take_append_of_le_length (by omega), List.take_of_length_le (by omega)]
  exact hs
theorem mem_el {T : List (List Int)} {s : List Int} (h : s ∈ T) : ∃ i, i < T.length ∧ elS T i = s := by
  obtain ⟨i, hi, e⟩ := List.getElem_of_mem h
  exact ⟨i, hi, by rw [elS_get hi]; exact e⟩

/-- The arcs that the first x longer words make. -/
def prF (k : Nat) (T U : List (List Int)) (x : Nat) (v w : Nat) : Bool := (List.range x).any fun y => decide ((elS U y).take k = elS T v) && decide ((elS U y).drop 1 = elS T w)
theorem prF_zero (k : Nat) (T U : List (List Int)) (n : Nat) : rowsF n (prF k T U 0) = List.replicate n 0 := by
  rw [← rowsF_none]
  exact rowsF_congr fun v w _ _ => rfl
theorem prF_step {k x i j : Nat} {T U : List (List Int)} (hT : Srt T) (hi : i < T.length) (hj : j < T.length) (h1 : (elS U x).take k = elS T i) (h2 : (elS U x).drop 1 = elS T j) : put1 (rowsF T.length (prF k T U x)) i j = rowsF T.length (prF k T U (x + 1)) := by
  rw [put1_rows _ _ _ _ hj]
  refine rowsF_congr fun v w hv hw => ?_
  unfold half prF
  rw [List.range_succ, List.any_append, List.any_cons, List.any_nil, Bool.or_false, h1, h2]
  congr 1
  have e1 : decide (elS T i = elS T v) = (v == i) := by
    by_cases e : v = i
    · subst e; simp
    · rw [beq_eq_false_iff_ne.2 e]
      exact decide_eq_false fun h => e (hT.inj hi hv h).symm
  have e2 : decide (elS T j = elS T w) = (w == j) := by
    by_cases e : w = j
    · subst e; simp
    · rw [beq_eq_false_iff_ne.2 e]
      exact decide_eq_false fun h => e (hT.inj hj hw h).symm
  rw [e1, e2]
theorem prF_all (kz : Bool) (m k : Nat) : rowsF (kwL kz m (k + 1)).length (prF (k + 1) (kwL kz m (k + 1)) (kwL kz m (k + 1 + 1)) (kwL kz m (k + 1 + 1)).length) = rowsF (kwL kz m (k + 1)).length (arcF kz (kwL kz m (k + 1))) := by
  refine rowsF_congr fun v w hv hw => ?_
  obtain ⟨T, hT⟩ : ∃ T, T = kwL kz m (k + 1) := ⟨_, rfl⟩
  obtain ⟨U, hU⟩ : ∃ U, U = kwL kz m (k + 1 + 1) := ⟨_, rfl⟩
  rw [← hT] at hv hw
  rw [← hT, ← hU]
  have hvm : elS T v ∈ kwL kz m (k + 1) := by rw [← hT]; exact elS_mem hv
  have hwm : elS T w ∈ kwL kz m (k + 1) := by rw [← hT]; exact elS_mem hw
  have hvl := (kw_mem hvm).1
  have hwl := (kw_mem hwm).1
  rw [Bool.eq_iff_iff]
  constructor
  · intro h
    unfold prF at h
    rw [List.any_eq_true] at h
    obtain ⟨y, hy, h⟩ := h
    have hy' := List.mem_range.1 hy
    have hm : elS U y ∈ kwL kz m (k + 1 + 1) := by rw [← hU]; exact elS_mem hy'
    simp only [Bool.and_eq_true, decide_eq_true_eq] at h
    obtain ⟨h1, h2⟩ := h
    obtain ⟨s, b, hs, hb, hz, e⟩ := kw_split hm
    have hsl := (kw_mem hs).1
    rw [e, List.take_append_of_le_length (by omega), List.take_of_length_le (by omega)] at h1
    rw [e, List.drop_append_of_le_length (by omega)] at h2
    unfold arcF flw
    rw [← h1, ← h2]
    have hlast : (s.drop 1 ++ [(b : Int)]).getLast? = some (b : Int) := by simp
    have hf : fol s (s.drop 1 ++ [(b : Int)]) = true := by
      unfold fol
      rw [decide_eq_true_eq, List.take_append_of_le_length (by rw [List.length_drop]; omega), List.take_of_length_le (by rw [List.length_drop]; omega)]
    rw [hf, hlast]
    cases kz
    · rfl
    · have := hz rfl
      simpa using this
  · intro h
    unfold arcF flw at h
    simp only [Bool.and_eq_true] at h
    obtain ⟨h1, h2⟩ := h
    unfold fol at h1
    rw [decide_eq_true_eq, hvl, Nat.add_sub_cancel] at h1
    obtain ⟨b, hb, hlast⟩ := kw_last hwm
    have hz : kz = true → (elS T v).getLast? ≠ some (b : Int) := fun e e2 => by
      rw [e, e2, hlast] at h2
      simp at h2
    have hj := kw_join hvm hb hz
    rw [← hU] at hj
    obtain ⟨y, hy, e⟩ := mem_el hj
    unfold prF
    rw [List.any_eq_true]
    refine ⟨y, List.mem_range.2 hy, ?_⟩
    rw [e]
    simp only [Bool.and_eq_true, decide_eq_true_eq]
    refine ⟨by rw [List.take_append_of_le_length (by omega), List.take_of_length_le (by omega)], ?_⟩
    rw [List.drop_append_of_le_length (by omega), h1]
    obtain ⟨ys, hys⟩ := List.getLast?_eq_some_iff.1 hlast
    have hyl : ys.length = k := by have := congrArg List.length hys; simp at this; omega
    rw [hys, List.take_append_of_le_length (by omega), List.take_of_length_le (by omega)]

/-- The rows while the model goes over them. -/
def spF (f : Nat → Nat → Bool) (i j : Nat) (v w : Nat) : Bool := (decide (v < i) || (v == i && decide (w < j))) && f v w
theorem spF_zero (f : Nat → Nat → Bool) (n : Nat) : rowsF n (spF f 0 0) = List.replicate n 0 := by
  rw [← rowsF_none]
  exact rowsF_congr fun v w _ _ => by simp [spF]
theorem spF_row (f : Nat → Nat → Bool) (n i : Nat) : rowsF n (spF f i n) = rowsF n (spF f (i + 1) 0) := rowsF_congr fun v w _ hw => by
  unfold spF
  congr 1
  by_cases e : v = i
  · subst e; simp [hw]
  · have : (v < i + 1) = (v < i) := by rw [eq_iff_iff]; omega
    simp [e, this]
theorem spF_all (f : Nat → Nat → Bool) (n : Nat) : rowsF n (spF f n 0) = rowsF n f := rowsF_congr fun v w hv _ => by simp [spF, hv]
theorem spF_no {f : Nat → Nat → Bool} {n i j : Nat} (h : f i j = false) : rowsF n (spF f i (j + 1)) = rowsF n (spF f i j) := rowsF_congr fun v w _ _ => by
  unfold spF
  by_cases e : v = i
  · by_cases e2 : w = j
    · subst e; subst e2; simp [h]
    · have : decide (w < j + 1) = decide (w < j) := by rw [decide_eq_decide]; omega
      rw [this]
  · rw [beq_eq_false_iff_ne.2 e]; rfl
theorem spF_yes {f : Nat → Nat → Bool} {n i j : Nat} (hj : j < n) (h : f i j = true) : put1 (rowsF n (spF f i j)) i j = rowsF n (spF f i (j + 1)) := by
  rw [put1_rows _ _ _ _ hj]
  refine rowsF_congr fun v w _ _ => ?_
  unfold half spF
  by_cases e : v = i
  · by_cases e2 : w = j
    · subst e; subst e2; simp [h]
    · have : decide (w < j + 1) = decide (w < j) := by rw [decide_eq_decide]; omega
      rw [this, beq_eq_false_iff_ne.2 e2, Bool.and_false, Bool.or_false]
  · rw [beq_eq_false_iff_ne.2 e]; simp
end Go.Proofs.YtkflcjhoghiffaaDoor
