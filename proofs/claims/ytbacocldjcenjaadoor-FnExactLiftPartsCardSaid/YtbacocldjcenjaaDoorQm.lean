/-
  A queue of numbers below n with their distances from v: plain facts.
-/
import Derived.Test.YtbacocldjcenjaaDoorDist
import Derived.Test.YtbacocldjcenjaaDoorRowArr
namespace Go.Proofs.YtbacocldjcenjaaDoor
set_option maxRecDepth 100000
open Go.RowKit

theorem nodup_len : ∀ (n : Nat) (l : List Nat), l.Nodup → (∀ q, q ∈ l → q < n) → l.length ≤ n
  | 0, l, _, h => by
    cases l with
    | nil => exact Nat.le_refl _
    | cons a l => exact absurd (h a (List.mem_cons_self ..)) (by omega)
  | n + 1, l, hd, h => by
    by_cases hm : n ∈ l
    · have ih := nodup_len n (l.erase n) (hd.erase n) (fun q hq => by
        have h1 := (hd.mem_erase_iff).1 hq
        have := h q h1.2
        have := h1.1
        omega)
      rw [List.length_erase_of_mem hm] at ih
      omega
    · have := nodup_len n l hd (fun q hq => by
        have h1 := h q hq
        have : q ≠ n := fun e => hm (e ▸ hq)
        omega)
      omega

theorem elSet_ne {D : List Int} {y z : Nat} {x : Int} (h : z ≠ y) : el (D.set y x) z = el D z := by
  unfold el; simp [List.getD_eq_getElem?_getD, List.getElem?_set_ne (Ne.symm h)]
theorem elSet_eq {D : List Int} {y : Nat} {x : Int} (h : y < D.length) : el (D.set y x) y = x := by
  unfold el; simp [List.getD_eq_getElem?_getD, h]
theorem elRep {n w : Nat} {x : Int} (h : w < n) : el (List.replicate n x) w = x := by
  unfold el; simp [List.getD_eq_getElem?_getD, h]

/-- The queue Q has the numbers whose distance is told by D; the places ahead of i are done, and at the place i the numbers below y. -/
structure QInv (R : Nat → Nat → Bool) (n v : Nat) (D : List Int) (Q : List Nat) (i y : Nat) : Prop where
  len : D.length = n
  ge : ∀ w, w < n → -1 ≤ el D w
  zero : el D v = 0
  only : ∀ w, w < n → el D w = 0 → w = v
  par : ∀ w, w < n → 0 < el D w → ∃ x, x < n ∧ 0 ≤ el D x ∧ el D x + 1 = el D w ∧ R x w = true
  nodup : Q.Nodup
  qlt : ∀ q, q ∈ Q → q < n
  mem : ∀ w, w < n → (0 ≤ el D w ↔ w ∈ Q)
  few : ∀ w, w < n → el D w < Q.length
  clo : ∀ (j q : Nat), j < i → Q[j]? = some q → ∀ z, z < n → R q z = true → 0 ≤ el D z ∧ el D z ≤ el D q + 1
  cur : ∀ q, Q[i]? = some q → ∀ z, z < y → R q z = true → 0 ≤ el D z ∧ el D z ≤ el D q + 1
  mono : ∀ (j k p q : Nat), j ≤ k → Q[j]? = some p → Q[k]? = some q → el D p ≤ el D q
  spread : ∀ q, Q[i]? = some q → ∀ p, p ∈ Q → el D p ≤ el D q + 1
variable {R : Nat → Nat → Bool} {n v : Nat} {D : List Int} {Q : List Nat} {i y : Nat}

theorem QInv.qlen (h : QInv R n v D Q i y) : Q.length ≤ n := nodup_len n Q h.nodup h.qlt
theorem QInv.start (hv : v < n) : QInv R n v ((List.replicate n (-1)).set v 0) [v] 0 0 := by
  have e : ∀ w, w < n → el ((List.replicate n (-1 : Int)).set v 0) w = if w = v then 0 else -1 := by
    intro w hw
    by_cases h : w = v
    · rw [if_pos h, h, elSet_eq (by simpa using hv)]
    · rw [if_neg h, elSet_ne h, elRep hw]
  have hz : el ((List.replicate n (-1 : Int)).set v 0) v = 0 := by rw [e v hv, if_pos rfl]
  have one : ∀ (j q : Nat), [v][j]? = some q → q = v := by
    intro j q h
    cases j with
    | zero => simpa using h.symm
    | succ j => simp at h
  refine ⟨by simp, fun w hw => ?_, hz, fun w hw h => ?_, fun w hw h => ?_, by simp, fun q hq => ?_, fun w hw => ?_, fun w hw => ?_, fun j q hj => absurd hj (by omega), fun q hq z hz => absurd hz (by omega), fun j k p q _ hp hq => ?_, fun q hq p hp => ?_⟩
  · rw [e w hw]; split <;> omega
  · rw [e w hw] at h; split at h
    · assumption
    · omega
  · rw [e w hw] at h; split at h <;> omega
  · have : q = v := by simpa using hq
    omega
  · rw [e w hw]
    constructor
    · intro h; split at h
      · simp [*]
      · omega
    · intro h
      have : w = v := by simpa using h
      rw [if_pos this]; omega
  · rw [e w hw]; split <;> simp
  · rw [one j p hp, one k q hq]; omega
  · have : p = v := by simpa using hp
    rw [one 0 q hq, this]; omega

/-- A number that is not met joins the queue. -/
theorem QInv.push (h : QInv R n v D Q i y) {x : Nat} (hx : Q[i]? = some x) (hy : y < n) (hR : R x y = true) (hn : el D y < 0) : QInv R n v (D.set y (el D x + 1)) (Q ++ [y]) i (y + 1) := by
  have hxq : x ∈ Q := List.mem_of_getElem? hx
  have hxn := h.qlt x hxq
  have hx0 : 0 ≤ el D x := (h.mem x hxn).2 hxq
  have hxy : x ≠ y := fun e => by rw [e] at hx0; omega
  have hyq : y ∉ Q := fun hm => by have := (h.mem y hy).2 hm; omega
  have hne : ∀ p, p ∈ Q → p ≠ y := fun p hp e => hyq (e ▸ hp)
  have same : ∀ p, p ∈ Q → el (D.set y (el D x + 1)) p = el D p := fun p hp => elSet_ne (hne p hp)
  have new : el (D.set y (el D x + 1)) y = el D x + 1 := elSet_eq (by rw [h.len]; exact hy)
  have old : ∀ z, z ≠ y → el (D.set y (el D x + 1)) z = el D z := fun z hz => elSet_ne hz
  have hil : i < Q.length := by rcases List.getElem?_eq_some_iff.1 hx with ⟨hi, _⟩; exact hi
  have at' : ∀ (j q : Nat), (Q ++ [y])[j]? = some q → (j < Q.length ∧ Q[j]? = some q) ∨ (j = Q.length ∧ q = y) := by
    intro j q hq
    rcases Nat.lt_trichotomy j Q.length with hlt | he | hgt
    · rw [List.getElem?_append_left hlt] at hq; exact .inl ⟨hlt, hq⟩
    · rw [List.getElem?_append_right (by omega), he] at hq
      simp at hq; exact .inr ⟨he, hq.symm⟩
    · rw [List.getElem?_append_right (by omega), List.getElem?_eq_none (by simp; omega)] at hq
      cases hq
  have hxi : (Q ++ [y])[i]? = some x := by rw [List.getElem?_append_left hil]; exact hx
  refine ⟨by simp [h.len], fun w hw => ?_, ?_, fun w hw e => ?_, fun w hw e => ?_, ?_, fun q hq => ?_, fun w hw => ?_, fun w hw => ?_, fun j q hj hq z hz hRz => ?_, fun q hq z hz hRz => ?_, fun j k p q hjk hp hq => ?_, fun q hq p hp => ?_⟩
  · by_cases e : w = y
    · rw [e, new]; omega
    · rw [old w e]; exact h.ge w hw
  · have hvy : v ≠ y := fun e => by have := h.zero; rw [e] at this; omega
    rw [old v hvy]; exact h.zero
  · by_cases e1 : w = y
    · rw [e1, new] at e; omega
    · rw [old w e1] at e; exact h.only w hw e
  · by_cases e1 : w = y
    · subst e1
      exact ⟨x, hxn, by rw [old x hxy]; exact hx0, by rw [old x hxy, new], hR⟩
    · rw [old w e1] at e
      obtain ⟨a, ha, ha0, ha1, haR⟩ := h.par w hw e
      have : a ≠ y := fun e2 => by rw [e2] at ha0; omega
      exact ⟨a, ha, by rw [old a this]; exact ha0, by rw [old a this, old w e1]; exact ha1, haR⟩
  · rw [List.nodup_append]
    refine ⟨h.nodup, by simp, fun a ha b hb => ?_⟩
    have : b = y := by simpa using hb
    rw [this]; exact hne a ha
  · rcases List.mem_append.1 hq with hq | hq
    · exact h.qlt q hq
    · have : q = y := by simpa using hq
      omega
  · by_cases e1 : w = y
    · rw [e1, new]
      constructor
      · intro _; simp
      · intro _; omega
    · rw [old w e1, h.mem w hw, List.mem_append]
      constructor
      · exact .inl
      · rintro (hq | hq)
        · exact hq
        · exact absurd (by simpa using hq) e1
  · rw [List.length_append]
    by_cases e1 : w = y
    · rw [e1, new]; have := h.few x hxn; simp; omega
    · rw [old w e1]; have := h.few w hw; simp; omega
  · rcases at' j q hq with ⟨_, hq⟩ | ⟨he, _⟩
    · obtain ⟨c0, c1⟩ := h.clo j q hj hq z hz hRz
      have hzy : z ≠ y := fun e => by rw [e] at c0; omega
      rw [old z hzy, same q (List.mem_of_getElem? hq)]
      exact ⟨c0, c1⟩
    · omega
  · rw [hxi] at hq
    obtain rfl : x = q := by simpa using hq
    by_cases e1 : z = y
    · rw [e1, new, old x hxy]; exact ⟨by omega, by omega⟩
    · obtain ⟨c0, c1⟩ := h.cur x hx z (by omega) hRz
      rw [old z e1, old x hxy]
      exact ⟨c0, c1⟩
  · rcases at' k q hq with ⟨hk, hq⟩ | ⟨hk, hq⟩
    · rcases at' j p hp with ⟨hj, hp⟩ | ⟨hj, hp⟩
      · rw [same p (List.mem_of_getElem? hp), same q (List.mem_of_getElem? hq)]
        exact h.mono j k p q hjk hp hq
      · omega
    · subst hq
      rcases at' j p hp with ⟨hj, hp⟩ | ⟨hj, hp⟩
      · rw [same p (List.mem_of_getElem? hp), new]
        exact h.spread x hx p (List.mem_of_getElem? hp)
      · subst hp; omega
  · rw [hxi] at hq
    obtain rfl : x = q := by simpa using hq
    rw [old x hxy]
    rcases List.mem_append.1 hp with hp | hp
    · rw [same p hp]; exact h.spread x hx p hp
    · have : p = y := by simpa using hp
      rw [this, new]; omega
/-- A number that does not join. -/
theorem QInv.skip (h : QInv R n v D Q i y) (hy : y < n) (hs : ∀ x, Q[i]? = some x → R x y = true → 0 ≤ el D y) : QInv R n v D Q i (y + 1) :=
  { h with
    cur := fun q hq z hz hR => by
      by_cases e : z = y
      · subst e
        have h0 := hs q hq hR
        exact ⟨h0, h.spread q hq z ((h.mem z hy).1 h0)⟩
      · exact h.cur q hq z (by omega) hR }
/-- A place is done. -/
theorem QInv.next (h : QInv R n v D Q i n) : QInv R n v D Q (i + 1) 0 :=
  { h with
    clo := fun j q hj hq z hz hR => by
      by_cases e : j = i
      · subst e; exact h.cur q hq z hz hR
      · exact h.clo j q (by omega) hq z hz hR
    cur := fun q hq z hz => absurd hz (by omega)
    spread := fun q hq p hp => by
      have hil : i + 1 < Q.length := by rcases List.getElem?_eq_some_iff.1 hq with ⟨hi, _⟩; exact hi
      obtain ⟨x, hx⟩ : ∃ x, Q[i]? = some x := ⟨_, List.getElem?_eq_getElem (by omega)⟩
      have h1 := h.spread x hx p hp
      have h2 := h.mono i (i + 1) x q (by omega) hx hq
      omega }
/-- All places are done: the list has the distances. -/
theorem QInv.done (h : QInv R n v D Q Q.length 0) (hv : v < n) : D = (List.range n).map (dOf R n v) := by
  have key := dOf_char hv (el D) h.zero h.only h.ge h.par (fun x hx hx0 y hy hR => by
    have hm := (h.mem x hx).1 hx0
    obtain ⟨j, hj, e⟩ := List.getElem_of_mem hm
    exact h.clo j x hj (by rw [List.getElem?_eq_getElem hj, e]) y hy hR)
  apply List.ext_getElem
  · simp [h.len]
  · intro k h1 h2
    have hk : k < n := by simpa using h2
    have := key k hk
    rw [el_lt h1] at this
    simp [this]
end Go.Proofs.YtbacocldjcenjaaDoor
