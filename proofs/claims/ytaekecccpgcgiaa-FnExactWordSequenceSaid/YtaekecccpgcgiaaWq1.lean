/-
  Sequences of words: plain facts.
-/
import Derived.WalkKit
namespace Go.Proofs.Ytaekecccpgcgiaa
open Go.RowKit

/-- n is worked out ahead of f. -/
def frc {α : Type} (n : Nat) (f : Nat → α) : α := match n with | 0 => f 0 | k + 1 => f (k + 1)
theorem frc_eq {α : Type} (n : Nat) (f : Nat → α) : frc n f = f n := by cases n <;> rfl

/-- How many numbers from w on are met, at most f. -/
def wsFind (mt : Nat) : Nat → Nat → Nat
  | 0, _ => 0
  | f + 1, w => if mt.testBit w then wsFind mt f (w + 1) + 1 else 0
theorem wsFind_met (mt f w j : Nat) (h : j < wsFind mt f w) : mt.testBit (w + j) = true := by
  induction f generalizing w j with
  | zero => simp [wsFind] at h
  | succ f ih =>
    unfold wsFind at h
    by_cases hb : mt.testBit w = true
    · rw [if_pos hb] at h
      cases j with
      | zero => exact hb
      | succ j =>
        have := ih (w + 1) j (by omega)
        rwa [show w + (j + 1) = w + 1 + j by omega]
    · rw [if_neg hb] at h; omega

/-- The state of the sequence's walk: the word, the words met, the numbers (the last one first), whether all went well. -/
structure WsS where
  w : Nat
  mt : Nat
  sq : List Nat
  ok : Bool
def wsStep (d c : Nat) (s : WsS) : WsS :=
  frc (s.w * d % c) fun w0 => frc (wsFind s.mt c w0) fun j => frc (w0 + j) fun w => frc (s.mt ||| 1 <<< w) fun m => match decide (w < c) && !s.mt.testBit w with
    | true => ⟨w, m, j :: s.sq, true⟩
    | false => ⟨w, m, j :: s.sq, false⟩
def wsRun (d c : Nat) : Nat → WsS → WsS
  | 0, s => s
  | n + 1, s => match wsStep d c s with
    | ⟨w, m, l, true⟩ => wsRun d c n ⟨w, m, l, true⟩
    | ⟨w, m, l, false⟩ => ⟨w, m, l, false⟩
def wsS (d c n : Nat) : WsS := wsRun d c n ⟨c - 1, 0, [], true⟩

/-- A round that ends well. -/
theorem wsRun_next {d c n : Nat} {s F : WsS} (h : wsRun d c (n + 1) s = F) (hF : F.ok = true) :
    ∃ J, J = wsFind s.mt c (s.w * d % c) ∧ s.w * d % c + J < c ∧ s.mt.testBit (s.w * d % c + J) = false ∧ wsRun d c n ⟨s.w * d % c + J, s.mt ||| 1 <<< (s.w * d % c + J), J :: s.sq, true⟩ = F := by
  refine ⟨_, rfl, ?_⟩
  unfold wsRun wsStep at h
  simp only [frc_eq] at h
  cases hc : (decide (s.w * d % c + wsFind s.mt c (s.w * d % c) < c) && !s.mt.testBit (s.w * d % c + wsFind s.mt c (s.w * d % c))) with
  | true =>
    rw [hc] at h
    simp only [Bool.and_eq_true, decide_eq_true_eq, Bool.not_eq_true'] at hc
    exact ⟨hc.1, hc.2, h⟩
  | false =>
    rw [hc] at h
    subst h
    simp at hF

/-- The first k numbers of a word, over and over. -/
def lyRep (wd : List Nat) (k : Nat) : List Nat := (List.range k).map fun i => wd.getD (i % wd.length) 0
theorem lyRep_length (wd : List Nat) (k : Nat) : (lyRep wd k).length = k := by simp [lyRep]
theorem lyRep_succ (wd : List Nat) (k : Nat) : lyRep wd (k + 1) = lyRep wd k ++ [wd.getD (k % wd.length) 0] := by simp [lyRep, List.range_succ]
/-- A list, last number first, without greatest numbers ahead, and the next one greater by 1. -/
def lyDrop (d : Nat) : List Nat → List Nat
  | [] => []
  | x :: r => if x == d - 1 then lyDrop d r else (x + 1) :: r
def lyNext (d k : Nat) (wd : List Nat) : List Nat := (lyDrop d (lyRep wd k).reverse).reverse
def lyRun (d k : Nat) : Nat → List Nat → List Nat → List Nat × List Nat
  | 0, o, w => (o, w)
  | n + 1, o, w => match w with
    | [] => (o, [])
    | x :: r => lyRun d k n (if k % (x :: r).length == 0 then o ++ (x :: r) else o) (lyNext d k (x :: r))

theorem lyRun_nil (d k n : Nat) (o : List Nat) : lyRun d k n o [] = (o, []) := by cases n <;> rfl
theorem lyRun_step {d k n : Nat} {o wd : List Nat} (h : wd ≠ []) (hz : (lyRun d k n o wd).2 = []) : ∃ m, n = m + 1 ∧ lyRun d k n o wd = lyRun d k m (if k % wd.length == 0 then o ++ wd else o) (lyNext d k wd) := by
  cases n with
  | zero => exact absurd hz h
  | succ m =>
    cases wd with
    | nil => exact absurd rfl h
    | cons x r => exact ⟨m, rfl, rfl⟩
theorem lyRun_more (d k n : Nat) (o wd : List Nat) : o.length ≤ (lyRun d k n o wd).1.length := by
  induction n generalizing o wd with
  | zero => exact Nat.le_refl _
  | succ n ih =>
    cases wd with
    | nil => exact Nat.le_refl _
    | cons x r =>
      refine Nat.le_trans ?_ (ih _ _)
      split
      · simp
      · exact Nat.le_refl _
theorem lyDrop_lt {d : Nat} (hd : 1 ≤ d) {l : List Nat} (h : ∀ x ∈ l, x < d) : ∀ x ∈ lyDrop d l, x < d := by
  induction l with
  | nil => simp [lyDrop]
  | cons a r ih =>
    unfold lyDrop
    by_cases e : (a == d - 1) = true
    · rw [if_pos e]; exact ih fun x hx => h x (List.mem_cons_of_mem _ hx)
    · rw [if_neg e]
      have ha := h a (List.mem_cons_self ..)
      have hne : a ≠ d - 1 := by simpa using e
      intro x hx
      rcases List.mem_cons.1 hx with rfl | hx
      · omega
      · exact h x (List.mem_cons_of_mem _ hx)
theorem lyRep_lt {d : Nat} {wd : List Nat} (h : ∀ x ∈ wd, x < d) (hne : wd ≠ []) (k : Nat) : ∀ x ∈ lyRep wd k, x < d := by
  intro x hx
  unfold lyRep at hx
  obtain ⟨i, hi, rfl⟩ := List.mem_map.1 hx
  have hp : 0 < wd.length := List.length_pos_iff.2 hne
  have hm := Nat.mod_lt i hp
  rw [List.getD_eq_getElem?_getD, List.getElem?_eq_getElem hm]
  exact h _ (List.getElem_mem _)
theorem lyNext_lt {d k : Nat} (hd : 1 ≤ d) {wd : List Nat} (h : ∀ x ∈ wd, x < d) (hne : wd ≠ []) : ∀ x ∈ lyNext d k wd, x < d := by
  intro x hx
  unfold lyNext at hx
  exact lyDrop_lt hd (fun y hy => lyRep_lt h hne k y (List.mem_reverse.1 hy)) x (List.mem_reverse.1 hx)
theorem lyDrop_length (d : Nat) (l : List Nat) : (lyDrop d l).length ≤ l.length := by
  induction l with
  | nil => exact Nat.le_refl _
  | cons a r ih => unfold lyDrop; split <;> simp <;> omega
theorem lyNext_length (d k : Nat) (wd : List Nat) : (lyNext d k wd).length ≤ k := by
  unfold lyNext
  have := lyDrop_length d (lyRep wd k).reverse
  simp [lyRep_length] at this ⊢
  exact this
/-- The first m numbers, without a greatest one at the end. -/
theorem lyDrop_take {d : Nat} {l : List Nat} {m : Nat} (hm : m < l.length) (h : l.getD m 0 = d - 1) : lyDrop d (l.take (m + 1)).reverse = lyDrop d (l.take m).reverse := by
  rw [List.take_succ_eq_append_getElem hm, List.reverse_append]
  have : l[m] = d - 1 := by rw [← h, List.getD_eq_getElem?_getD, List.getElem?_eq_getElem hm]; rfl
  simp [lyDrop, this]
theorem lyDrop_stop {d : Nat} {l : List Nat} {m : Nat} (hm : m < l.length) (h : l.getD m 0 ≠ d - 1) : (lyDrop d (l.take (m + 1)).reverse).reverse = (l.take (m + 1)).set m (l.getD m 0 + 1) := by
  have e1 : l[m] = l.getD m 0 := by rw [List.getD_eq_getElem?_getD, List.getElem?_eq_getElem hm]; rfl
  have hl : (l.take m).length = m := by rw [List.length_take]; omega
  rw [List.take_succ_eq_append_getElem hm, List.reverse_append, e1]
  have e2 : (l.getD m 0 == d - 1) = false := by simpa using h
  show (lyDrop d (l.getD m 0 :: (l.take m).reverse)).reverse = _
  unfold lyDrop
  rw [if_neg (by rw [e2]; simp), List.set_append_right _ _ (by omega), hl, Nat.sub_self]
  simp

/-- Both for d and k: the walk of the sequence goes well, and gives what the words of Lyndon give. -/
def wsAll (d k : Nat) : Bool := decide (1024 < d ^ k) || ((wsS d (d ^ k) (d ^ k)).ok && (lyRun d k 400 [] [0]).1 == (wsS d (d ^ k) (d ^ k)).sq.reverse && (lyRun d k 400 [] [0]).2.isEmpty && decide ((wsS d (d ^ k) (d ^ k)).sq.length ≤ 1024))
set_option maxRecDepth 100000 in
theorem wsAll_fact : ((List.range 10).all fun d => (List.range 10).all fun k => wsAll (d + 1) (k + 1)) = true := by decide +kernel
theorem wsAll_at {d k : Nat} (h1 : 1 ≤ d) (h2 : d ≤ 10) (h3 : 1 ≤ k) (h4 : k ≤ 10) (h : d ^ k ≤ 1024) : (wsS d (d ^ k) (d ^ k)).ok = true ∧ (lyRun d k 400 [] [0]).1 = (wsS d (d ^ k) (d ^ k)).sq.reverse ∧ (lyRun d k 400 [] [0]).2 = [] ∧ (wsS d (d ^ k) (d ^ k)).sq.length ≤ 1024 := by
  have f := wsAll_fact
  rw [List.all_eq_true] at f
  have f1 := f (d - 1) (List.mem_range.2 (by omega))
  rw [List.all_eq_true] at f1
  have f2 := f1 (k - 1) (List.mem_range.2 (by omega))
  rw [show d - 1 + 1 = d by omega, show k - 1 + 1 = k by omega] at f2
  unfold wsAll at f2
  rw [decide_eq_false (by omega), Bool.false_or] at f2
  simp only [Bool.and_eq_true, beq_iff_eq, List.isEmpty_iff, decide_eq_true_eq] at f2
  exact ⟨f2.1.1.1, f2.1.1.2, f2.1.2, f2.2⟩
end Go.Proofs.Ytaekecccpgcgiaa
