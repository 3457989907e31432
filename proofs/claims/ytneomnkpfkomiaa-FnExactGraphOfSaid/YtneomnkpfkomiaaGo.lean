/-
  impl.GraphOf.
-/
import Derived.Test.YtneomnkpfkomiaaSu
import Derived.Test.YtneomnkpfkomiaaRg
namespace Go.Proofs.Ytneomnkpfkomiaa
open Go.RowKit Go.Maps Go.WideMaps Go.WideElems

/-- An edge of a graph of n vertices, told by a list. -/
def edgeB (n : Int) (L : List Int) : Bool := decide (L.length = 2 ∧ 0 ≤ el L 0 ∧ el L 0 < n ∧ 0 ≤ el L 1 ∧ el L 1 < n ∧ el L 0 ≠ el L 1)
theorem edgeB_iff (n : Int) (L : List Int) : edgeB n L = true ↔ L.length = 2 ∧ 0 ≤ el L 0 ∧ el L 0 < n ∧ 0 ≤ el L 1 ∧ el L 1 < n ∧ el L 0 ≠ el L 1 := by unfold edgeB; rw [decide_eq_true_eq]
def edgesOk (n : Int) (Ls : List (List Int)) (k : Nat) : Bool := (List.range k).all fun i => edgeB n (elS Ls i)
theorem edgesOk_succ (n : Int) (Ls : List (List Int)) (k : Nat) : edgesOk n Ls (k + 1) = (edgesOk n Ls k && edgeB n (elS Ls k)) := by
  unfold edgesOk; rw [List.range_succ, List.all_append]; simp
theorem edgesOk_no {n : Int} {Ls : List (List Int)} {k i : Nat} (hi : i < k) (h : edgeB n (elS Ls i) = false) : edgesOk n Ls k = false := by
  cases e : edgesOk n Ls k with
  | false => rfl
  | true => have := List.all_eq_true.1 e i (List.mem_range.2 hi); rw [h] at this; cases this
/-- The edges that the first k lists tell. -/
def goS (Ls : List (List Int)) : Nat → List (Nat × Nat)
  | 0 => []
  | k + 1 => goS Ls k ++ [((el (elS Ls k) 0).toNat, (el (elS Ls k) 1).toNat)]
theorem goS_length (Ls : List (List Int)) : ∀ k, (goS Ls k).length = k
  | 0 => rfl
  | k + 1 => by simp [goS, goS_length Ls k]
theorem goS_mem (n : Nat) (Ls : List (List Int)) : ∀ k, edgesOk n Ls k = true → ∀ p, p ∈ goS Ls k → p.1 < n ∧ p.2 < n
  | 0, _, p, h => by simp [goS] at h
  | k + 1, hok, p, h => by
    rw [edgesOk_succ, Bool.and_eq_true] at hok
    have he := (edgeB_iff _ _).1 hok.2
    simp only [goS, List.mem_append, List.mem_singleton] at h
    rcases h with h | rfl
    · exact goS_mem n Ls k hok.1 p h
    · simp only; omega
/-- What a graph is asked for. -/
def goOk (n : Int) (Ls : List (List Int)) : Bool := decide (1 ≤ n) && decide (n ≤ 62) && decide (Ls.length ≤ 4000) && edgesOk n Ls Ls.length
theorem goOk_iff (n : Int) (Ls : List (List Int)) : goOk n Ls = true ↔ 1 ≤ n ∧ n ≤ 62 ∧ Ls.length ≤ 4000 ∧ edgesOk n Ls Ls.length = true := by
  unfold goOk; simp [and_assoc]
def GoN (n : Int) (Ls : List (List Int)) : Int := if goOk n Ls then n else 0
def GoL (n : Int) (Ls : List (List Int)) : List Int := if goOk n Ls then rowsF n.toNat (adjS (goS Ls Ls.length)) else []
def GoC (n : Int) (Ls : List (List Int)) : Int := if goOk n Ls then 0 else 2
theorem GoL_length (n : Int) (Ls : List (List Int)) : (GoL n Ls).length ≤ 62 := by
  unfold GoL; split
  · rename_i h; have := (goOk_iff n Ls).1 h; rw [rowsF_length]; omega
  · simp
theorem Go_no {n : Int} {Ls : List (List Int)} (h : goOk n Ls = false) : GoN n Ls = 0 ∧ GoL n Ls = [] ∧ GoC n Ls = 2 := by simp [GoN, GoL, GoC, h]
theorem Go_yes {n : Nat} {Ls : List (List Int)} (h : goOk n Ls = true) : GoN n Ls = n ∧ GoL n Ls = rowsF n (adjS (goS Ls Ls.length)) ∧ GoC n Ls = 0 := by simp [GoN, GoL, GoC, h]

set_option maxHeartbeats 400000 in
theorem isVertex_any (n v : Int) (w : World) :
    Calls Try.prog 91 #[.int .i64 n, .int .i64 v] w fun e w' => e = .returned (.bool (decide (0 ≤ v) && decide (v < n))) ∧ w = w' := by
  by_cases h : 0 ≤ v
  · have h' : decide (0 ≤ v) = true := by simpa using h
    have h2 : (decide (0 ≤ v) && decide (v < n)) = decide (v < n) := by rw [h']; rfl
    rw [h2]; clear h2
    go_enter Try.func91, Try.ntmps91
    go_wp2
    go_ret
    exact ⟨rfl, rfl⟩
  · have h' : decide (0 ≤ v) = false := by simpa using h
    have h2 : (decide (0 ≤ v) && decide (v < n)) = false := by rw [h']; rfl
    rw [h2]; clear h2
    go_enter Try.func91, Try.ntmps91
    go_wp2
    go_ret
    exact ⟨rfl, rfl⟩
theorem isVertex_val (n v : Int) (r : Bool) (h : (decide (0 ≤ v) && decide (v < n)) = r) (w : World) :
    Calls Try.prog 91 #[.int .i64 n, .int .i64 v] w fun e w' => e = .returned (.bool r) ∧ w = w' := by
  rw [← h]; exact isVertex_any n v w

set_option maxHeartbeats 800000 in
theorem areDiff_any (n v x : Int) (w : World) (r : Bool) (h : decide (0 ≤ v ∧ v < n ∧ 0 ≤ x ∧ x < n ∧ v ≠ x) = r) :
    Calls Try.prog 61 #[.int .i64 n, .int .i64 v, .int .i64 x] w fun e w' => e = .returned (.bool r) ∧ w = w' := by
  by_cases h1 : 0 ≤ v ∧ v < n
  · have C1 := fun W => isVertex_val n v true (by simp [h1]) W
    by_cases h2 : 0 ≤ x ∧ x < n
    · have C2 := fun W => isVertex_val n x true (by simp [h2]) W
      by_cases h3 : v = x
      · obtain rfl : r = false := by rw [← h]; simp [h3]
        subst h3
        clear h h1 h2 C2
        go_enter Try.func61, Try.ntmps61
        go_wp2_with (go_at_call 91; refine (C1 _).mono ?_; rintro e w' ⟨rfl, rfl⟩)
        go_ret
        exact ⟨rfl, rfl⟩
      · obtain rfl : r = true := by rw [← h]; simp [h1, h2, h3]
        have h4 : (v != x) = true := by simpa using h3
        clear h h1 h2 h3
        go_enter Try.func61, Try.ntmps61
        go_wp2_with (go_at_call 91; first | (with_reducible refine (C1 _).mono ?_; rintro e w' ⟨rfl, rfl⟩) | (with_reducible refine (C2 _).mono ?_; rintro e w' ⟨rfl, rfl⟩))
        go_ret
        exact ⟨rfl, rfl⟩
    · have C2 := fun W => isVertex_val n x false (by rw [Bool.eq_false_iff]; intro hh; simp at hh; exact h2 hh) W
      obtain rfl : r = false := by
        rw [← h, decide_eq_false_iff_not]; intro hh; exact h2 ⟨hh.2.2.1, hh.2.2.2.1⟩
      by_cases h3 : v = x
      · exact absurd (h3 ▸ h1) h2
      clear h h1 h2 h3
      go_enter Try.func61, Try.ntmps61
      go_wp2_with (go_at_call 91; first | (with_reducible refine (C1 _).mono ?_; rintro e w' ⟨rfl, rfl⟩) | (with_reducible refine (C2 _).mono ?_; rintro e w' ⟨rfl, rfl⟩))
      go_ret
      exact ⟨rfl, rfl⟩
  · have C1 := fun W => isVertex_val n v false (by rw [Bool.eq_false_iff]; intro hh; simp at hh; exact h1 hh) W
    obtain rfl : r = false := by
      rw [← h, decide_eq_false_iff_not]; intro hh; exact h1 ⟨hh.1, hh.2.1⟩
    clear h h1
    go_enter Try.func61, Try.ntmps61
    go_wp2_with (go_at_call 91; refine (C1 _).mono ?_; rintro e w' ⟨rfl, rfl⟩)
    go_ret
    exact ⟨rfl, rfl⟩

theorem run_toPair (a : Addr) (c : Nat) (w : World) : (Instr.arrayAt 71 (.slice (some a) 2 c)).run Try.prog w = .ok (.pointer (some a)) w := by
  simp [Instr.arrayAt, run_underlying Try.underlying71]
theorem sl_some {w : World} {v : Value} {zs : List Int} (h : Sl w v zs) (h0 : 0 < zs.length) : ∃ b off cap, v = .slice (some ⟨b, off, none⟩) zs.length cap ∧ b < w.heap.size ∧ Cells w b off zs := by
  rcases h with ⟨a, c, _, rfl⟩ | ⟨b, off, cap, e, hb, hc⟩
  · simp at h0
  · exact ⟨b, off, cap, e, hb, hc⟩

set_option maxHeartbeats 800000 in
theorem implGo_far (n : Int) (a : Option Addr) (len cap : Nat) (w : World) (h : n < 1 ∨ 62 < n ∨ 4000 < len) (hl : len ≤ 9223372036854775807) :
    Calls Try.prog 27 #[.int .i64 n, .slice a len cap] w fun e w' => GRes w.heap.size 0 [] 2 e w' ∧ Below w.heap.size w w' := by
  have D0 : Below w.heap.size w (w.alloc (.cells #[.int .i64 0, .slice none 0 0] 24)) := (Below.refl _ _).alloc (Nat.le_refl _) _
  have RB := Lib.hid (World.alloc_heap_new w (.cells #[.int .i64 0, .slice none 0 0] 24))
  obtain ⟨W, hW⟩ : ∃ W, W = w.alloc (.cells #[.int .i64 0, .slice none 0 0] 24) := ⟨_, rfl⟩
  rw [← hW] at D0 RB
  have hc : (¬ 1 ≤ n) ∨ (1 ≤ n ∧ ¬ n ≤ 62) ∨ (1 ≤ n ∧ n ≤ 62 ∧ 4000 < len) := by omega
  clear h
  rcases hc with h1 | ⟨h1, h2⟩ | ⟨h1, h2, h3⟩
  all_goals
    go_enter Try.func27, Try.ntmps27
    go_wp2_with (go_at_call 60; refine (isSize_any _ _).mono ?_; rintro e w' ⟨rfl, rfl⟩)
    rw [← hW]
    refine bodyPost_ret (v := .tuple #[.agg #[.int .i64 0, .slice none 0 0], .int .i64 2]) (results_cell2 (p := 4) (u := 5) (ty := 24) rfl _ _ w.heap.size 24 _ (0, 0) _ rfl RB.out Try.underlying24 rfl (by exact info27)) rfl ⟨⟨_, rfl, Own.nil _ _⟩, D0⟩
end Go.Proofs.Ytneomnkpfkomiaa
