/-
  impl.RingGraph.
-/
import Derived.Test.YtneomnkpfkomiaaRg
namespace Go.Proofs.Ytneomnkpfkomiaa
open Go.RowKit Go.Maps

/-- What a ring graph is asked for. -/
def ringOk (n k : Int) : Bool := decide (3 ≤ n) && decide (n ≤ 31) && decide (1 ≤ k) && decide (k ≤ n - 1) && !decide (2 * k = n)
theorem ringOk_iff (n k : Int) : ringOk n k = true ↔ 3 ≤ n ∧ n ≤ 31 ∧ 1 ≤ k ∧ k ≤ n - 1 ∧ 2 * k ≠ n := by
  unfold ringOk; simp; omega
/-- The answer of RingGraph. -/
def RgN (n k : Int) : Int := if ringOk n k then 2 * n else 0
def RgL (n k : Int) : List Int := if ringOk n k then rowsF (2 * n.toNat) (adjS (ringS n.toNat k.toNat n.toNat)) else []
def RgC (n k : Int) : Int := if ringOk n k then 0 else 2
theorem RgL_length (n k : Int) : (RgL n k).length ≤ 62 := by
  unfold RgL; split
  · rename_i h; have := (ringOk_iff n k).1 h; rw [rowsF_length]; omega
  · simp

set_option maxHeartbeats 800000 in
theorem implRg_no (n k : Int) (w : World) (h : ringOk n k = false) :
    Calls Try.prog 15 #[.int .i64 n, .int .i64 k] w fun e w' => GRes w.heap.size 0 [] 2 e w' ∧ Below w.heap.size w w' := by
  have h' : ¬ (3 ≤ n ∧ n ≤ 31 ∧ 1 ≤ k ∧ k ≤ n - 1 ∧ 2 * k ≠ n) := fun hh => by rw [(ringOk_iff n k).2 hh] at h; cases h
  have D0 : Below w.heap.size w (w.alloc (.cells #[.int .i64 0, .slice none 0 0] 24)) := (Below.refl _ _).alloc (Nat.le_refl _) _
  have RB := Lib.hid (World.alloc_heap_new w (.cells #[.int .i64 0, .slice none 0 0] 24))
  obtain ⟨W, hW⟩ : ∃ W, W = w.alloc (.cells #[.int .i64 0, .slice none 0 0] 24) := ⟨_, rfl⟩
  rw [← hW] at D0 RB
  have hc : n < 3 ∨ (3 ≤ n ∧ 31 < n) ∨ (3 ≤ n ∧ n ≤ 31 ∧ k < 1) ∨ (3 ≤ n ∧ n ≤ 31 ∧ 1 ≤ k ∧ n - 1 < k) ∨ (3 ≤ n ∧ n ≤ 31 ∧ 1 ≤ k ∧ k ≤ n - 1 ∧ 2 * k = n) := by omega
  clear h h'
  rcases hc with h1 | ⟨h1, h2⟩ | ⟨h1, h2, h3⟩ | ⟨h1, h2, h3, h4⟩ | ⟨h1, h2, h3, h4, h5⟩
  all_goals try subst h5
  all_goals
    go_enter Try.func15, Try.ntmps15
    go_wp2_with fail
    rw [← hW]
    refine bodyPost_ret (v := .tuple #[.agg #[.int .i64 0, .slice none 0 0], .int .i64 2]) (results_cell2 (p := 4) (u := 5) (ty := 24) rfl _ _ w.heap.size 24 _ (0, 0) _ rfl RB.out Try.underlying24 rfl (by exact info27)) rfl ⟨⟨_, rfl, Own.nil _ _⟩, D0⟩

set_option maxHeartbeats 800000 in
theorem implRg_yes (n k m : Nat) (w : World) (h3 : 3 ≤ n) (hn : n ≤ 31) (hk1 : 1 ≤ k) (hk : k < n) (hne : 2 * k ≠ n) (hm : m = 2 * n) :
    Calls Try.prog 15 #[.int .i64 n, .int .i64 k] w fun e w' => GRes w.heap.size m (rowsF m (adjS (ringS n k n))) 0 e w' ∧ Below w.heap.size w w' := by
  have D0 : Below w.heap.size w (w.alloc (.cells #[.int .i64 0, .slice none 0 0] 24)) := (Below.refl _ _).alloc (Nat.le_refl _) _
  have RB0 := Lib.hid (World.alloc_heap_new w (.cells #[.int .i64 0, .slice none 0 0] 24))
  obtain ⟨W, hW⟩ : ∃ W, W = w.alloc (.cells #[.int .i64 0, .slice none 0 0] 24) := ⟨_, rfl⟩
  rw [← hW] at D0 RB0
  have hsz : w.heap.size + 1 ≤ W.heap.size := by rw [hW]; simp
  have hM62 : m ≤ 62 := by omega
  have hcon := Lib.hid (implRing_any n k m W h3 hn hk1 hk hm)
  have h1 : ¬ (n : Int) < 3 := by omega
  have h2 : ¬ (31 : Int) < n := by omega
  have h4 : ¬ (k : Int) < 1 := by omega
  have h5 : ¬ (n : Int) - 1 < k := by omega
  have h6 : ((2 * (k : Int)) == (n : Int)) = false := by rw [beq_eq_false_iff_ne]; omega
  clear hm hne
  go_enter Try.func15, Try.ntmps15
  go_wp2_with fail
  rw [← hW]
  clear hW
  refine hcon.out.mono ?_
  rintro e w1 ⟨⟨g, rfl, hB, hg⟩, hb1⟩
  have RB := Lib.hid ((hb1.block w.heap.size (by omega)).trans RB0.out)
  obtain ⟨r0, r1, g0, g1⟩ := two_cells RB.out
  have HB := Lib.hid hB
  have hE1 := D0.trans (hb1.mono (by omega))
  clear hB hb1 hcon RB0
  go_wp2_with fail
  have hfin := two_set (a := .int .i64 m) (b := .slice (some ⟨g, 0, none⟩) m m) RB.out
  refine bodyPost_ret (v := .tuple #[.agg #[.int .i64 m, .slice (some ⟨g, 0, none⟩) m m], .int .i64 0]) (results_cell2 (p := 4) (u := 5) (ty := 24) rfl _ _ w.heap.size 24 _ (0, 0) _ rfl hfin Try.underlying24 rfl (by exact info27)) rfl ⟨⟨_, rfl, ?_⟩, ?_⟩
  · have h := Own.of_blk ((HB.out.other (a := ⟨w.heap.size, 0, none⟩) (by simp; omega) (.int .i64 m)).other (a := ⟨w.heap.size, 1, none⟩) (by simp; omega) (.slice (some ⟨g, 0, none⟩) m m)) (B := w.heap.size) (by omega) (by rw [rowsF_length]; unfold maxLen; omega)
    rw [rowsF_length] at h
    exact h
  · exact (hE1.setCell (p := ⟨w.heap.size, 0, none⟩) (by simp) _).setCell (p := ⟨w.heap.size, 1, none⟩) (by simp) _

theorem implRg_any (n k : Int) (w : World) :
    Calls Try.prog 15 #[.int .i64 n, .int .i64 k] w fun e w' => GRes w.heap.size (RgN n k) (RgL n k) (RgC n k) e w' ∧ Below w.heap.size w w' := by
  cases h : ringOk n k
  · rw [show RgN n k = 0 by simp [RgN, h], show RgL n k = [] by simp [RgL, h], show RgC n k = 2 by simp [RgC, h]]
    exact implRg_no n k w h
  · obtain ⟨h1, h2, h3, h4, h5⟩ := (ringOk_iff n k).1 h
    obtain ⟨n', rfl⟩ := Int.eq_ofNat_of_zero_le (show 0 ≤ n by omega)
    obtain ⟨k', rfl⟩ := Int.eq_ofNat_of_zero_le (show 0 ≤ k by omega)
    have := implRg_yes n' k' (2 * n') w (by omega) (by omega) (by omega) (by omega) (by omega) rfl
    rw [show RgN (n' : Int) (k' : Int) = ((2 * n' : Nat) : Int) by simp [RgN, h], show RgL (n' : Int) (k' : Int) = rowsF (2 * n') (adjS (ringS n' k' n')) by simp [RgL, h], show RgC (n' : Int) (k' : Int) = 0 by simp [RgC, h]]
    exact this
end Go.Proofs.Ytneomnkpfkomiaa
