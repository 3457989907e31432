/-
  The laws' helpers that copy, size, compare and mark digraphs.
-/
import Derived.Test.YtkflcjhoghiffaaDoorPg
namespace Go.Proofs.YtkflcjhoghiffaaDoor
set_option maxRecDepth 100000
set_option maxRecDepth 100000
open Go.RowKit

theorem infoDg : (Tryd.prog.info? 25).map (·.size) = some 2 := by kernel_rfl

set_option maxHeartbeats 800000 in
theorem eqDigraph_any (n m : Int) (v1 v2 : Value) (xs ys : List Int) (w : World) (h1 : Sl w v1 xs) (h2 : Sl w v2 ys) (hx : xs.length ≤ 9223372036854775807) :
    Calls Tryd.prog 13 #[.agg #[.int .i64 n, v1], .agg #[.int .i64 m, v2]] w fun e w' => e = .returned (.bool (decide (n = m) && decide (xs = ys))) ∧ Below w.heap.size w w' := by
  have H1 := Lib.hid h1; clear h1
  have H2 := Lib.hid h2; clear h2
  by_cases hn : n = m
  · subst hn
    have hb2 : Below w.heap.size w ((w.alloc (.cells #[.int .i64 n, v1] 25)).alloc (.cells #[.int .i64 n, v2] 25)) := ((Below.refl _ _).alloc (Nat.le_refl _) _).alloc (by simp) _
    have hc := eqInts_any v1 v2 xs ys _ (H1.out.below hb2) (H2.out.below hb2) hx
    have hnn : (n != n) = false := by simp
    have hd : (decide (n = n) && decide (xs = ys)) = decide (xs = ys) := by simp
    rw [hd]; clear hd
    generalize decide (xs = ys) = r at hc
    cases r
    all_goals
      go_enter Tryd.func13, Tryd.ntmps13
      go_wp2_with (go_at_call 35; refine hc.mono ?_; rintro e w1 ⟨rfl, hb1⟩)
      go_ret
      exact ⟨rfl, hb2.trans (hb1.mono (by simp; omega))⟩
  · have hnn : (n != m) = true := by simpa using hn
    have hd : (decide (n = m) && decide (xs = ys)) = false := by simp [hn]
    rw [hd]; clear hd hn
    go_enter Tryd.func13, Tryd.ntmps13
    go_wp2
    go_ret
    exact ⟨rfl, ((Below.refl _ _).alloc (Nat.le_refl _) _).alloc (by simp) _⟩

theorem eqDigraph_same (n : Int) (v1 v2 : Value) (xs : List Int) (w : World) (h1 : Sl w v1 xs) (h2 : Sl w v2 xs) (hx : xs.length ≤ 9223372036854775807) :
    Calls Tryd.prog 13 #[.agg #[.int .i64 n, v1], .agg #[.int .i64 n, v2]] w fun e w' => e = .returned (.bool true) ∧ Below w.heap.size w w' := by
  have := eqDigraph_any n n v1 v2 xs xs w h1 h2 hx
  simpa using this

set_option maxHeartbeats 800000 in
theorem markDigraph_any (n : Int) (u : Value) (B : Nat) (L : List Int) (k : Int) (w : World) (h : Own w B u L) (hk0 : 0 ≤ k) (hk1 : k ≤ 9007199254740992) (hl : L.length ≤ 9007199254740992) :
    Calls Tryd.prog 15 #[.agg #[.int .i64 n, u], .int .i64 k] w fun e w' => e = .returned (.int .i64 (k + (L.length : Int))) ∧ Touched w w' B u (markL k L.length) := by
  have D0 : Below w.heap.size w (w.alloc (.cells #[.int .i64 n, u] 25)) := (Below.refl _ _).alloc (Nat.le_refl _) _
  have hm := markInts_any u B L k (w.alloc (.cells #[.int .i64 n, u] 25)) (h.below D0) hk0 hk1 hl
  have hg0 := Lib.hid (World.grownBy_alloc w (.cells #[.int .i64 n, u] 25) u.ownBlock)
  clear h
  go_enter Tryd.func15, Tryd.ntmps15
  go_wp2_with (go_at_call 36; refine hm.mono ?_; rintro e w1 ⟨rfl, hM⟩; have HM := Lib.hid hM; clear hM)
  go_ret
  exact ⟨rfl, HM.out.1, grown_trans hg0.out HM.out.2.1⟩

set_option maxHeartbeats 800000 in
theorem heldDigraph_any (m : Int) (u : Value) (n : Nat) (k : Int) (w : World) (h : Sl w u (markL k n)) (hk0 : 0 ≤ k) (hk1 : k ≤ 9007199254740992) (hl : n ≤ 9007199254740992) :
    Calls Tryd.prog 17 #[.agg #[.int .i64 m, u], .int .i64 k] w fun e w' => e = .returned (.int .i64 (k + (n : Int))) ∧ Below w.heap.size w w' := by
  have D0 : Below w.heap.size w (w.alloc (.cells #[.int .i64 m, u] 25)) := (Below.refl _ _).alloc (Nat.le_refl _) _
  have hm := heldInts_any u n k (w.alloc (.cells #[.int .i64 m, u] 25)) (h.below D0) hk0 hk1 hl
  clear h D0
  go_enter Tryd.func17, Tryd.ntmps17
  go_wp2_with (go_at_call 37; refine hm.mono ?_; rintro e w1 ⟨rfl, rfl⟩)
  go_ret
  exact ⟨rfl, (Below.refl _ _).alloc (Nat.le_refl _) _⟩
end Go.Proofs.YtkflcjhoghiffaaDoor
