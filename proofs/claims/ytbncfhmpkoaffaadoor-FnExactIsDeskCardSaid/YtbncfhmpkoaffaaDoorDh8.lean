/-
  The laws' helpers that copy, size, compare and mark digraphs.
-/
import Derived.Test.YtbncfhmpkoaffaaDoorMark
import Derived.Test.YtbncfhmpkoaffaaDoorInts
namespace Go.Proofs.YtbncfhmpkoaffaaDoor
set_option maxRecDepth 100000
set_option maxRecDepth 100000
open Go.RowKit

theorem infoDg : (Tryd.prog.info? 29).map (·.size) = some 2 := by kernel_rfl

set_option maxHeartbeats 800000 in
theorem szDigraph_any (n : Int) (v : Value) (zs : List Int) (left : Int) (w : World) (hs : Sl w v zs) (h0 : 0 ≤ left) (h1 : left ≤ 1048576) (hl : zs.length ≤ 9223372036854775807) :
    Calls Tryd.prog 12 #[.agg #[.int .i64 n, v], .int .i64 left] w fun e w' => e = .returned (.int .i64 (if left < zs.length then -1 else left - zs.length)) ∧ Below w.heap.size w w' := by
  have HS := Lib.hid hs; clear hs
  have hb1 : Below w.heap.size w (w.alloc (.cells #[.int .i64 n, v] 24)) := (Below.refl _ _).alloc (Nat.le_refl _) _
  by_cases hlt : left < zs.length
  · have hi : (if left < (zs.length : Int) then (-1 : Int) else left - zs.length) = -1 := if_pos hlt
    rw [hi]
    have hc := szInts_any v zs left (w.alloc (.cells #[.int .i64 n, v] 24)) (HS.out.below hb1) h0 h1 hl
    rw [hi] at hc
    clear hi
    go_enter Tryd.func12, Tryd.ntmps12
    go_wp2_with (go_at_call 41; refine hc.mono ?_; rintro e w' ⟨rfl, rfl⟩)
    go_ret
    exact ⟨rfl, (Below.refl _ _).alloc (Nat.le_refl _) _⟩
  · have hi : (if left < (zs.length : Int) then (-1 : Int) else left - zs.length) = left - zs.length := if_neg hlt
    rw [hi]
    have hc := szInts_any v zs left (w.alloc (.cells #[.int .i64 n, v] 24)) (HS.out.below hb1) h0 h1 hl
    rw [hi] at hc
    clear hi
    go_enter Tryd.func12, Tryd.ntmps12
    go_wp2_with (go_at_call 41; refine hc.mono ?_; rintro e w' ⟨rfl, rfl⟩)
    go_ret
    exact ⟨rfl, (Below.refl _ _).alloc (Nat.le_refl _) _⟩

set_option maxHeartbeats 800000 in
theorem toDigraph_any (n : Int) (v : Value) (zs : List Int) (w : World) (hs : Sl w v zs) (hl : zs.length ≤ 1048576) :
    Calls Tryd.prog 14 #[.agg #[.int .i64 n, v]] w fun e w' => e = .returned (.agg #[.int .i64 n, .slice (some ⟨w.heap.size + 3, 0, none⟩) zs.length zs.length]) ∧ Blk w' (w.heap.size + 3) zs ∧ Below w.heap.size w w' := by
  have HS := Lib.hid hs; clear hs
  go_enter Tryd.func14, Tryd.ntmps14
  have hb3 : Below w.heap.size w (((w.alloc (.cells #[.int .i64 n, v] 24)).alloc (.cells #[.int .i64 0, .slice none 0 0] 29)).alloc (.cells #[.int .i64 n, .slice none 0 0] 29)) := (((Below.refl _ _).alloc (Nat.le_refl _) _).alloc (by simp) _).alloc (by simp; omega) _
  have hcon := toInts_any v zs _ (HS.out.below hb3) hl
  simp only [World.size_alloc] at hcon
  have HH2 := Lib.hid (heap_new_at ((w.alloc (.cells #[.int .i64 n, v] 24)).alloc (.cells #[.int .i64 0, .slice none 0 0] 29)) (.cells #[.int .i64 n, .slice none 0 0] 29) (w.heap.size + 1 + 1) (by simp))
  have HH1 := Lib.hid (heap_old_at (heap_new_at (w.alloc (.cells #[.int .i64 n, v] 24)) (.cells #[.int .i64 0, .slice none 0 0] 29) (w.heap.size + 1) (by simp)) (.cells #[.int .i64 n, .slice none 0 0] 29))
  go_wp2_with (go_at_call 44; go_must (refine hcon.mono ?_; rintro e w1 ⟨rfl, hB1, hb1⟩; have HB1 := Lib.hid hB1; obtain ⟨a0, a1, fa0, fa1⟩ := two_cells ((hb1.block (w.heap.size + 1 + 1) (by omega)).trans HH2.out); obtain ⟨r0, r1, g0, g1⟩ := two_cells ((hb1.block (w.heap.size + 1) (by omega)).trans HH1.out); have RB := Lib.hid ((hb1.block (w.heap.size + 1) (by omega)).trans HH1.out); have hz := hB1.lt; have hb1' := hb3.trans (hb1.mono (by omega)); clear hB1 hb1))
  have hfin := two_set (a := .int .i64 n) (b := .slice (some ⟨w.heap.size + 1 + 1 + 1, 0, none⟩) zs.length zs.length) ((Below.heap_setCell w1 ⟨w.heap.size + 1 + 1, 1, none⟩ (.slice (some ⟨w.heap.size + 1 + 1 + 1, 0, none⟩) zs.length zs.length) (w.heap.size + 1) (by simp)).trans RB.out)
  refine bodyPost_ret (v := .agg #[.int .i64 n, .slice (some ⟨w.heap.size + 3, 0, none⟩) zs.length zs.length]) (results_cell_row (p := 2) (ty := 29) rfl _ _ (w.heap.size + 1) 29 _ (0, 0) _ rfl hfin Tryd.underlying29 rfl (by exact infoDg)) rfl ⟨rfl, ?_, ?_⟩
  · exact ((HB1.out.other (by simp) _).other (by simp; omega) _).other (by simp; omega) _
  · exact ((hb1'.setCell (p := ⟨w.heap.size + 1 + 1, 1, none⟩) (by simp; omega) _).setCell (p := ⟨w.heap.size + 1, 0, none⟩) (by simp) _).setCell (p := ⟨w.heap.size + 1, 1, none⟩) (by simp) _

set_option maxHeartbeats 800000 in
theorem eqDigraph_any (n m : Int) (v1 v2 : Value) (xs ys : List Int) (w : World) (h1 : Sl w v1 xs) (h2 : Sl w v2 ys) (hx : xs.length ≤ 9223372036854775807) :
    Calls Tryd.prog 17 #[.agg #[.int .i64 n, v1], .agg #[.int .i64 m, v2]] w fun e w' => e = .returned (.bool (decide (n = m) && decide (xs = ys))) ∧ Below w.heap.size w w' := by
  have H1 := Lib.hid h1; clear h1
  have H2 := Lib.hid h2; clear h2
  by_cases hn : n = m
  · subst hn
    have hb2 : Below w.heap.size w ((w.alloc (.cells #[.int .i64 n, v1] 29)).alloc (.cells #[.int .i64 n, v2] 29)) := ((Below.refl _ _).alloc (Nat.le_refl _) _).alloc (by simp) _
    have hc := eqInts_any v1 v2 xs ys _ (H1.out.below hb2) (H2.out.below hb2) hx
    have hnn : (n != n) = false := by simp
    have hd : (decide (n = n) && decide (xs = ys)) = decide (xs = ys) := by simp
    rw [hd]; clear hd
    generalize decide (xs = ys) = r at hc
    cases r
    all_goals
      go_enter Tryd.func17, Tryd.ntmps17
      go_wp2_with (go_at_call 47; refine hc.mono ?_; rintro e w1 ⟨rfl, hb1⟩)
      go_ret
      exact ⟨rfl, hb2.trans (hb1.mono (by simp; omega))⟩
  · have hnn : (n != m) = true := by simpa using hn
    have hd : (decide (n = m) && decide (xs = ys)) = false := by simp [hn]
    rw [hd]; clear hd hn
    go_enter Tryd.func17, Tryd.ntmps17
    go_wp2
    go_ret
    exact ⟨rfl, ((Below.refl _ _).alloc (Nat.le_refl _) _).alloc (by simp) _⟩

theorem eqDigraph_same (n : Int) (v1 v2 : Value) (xs : List Int) (w : World) (h1 : Sl w v1 xs) (h2 : Sl w v2 xs) (hx : xs.length ≤ 9223372036854775807) :
    Calls Tryd.prog 17 #[.agg #[.int .i64 n, v1], .agg #[.int .i64 n, v2]] w fun e w' => e = .returned (.bool true) ∧ Below w.heap.size w w' := by
  have := eqDigraph_any n n v1 v2 xs xs w h1 h2 hx
  simpa using this

set_option maxHeartbeats 800000 in
theorem markDigraph_any (n : Int) (u : Value) (B : Nat) (L : List Int) (k : Int) (w : World) (h : Own w B u L) (hk0 : 0 ≤ k) (hk1 : k ≤ 9007199254740992) (hl : L.length ≤ 9007199254740992) :
    Calls Tryd.prog 18 #[.agg #[.int .i64 n, u], .int .i64 k] w fun e w' => e = .returned (.int .i64 (k + (L.length : Int))) ∧ Touched w w' B u (markL k L.length) := by
  have D0 : Below w.heap.size w (w.alloc (.cells #[.int .i64 n, u] 29)) := (Below.refl _ _).alloc (Nat.le_refl _) _
  have hm := markInts_any u B L k (w.alloc (.cells #[.int .i64 n, u] 29)) (h.below D0) hk0 hk1 hl
  have hg0 := Lib.hid (World.grownBy_alloc w (.cells #[.int .i64 n, u] 29) u.ownBlock)
  clear h
  go_enter Tryd.func18, Tryd.ntmps18
  go_wp2_with (go_at_call 48; refine hm.mono ?_; rintro e w1 ⟨rfl, hM⟩; have HM := Lib.hid hM; clear hM)
  go_ret
  exact ⟨rfl, HM.out.1, grown_trans hg0.out HM.out.2.1⟩

set_option maxHeartbeats 800000 in
theorem heldDigraph_any (m : Int) (u : Value) (n : Nat) (k : Int) (w : World) (h : Sl w u (markL k n)) (hk0 : 0 ≤ k) (hk1 : k ≤ 9007199254740992) (hl : n ≤ 9007199254740992) :
    Calls Tryd.prog 23 #[.agg #[.int .i64 m, u], .int .i64 k] w fun e w' => e = .returned (.int .i64 (k + (n : Int))) ∧ Below w.heap.size w w' := by
  have D0 : Below w.heap.size w (w.alloc (.cells #[.int .i64 m, u] 29)) := (Below.refl _ _).alloc (Nat.le_refl _) _
  have hm := heldInts_any u n k (w.alloc (.cells #[.int .i64 m, u] 29)) (h.below D0) hk0 hk1 hl
  clear h D0
  go_enter Tryd.func23, Tryd.ntmps23
  go_wp2_with (go_at_call 49; refine hm.mono ?_; rintro e w1 ⟨rfl, rfl⟩)
  go_ret
  exact ⟨rfl, (Below.refl _ _).alloc (Nat.le_refl _) _⟩
end Go.Proofs.YtbncfhmpkoaffaaDoor
