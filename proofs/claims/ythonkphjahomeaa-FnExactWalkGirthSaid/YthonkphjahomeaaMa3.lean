/-
  Copies and comparison of bases. (A plain seat.)
-/
import Derived.Test.YthonkphjahomeaaMa2
namespace Go.Proofs.Ythonkphjahomeaa
set_option maxRecDepth 100000
open Go.RowKit

theorem three_set {w : World} {k : Nat} {x y z a b c : Value} {t : TypeId} (h : w.heap[k]? = some (.cells #[x, y, z] t (0, 0))) : (((w.setCell ⟨k, 0, none⟩ a).setCell ⟨k, 1, none⟩ b).setCell ⟨k, 2, none⟩ c).heap[k]? = some (.cells #[a, b, c] t (0, 0)) := by
  have h1 := heap_setCell_same w k 0 _ _ a h
  have h2 := heap_setCell_same _ k 1 _ _ b h1
  exact heap_setCell_same _ k 2 _ _ c h2
theorem infoBase : (Try.prog.info? 30).map (·.size) = some 3 := by kernel_rfl
theorem three_cells {w : World} {k : Nat} {x y z : Value} {t : TypeId} (h : w.heap[k]? = some (.cells #[x, y, z] t (0, 0))) : (w.cell? ⟨k, 0, none⟩ = some x ∧ w.cell? ⟨k, 1, none⟩ = some y ∧ w.cell? ⟨k, 2, none⟩ = some z) ∧ w.frozen? ⟨k, 0, none⟩ = false ∧ w.frozen? ⟨k, 1, none⟩ = false ∧ w.frozen? ⟨k, 2, none⟩ = false :=
  ⟨⟨by rw [cell_of_row w k 0 _ _ _ h]; rfl, by rw [cell_of_row w k 1 _ _ _ h]; rfl, by rw [cell_of_row w k 2 _ _ _ h]; rfl⟩, frozen_of_row w k 0 _ _ h, frozen_of_row w k 1 _ _ h, frozen_of_row w k 2 _ _ h⟩
theorem ABlk.other {w : World} {g : Nat} {zs : List Int} (h : ABlk w g zs) {a : Addr} (ha : g ≠ a.block) (v : Value) : ABlk (w.setCell a v) g zs := (Below.heap_setCell w a v g ha).trans h

set_option maxHeartbeats 800000 in
theorem szBase_any (n m : Int) (v : Value) (k : Nat) (fs : List Int) (left : Int) (w : World) (hs : Sa w v k fs) (h0 : 0 ≤ left) (h1 : left ≤ 1048576) (hl : k ≤ 9223372036854775807) :
    Calls Try.prog 4 #[.agg #[.int .i64 n, .int .i64 m, v], .int .i64 left] w fun e w' => e = .returned (.int .i64 (if left < k then -1 else left - k)) ∧ Below w.heap.size w w' := by
  have HS := Lib.hid hs; clear hs
  have hb1 : Below w.heap.size w (w.alloc (.cells #[.int .i64 n, .int .i64 m, v] 24)) := (Below.refl _ _).alloc (Nat.le_refl _) _
  have hc := szArcs_any v k fs left (w.alloc (.cells #[.int .i64 n, .int .i64 m, v] 24)) (HS.out.below hb1) h0 h1 hl
  by_cases hlt : left < k
  · have hi : (if left < (k : Int) then (-1 : Int) else left - k) = -1 := if_pos hlt
    rw [hi] at hc ⊢
    clear hi
    go_enter Try.func4, Try.ntmps4
    go_wp2_with (go_at_call 9; refine hc.mono ?_; rintro e w' ⟨rfl, rfl⟩)
    go_ret
    exact ⟨rfl, (Below.refl _ _).alloc (Nat.le_refl _) _⟩
  · have hi : (if left < (k : Int) then (-1 : Int) else left - k) = left - k := if_neg hlt
    rw [hi] at hc ⊢
    clear hi
    go_enter Try.func4, Try.ntmps4
    go_wp2_with (go_at_call 9; refine hc.mono ?_; rintro e w' ⟨rfl, rfl⟩)
    go_ret
    exact ⟨rfl, (Below.refl _ _).alloc (Nat.le_refl _) _⟩

set_option maxHeartbeats 800000 in
theorem toBase_any (n m : Int) (v : Value) (k : Nat) (fs : List Int) (w : World) (hs : Sa w v k fs) (hl : k ≤ 1048576) :
    Calls Try.prog 6 #[.agg #[.int .i64 n, .int .i64 m, v]] w fun e w' => e = .returned (.agg #[.int .i64 n, .int .i64 m, .slice (some ⟨w.heap.size + 3, 0, none⟩) k k]) ∧ ABlk w' (w.heap.size + 3) fs ∧ Below w.heap.size w w' := by
  have HS := Lib.hid hs; clear hs
  go_enter Try.func6, Try.ntmps6
  have hb3 : Below w.heap.size w (((w.alloc (.cells #[.int .i64 n, .int .i64 m, v] 24)).alloc (.cells #[.int .i64 0, .int .i64 0, .slice none 0 0] 30)).alloc (.cells #[.int .i64 n, .int .i64 m, .slice none 0 0] 30)) := (((Below.refl _ _).alloc (Nat.le_refl _) _).alloc (by simp) _).alloc (by simp; omega) _
  have hcon := toArcs_any v k fs _ (HS.out.below hb3) hl
  simp only [World.size_alloc] at hcon
  have HH2 := Lib.hid (heap_new_at ((w.alloc (.cells #[.int .i64 n, .int .i64 m, v] 24)).alloc (.cells #[.int .i64 0, .int .i64 0, .slice none 0 0] 30)) (.cells #[.int .i64 n, .int .i64 m, .slice none 0 0] 30) (w.heap.size + 1 + 1) (by simp))
  have HH1 := Lib.hid (heap_old_at (heap_new_at (w.alloc (.cells #[.int .i64 n, .int .i64 m, v] 24)) (.cells #[.int .i64 0, .int .i64 0, .slice none 0 0] 30) (w.heap.size + 1) (by simp)) (.cells #[.int .i64 n, .int .i64 m, .slice none 0 0] 30))
  go_wp2_with (go_at_call 12; go_must (refine hcon.mono ?_; rintro e w1 ⟨rfl, hB1, hb1⟩; have HB1 := Lib.hid hB1; obtain ⟨⟨a0, a1, a2⟩, fa0, fa1, fa2⟩ := three_cells ((hb1.block (w.heap.size + 1 + 1) (by omega)).trans HH2.out); obtain ⟨⟨r0, r1, r2⟩, g0, g1, g2⟩ := three_cells ((hb1.block (w.heap.size + 1) (by omega)).trans HH1.out); have RB := Lib.hid ((hb1.block (w.heap.size + 1) (by omega)).trans HH1.out); have hz := hB1.lt; have hb1' := hb3.trans (hb1.mono (by omega)); clear hB1))
  have hfin := three_set (a := .int .i64 n) (b := .int .i64 m) (c := .slice (some ⟨w.heap.size + 1 + 1 + 1, 0, none⟩) k k) ((Below.heap_setCell w1 ⟨w.heap.size + 1 + 1, 2, none⟩ (.slice (some ⟨w.heap.size + 1 + 1 + 1, 0, none⟩) k k) (w.heap.size + 1) (by simp)).trans RB.out)
  refine bodyPost_ret (v := .agg #[.int .i64 n, .int .i64 m, .slice (some ⟨w.heap.size + 3, 0, none⟩) k k]) (results_cell_row (p := 2) (ty := 30) rfl _ _ (w.heap.size + 1) 30 _ (0, 0) _ rfl hfin Try.underlying30 rfl (by exact infoBase)) rfl ⟨rfl, ?_, ?_⟩
  · exact (((HB1.out.other (by simp) _).other (by simp; omega) _).other (by simp; omega) _).other (by simp; omega) _
  · exact (((hb1'.setCell (p := ⟨w.heap.size + 1 + 1, 2, none⟩) (by simp; omega) _).setCell (p := ⟨w.heap.size + 1, 0, none⟩) (by simp) _).setCell (p := ⟨w.heap.size + 1, 1, none⟩) (by simp) _).setCell (p := ⟨w.heap.size + 1, 2, none⟩) (by simp) _

set_option maxHeartbeats 800000 in
theorem eqBase_same (n m : Int) (v1 v2 : Value) (k : Nat) (fs : List Int) (w : World) (h1 : Sa w v1 k fs) (h2 : Sa w v2 k fs) (hx : k ≤ 9223372036854775807) :
    Calls Try.prog 8 #[.agg #[.int .i64 n, .int .i64 m, v1], .agg #[.int .i64 n, .int .i64 m, v2]] w fun e w' => e = .returned (.bool true) ∧ Below w.heap.size w w' := by
  have hb2 : Below w.heap.size w ((w.alloc (.cells #[.int .i64 n, .int .i64 m, v1] 30)).alloc (.cells #[.int .i64 n, .int .i64 m, v2] 30)) := ((Below.refl _ _).alloc (Nat.le_refl _) _).alloc (by simp) _
  have hc := eqArcs_same v1 v2 k fs _ (h1.below hb2) (h2.below hb2) hx
  have hn1 : (n != n) = false := by simp
  have hn2 : (m != m) = false := by simp
  clear h1 h2
  go_enter Try.func8, Try.ntmps8
  go_wp2_with (go_at_call 16; refine hc.mono ?_; rintro e w1 ⟨rfl, hb1⟩)
  go_ret
  exact ⟨rfl, hb2.trans (hb1.mono (by simp; omega))⟩
end Go.Proofs.Ythonkphjahomeaa
