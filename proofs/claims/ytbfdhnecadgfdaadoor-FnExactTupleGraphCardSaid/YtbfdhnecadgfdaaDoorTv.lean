/-
  planePoint.times.
-/
import Derived.Test.YtbfdhnecadgfdaaDoorTu
namespace Go.Proofs.YtbfdhnecadgfdaaDoor
set_option maxRecDepth 100000
open Go.RowKit

theorem three_set {w : World} {k : Nat} {x y z a b c : Value} {t : TypeId} (h : w.heap[k]? = some (.cells #[x, y, z] t (0, 0))) : (((w.setCell ⟨k, 0, none⟩ a).setCell ⟨k, 1, none⟩ b).setCell ⟨k, 2, none⟩ c).heap[k]? = some (.cells #[a, b, c] t (0, 0)) := by
  have h1 := heap_setCell_same w k 0 _ _ a h
  have h2 := heap_setCell_same _ k 1 _ _ b h1
  exact heap_setCell_same _ k 2 _ _ c h2
theorem rest_bd {x q : Int} (hq : 2 ≤ q ∧ q ≤ 7) : 0 ≤ x % q ∧ x % q ≤ 6 := by
  have h1 := Int.emod_nonneg x (b := q) (by omega)
  have h2 := Int.emod_lt_of_pos x (b := q) (by omega)
  omega

set_option maxHeartbeats 1600000 in
theorem times_any (a b c q y : Int) (w : World) (hq : 2 ≤ q ∧ q ≤ 7) (ha : 0 ≤ a ∧ a ≤ 6) (hb : 0 ≤ b ∧ b ≤ 6) (hc : 0 ≤ c ∧ c ≤ 6) (hy : 0 ≤ y ∧ y ≤ 6) :
    Calls Tryd.prog 76 #[.agg #[.int .i64 a, .int .i64 b, .int .i64 c], .int .i64 q, .int .i64 y] w fun en w' => en = .returned (.agg #[.int .i64 (a * y % q), .int .i64 (b * y % q), .int .i64 (c * y % q)]) ∧ Below w.heap.size w w' := by
  obtain ⟨p1, p2⟩ := prod_bd ha.1 ha.2 hy.1 hy.2
  obtain ⟨p3, p4⟩ := prod_bd hb.1 hb.2 hy.1 hy.2
  obtain ⟨p5, p6⟩ := prod_bd hc.1 hc.2 hy.1 hy.2
  obtain ⟨q1, q2⟩ := hq
  obtain ⟨W, hW⟩ : ∃ W, W = (w.alloc (.cells #[.int .i64 a, .int .i64 b, .int .i64 c] 53)).alloc (.cells #[.int .i64 0, .int .i64 0, .int .i64 0] 53) := ⟨_, rfl⟩
  have D0 : Below w.heap.size w W := by rw [hW]; exact ((Below.refl _ _).alloc (Nat.le_refl _) _).alloc (by simp) _
  have H1 : Hid (W.heap[w.heap.size]? = some (.cells #[.int .i64 a, .int .i64 b, .int .i64 c] 53 (0, 0))) := by rw [hW]; exact heap_old_at (World.alloc_heap_new w _) _
  have H2 : Hid (W.heap[w.heap.size + 1]? = some (.cells #[.int .i64 0, .int .i64 0, .int .i64 0] 53 (0, 0))) := by rw [hW]; exact heap_new_at _ _ _ (by simp)
  clear ha hb hc hy
  go_enter Tryd.func76, Tryd.ntmps76
  go_wp2_with fail
  rw [← hW]
  clear hW
  go_loopw [7, 8] (fun _ i wr => Hid (wr.heap[w.heap.size + 1]? = some (.cells #[.int .i64 0, .int .i64 0, .int .i64 0] 53 (0, 0))) ∧ Below w.heap.size w wr ∧
    ((i = .int .i64 0 ∧ Hid (wr.heap[w.heap.size]? = some (.cells #[.int .i64 a, .int .i64 b, .int .i64 c] 53 (0, 0)))) ∨ (i = .int .i64 1 ∧ Hid (wr.heap[w.heap.size]? = some (.cells #[.int .i64 (a * y % q), .int .i64 b, .int .i64 c] 53 (0, 0)))) ∨ (i = .int .i64 2 ∧ Hid (wr.heap[w.heap.size]? = some (.cells #[.int .i64 (a * y % q), .int .i64 (b * y % q), .int .i64 c] 53 (0, 0)))) ∨ (i = .int .i64 3 ∧ Hid (wr.heap[w.heap.size]? = some (.cells #[.int .i64 (a * y % q), .int .i64 (b * y % q), .int .i64 (c * y % q)] 53 (0, 0)))))) (fun _ i _ => 3 - (intOf i).toNat)
  case atStart => exact ⟨H2, D0, .inl ⟨rfl, H1⟩⟩
  case round =>
    obtain ⟨K2, hE, hcs⟩ := hrel
    obtain ⟨⟨y0, y1, y2⟩, g0, g1, g2⟩ := three_at K2.out
    rcases hcs with ⟨rfl, K1⟩ | ⟨rfl, K1⟩ | ⟨rfl, K1⟩ | ⟨rfl, K1⟩
    · obtain ⟨⟨x0, x1, x2⟩, f0, f1, f2⟩ := three_at K1.out
      have K1' : Hid ((wr.setCell ⟨w.heap.size, 0, none⟩ (.int .i64 (a * y % q))).heap[w.heap.size]? = some (.cells #[.int .i64 (a * y % q), .int .i64 b, .int .i64 c] 53 (0, 0))) := heap_setCell_same wr w.heap.size 0 _ _ _ K1.out
      have K2' : Hid ((wr.setCell ⟨w.heap.size, 0, none⟩ (.int .i64 (a * y % q))).heap[w.heap.size + 1]? = some (.cells #[.int .i64 0, .int .i64 0, .int .i64 0] 53 (0, 0))) := (Below.heap_setCell wr ⟨w.heap.size, 0, none⟩ _ (w.heap.size + 1) (by simp)).trans K2.out
      have hE' := hE.setCell (p := ⟨w.heap.size, 0, none⟩) (by simp) (.int .i64 (a * y % q))
      go_wp2_with fail
      go_roundw
      case rel => exact ⟨K2', hE', .inr (.inl ⟨by go_num, K1'⟩)⟩
      case measure => simp [intOf]
    · obtain ⟨⟨x0, x1, x2⟩, f0, f1, f2⟩ := three_at K1.out
      have K1' : Hid ((wr.setCell ⟨w.heap.size, 1, none⟩ (.int .i64 (b * y % q))).heap[w.heap.size]? = some (.cells #[.int .i64 (a * y % q), .int .i64 (b * y % q), .int .i64 c] 53 (0, 0))) := heap_setCell_same wr w.heap.size 1 _ _ _ K1.out
      have K2' : Hid ((wr.setCell ⟨w.heap.size, 1, none⟩ (.int .i64 (b * y % q))).heap[w.heap.size + 1]? = some (.cells #[.int .i64 0, .int .i64 0, .int .i64 0] 53 (0, 0))) := (Below.heap_setCell wr ⟨w.heap.size, 1, none⟩ _ (w.heap.size + 1) (by simp)).trans K2.out
      have hE' := hE.setCell (p := ⟨w.heap.size, 1, none⟩) (by simp) (.int .i64 (b * y % q))
      go_wp2_with fail
      go_roundw
      case rel => exact ⟨K2', hE', .inr (.inr (.inl ⟨by go_num, K1'⟩))⟩
      case measure => simp [intOf]
    · obtain ⟨⟨x0, x1, x2⟩, f0, f1, f2⟩ := three_at K1.out
      have K1' : Hid ((wr.setCell ⟨w.heap.size, 2, none⟩ (.int .i64 (c * y % q))).heap[w.heap.size]? = some (.cells #[.int .i64 (a * y % q), .int .i64 (b * y % q), .int .i64 (c * y % q)] 53 (0, 0))) := heap_setCell_same wr w.heap.size 2 _ _ _ K1.out
      have K2' : Hid ((wr.setCell ⟨w.heap.size, 2, none⟩ (.int .i64 (c * y % q))).heap[w.heap.size + 1]? = some (.cells #[.int .i64 0, .int .i64 0, .int .i64 0] 53 (0, 0))) := (Below.heap_setCell wr ⟨w.heap.size, 2, none⟩ _ (w.heap.size + 1) (by simp)).trans K2.out
      have hE' := hE.setCell (p := ⟨w.heap.size, 2, none⟩) (by simp) (.int .i64 (c * y % q))
      go_wp2_with fail
      go_roundw
      case rel => exact ⟨K2', hE', .inr (.inr (.inr ⟨by go_num, K1'⟩))⟩
      case measure => simp [intOf]
    · obtain ⟨⟨x0, x1, x2⟩, f0, f1, f2⟩ := three_at K1.out
      go_wp2_with fail
      have hfin := three_set (a := .int .i64 (a * y % q)) (b := .int .i64 (b * y % q)) (c := .int .i64 (c * y % q)) K2.out
      exact bodyPost_ret (v := .agg #[.int .i64 (a * y % q), .int .i64 (b * y % q), .int .i64 (c * y % q)]) (results_cell_row (p := 6) (ty := 53) rfl _ _ (w.heap.size + 1) 53 _ (0, 0) _ rfl hfin Tryd.underlying53 rfl (by exact info3T)) rfl ⟨rfl, ((hE.setCell (p := ⟨w.heap.size + 1, 0, none⟩) (by simp) _).setCell (p := ⟨w.heap.size + 1, 1, none⟩) (by simp) _).setCell (p := ⟨w.heap.size + 1, 2, none⟩) (by simp) _⟩
end Go.Proofs.YtbfdhnecadgfdaaDoor
