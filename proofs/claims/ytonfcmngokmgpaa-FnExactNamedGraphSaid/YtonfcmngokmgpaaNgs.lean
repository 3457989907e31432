/-
  spec.l01Named at petersen, icosahedron, and the jump graphs. (gen: mk_ngs.py)
-/
import Derived.Test.YtonfcmngokmgpaaNgp
namespace Go.Proofs.Ytonfcmngokmgpaa
set_option maxRecDepth 100000
open Go.RowKit

/-- The edges of the graph of Petersen as the model puts them. -/
def petS : Nat → List (Nat × Nat)
  | 0 => []
  | i + 1 => ((petS i ++ [(i, (i + 1) % 5)]) ++ [(i, i + 5)]) ++ [(i + 5, (i + 2) % 5 + 5)]

set_option maxHeartbeats 3200000 in
theorem specPet_named (w : World) :
    Calls Try.prog 9 #[.string ⟨#[112, 101, 116, 101, 114, 115, 101, 110]⟩] w fun e w' => BRes w.heap.size 10 (rowsF 10 (adjS (petS 5))) true e w' ∧ Below w.heap.size w w' := by
  obtain ⟨W, hW⟩ : ∃ W, W = w.alloc (.cells #[.int .i64 0, .slice none 0 0] 24) := ⟨_, rfl⟩
  have D0 : Below w.heap.size w W := by rw [hW]; exact (Below.refl _ _).alloc (Nat.le_refl _) _
  have s0 : W.heap.size = w.heap.size + 1 := by rw [hW]; simp
  have HR0 : Hid (W.heap[w.heap.size]? = some (.cells #[.int .i64 0, .slice none 0 0] 24 (0, 0))) := by show _ = _; rw [hW]; exact World.alloc_heap_new w _
  have hem : Calls Try.prog 25 #[.int .i64 10] W fun e w' => e = .returned (.agg #[.int .i64 10, .slice (some ⟨W.heap.size + 1, 0, none⟩) 10 10]) ∧ Blk w' (W.heap.size + 1) (List.replicate 10 0) ∧ Below W.heap.size W w' := specEmpty_any 10 W (by omega)
  have HEM := Lib.hid hem
  obtain ⟨G, hG⟩ : ∃ G, G = W.heap.size + 1 := ⟨_, rfl⟩
  rw [← hG] at HEM
  have hGw : w.heap.size + 1 ≤ G := by omega
  clear hG hem
  go_enter Try.func9, Try.ntmps9
  go_wp2_with fail
  rw [← hW]
  clear hW
  refine HEM.out.mono ?_
  rintro e w1 ⟨rfl, hB1, hb1⟩
  clear HEM
  have l1 := hB1.lt
  have E1 := D0.trans (hb1.mono (by omega))
  have HR1 := Lib.hid ((hb1.block w.heap.size (by omega)).trans HR0.out)
  have HB1 : Hid (Blk w1 G (rowsF 10 (adjS (petS 0)))) := by show Blk _ _ _; rw [show adjS (petS 0) = fun _ _ => false from rfl, rowsF_none]; exact hB1
  clear hB1 hb1 HR0 D0
  go_wp2_with fail
  obtain ⟨w2, h2w⟩ : ∃ w2, w2 = w1.alloc (.cells #[.int .i64 10, .slice (some ⟨G, 0, none⟩) 10 10] 24) := ⟨_, rfl⟩
  have X2 : Hid (w2.heap[w1.heap.size]? = some (.cells #[.int .i64 10, .slice (some ⟨G, 0, none⟩) 10 10] 24 (0, 0))) := by rw [h2w]; exact World.alloc_heap_new w1 _
  have hb2 : Below w1.heap.size w1 w2 := by rw [h2w]; exact (Below.refl _ _).alloc (Nat.le_refl _) _
  rw [← h2w]
  clear h2w
  have HB2 := Lib.hid (HB1.out.belowAll hb2)
  have HR2 := Lib.hid ((hb2.block w.heap.size (by omega)).trans HR1.out)
  have E2 : Below w.heap.size w w2 := E1.trans (hb2.mono (by omega))
  have s2 : w1.heap.size + 1 ≤ w2.heap.size := (Array.getElem?_eq_some_iff.1 X2.out).1
  have l2 : w.heap.size < w1.heap.size := by omega
  have hGX : w1.heap.size ≠ G := by omega
  clear HB1 HR1 E1 hb2
  go_loopw [9] (fun i wr => ∃ v : Nat, v ≤ 5 ∧ i = .int .i64 v ∧ Hid (Blk wr G (rowsF 10 (adjS (petS v)))) ∧ Hid (wr.heap[w1.heap.size]? = some (.cells #[.int .i64 10, .slice (some ⟨G, 0, none⟩) 10 10] 24 (0, 0))) ∧ Below (w.heap.size + 1) w2 wr ∧ w1.heap.size + 1 ≤ wr.heap.size) (fun i _ => 5 - (intOf i).toNat)
  case atStart => exact ⟨0, Nat.zero_le _, rfl, HB2, X2, Below.refl _ _, s2⟩
  case round =>
    clear HB2 X2
    obtain ⟨v, hv, rfl, HB, HX, hE, hs⟩ := hrel
    by_cases hlt : (v : Int) < 5
    · have hv5 : v < 5 := by omega
      have hv0 : (0 : Int) ≤ v := by omega
      obtain ⟨u, hu⟩ : ∃ u, u = (v + 1) % 5 := ⟨_, rfl⟩
      have hu5 : u < 5 := by rw [hu]; exact Nat.mod_lt _ (by omega)
      have T1 : Int.tmod ((v : Int) + 1) 5 = (u : Int) := by rw [Int.tmod_eq_emod_of_nonneg (by omega), hu]; simp
      obtain ⟨u2, hu2⟩ : ∃ u, u = (v + 2) % 5 := ⟨_, rfl⟩
      have hu25 : u2 < 5 := by rw [hu2]; exact Nat.mod_lt _ (by omega)
      have T2 : Int.tmod ((v : Int) + 2) 5 = (u2 : Int) := by rw [Int.tmod_eq_emod_of_nonneg (by omega), hu2]; simp
      have HS : Hid (petS (v + 1) = ((petS v ++ [(v, u)]) ++ [(v, v + 5)]) ++ [(v + 5, u2 + 5)]) := by show _ = _; rw [hu, hu2]; rfl
      have HJ1 := Lib.hid (fun W1 h => put_at 10 G 10 (petS v) v u (v : Int) (u : Int) W1 h (by omega) (by omega) (by omega) rfl rfl)
      have HJ2 := Lib.hid (fun W1 h => put_at 10 G 10 (petS v ++ [(v, u)]) v (v + 5) (v : Int) ((v : Int) + 5) W1 h (by omega) (by omega) (by omega) rfl (by omega))
      have HJ3 := Lib.hid (fun W1 h => put_at 10 G 10 ((petS v ++ [(v, u)]) ++ [(v, v + 5)]) (v + 5) (u2 + 5) ((v : Int) + 5) ((u2 : Int) + 5) W1 h (by omega) (by omega) (by omega) (by omega) (by omega))
      clear hu hu2
      obtain ⟨x0, x1, -, -⟩ := two_cells HX.out
      go_wp2_with fail
      refine (HJ1.out _ HB.out).mono ?_
      rintro e w3 ⟨⟨_, rfl⟩, hB3, hg3⟩
      have HB3 := Lib.hid hB3
      have HX3 := Lib.hid ((hg3.block w1.heap.size (by omega) (by simp; omega)).trans HX.out)
      have hE3 := hE.grown hg3 (by omega) (fun j e => by cases e; omega)
      have t3 : w1.heap.size + 1 ≤ w3.heap.size := Nat.le_trans hs hg3.size
      clear x0 x1 hB3 hg3 HB HX hE hs HJ1
      obtain ⟨x0, x1, -, -⟩ := two_cells HX3.out
      go_wp2_with fail
      refine (HJ2.out _ HB3.out).mono ?_
      rintro e w4 ⟨⟨_, rfl⟩, hB4, hg4⟩
      have HB4 := Lib.hid hB4
      have HX4 := Lib.hid ((hg4.block w1.heap.size (by omega) (by simp; omega)).trans HX3.out)
      have hE4 := hE3.grown hg4 (by omega) (fun j e => by cases e; omega)
      have t4 : w1.heap.size + 1 ≤ w4.heap.size := Nat.le_trans t3 hg4.size
      clear x0 x1 hB4 hg4 HB3 HX3 hE3 t3 HJ2
      obtain ⟨x0, x1, -, -⟩ := two_cells HX4.out
      go_wp2_with fail
      refine (HJ3.out _ HB4.out).mono ?_
      rintro e w5 ⟨⟨_, rfl⟩, hB5, hg5⟩
      have HB5 := Lib.hid hB5
      have HX5 := Lib.hid ((hg5.block w1.heap.size (by omega) (by simp; omega)).trans HX4.out)
      have hE5 := hE4.grown hg5 (by omega) (fun j e => by cases e; omega)
      have t5 : w1.heap.size + 1 ≤ w5.heap.size := Nat.le_trans t4 hg5.size
      clear x0 x1 hB5 hg5 HB4 HX4 hE4 t4 HJ3
      have HBN : Hid (Blk w5 G (rowsF 10 (adjS (petS (v + 1))))) := by show Blk _ _ _; rw [HS.out]; exact HB5.out
      clear HB5 HS
      go_wp2_with fail
      go_roundw
      case rel => exact ⟨v + 1, by omega, by go_num, HBN, HX5, hE5, t5⟩
      case measure => simp [intOf]; omega
    · obtain rfl : v = 5 := by omega
      have RB := Lib.hid ((hE.block w.heap.size (by omega)).trans HR2.out)
      obtain ⟨r0, r1, g0, g1⟩ := two_cells RB.out
      obtain ⟨x0, x1, -, -⟩ := two_cells HX.out
      have EF := Lib.hid (E2.trans (hE.mono (by omega)))
      clear hE
      go_wp2_with fail
      have hfin := two_set (a := .int .i64 10) (b := .slice (some ⟨G, 0, none⟩) 10 10) RB.out
      refine bodyPost_ret (v := .tuple #[.agg #[.int .i64 10, .slice (some ⟨G, 0, none⟩) 10 10], .bool true]) (results_cell2 (p := 2) (u := 3) (ty := 24) rfl _ _ w.heap.size 24 _ (0, 0) _ rfl hfin Try.underlying24 rfl (by exact info27)) rfl ⟨⟨_, rfl, ?_⟩, ?_⟩
      · have h := Own.of_blk ((HB.out.other (a := ⟨w.heap.size, 0, none⟩) (by simp; omega) (.int .i64 10)).other (a := ⟨w.heap.size, 1, none⟩) (by simp; omega) (.slice (some ⟨G, 0, none⟩) 10 10)) (B := w.heap.size) (by omega) (by rw [rowsF_length]; unfold maxLen; omega)
        rw [rowsF_length] at h
        exact h
      · exact (EF.out.setCell (p := ⟨w.heap.size, 0, none⟩) (by simp) _).setCell (p := ⟨w.heap.size, 1, none⟩) (by simp) _

set_option maxHeartbeats 3200000 in
theorem specIco_named (w : World) :
    Calls Try.prog 9 #[.string ⟨#[105, 99, 111, 115, 97, 104, 101, 100, 114, 111, 110]⟩] w fun e w' => BRes w.heap.size 12 (rowsF 12 (adjS (icoS 5))) true e w' ∧ Below w.heap.size w w' := by
  obtain ⟨W, hW⟩ : ∃ W, W = w.alloc (.cells #[.int .i64 0, .slice none 0 0] 24) := ⟨_, rfl⟩
  have D0 : Below w.heap.size w W := by rw [hW]; exact (Below.refl _ _).alloc (Nat.le_refl _) _
  have s0 : W.heap.size = w.heap.size + 1 := by rw [hW]; simp
  have HR0 : Hid (W.heap[w.heap.size]? = some (.cells #[.int .i64 0, .slice none 0 0] 24 (0, 0))) := by show _ = _; rw [hW]; exact World.alloc_heap_new w _
  have hem : Calls Try.prog 25 #[.int .i64 12] W fun e w' => e = .returned (.agg #[.int .i64 12, .slice (some ⟨W.heap.size + 1, 0, none⟩) 12 12]) ∧ Blk w' (W.heap.size + 1) (List.replicate 12 0) ∧ Below W.heap.size W w' := specEmpty_any 12 W (by omega)
  have HEM := Lib.hid hem
  obtain ⟨G, hG⟩ : ∃ G, G = W.heap.size + 1 := ⟨_, rfl⟩
  rw [← hG] at HEM
  have hGw : w.heap.size + 1 ≤ G := by omega
  clear hG hem
  go_enter Try.func9, Try.ntmps9
  go_wp2_with fail
  rw [← hW]
  clear hW
  refine HEM.out.mono ?_
  rintro e w1 ⟨rfl, hB1, hb1⟩
  clear HEM
  have l1 := hB1.lt
  have E1 := D0.trans (hb1.mono (by omega))
  have HR1 := Lib.hid ((hb1.block w.heap.size (by omega)).trans HR0.out)
  have HB1 : Hid (Blk w1 G (rowsF 12 (adjS (icoS 0)))) := by show Blk _ _ _; rw [show adjS (icoS 0) = fun _ _ => false from rfl, rowsF_none]; exact hB1
  clear hB1 hb1 HR0 D0
  go_wp2_with fail
  obtain ⟨w2, h2w⟩ : ∃ w2, w2 = w1.alloc (.cells #[.int .i64 12, .slice (some ⟨G, 0, none⟩) 12 12] 24) := ⟨_, rfl⟩
  have X2 : Hid (w2.heap[w1.heap.size]? = some (.cells #[.int .i64 12, .slice (some ⟨G, 0, none⟩) 12 12] 24 (0, 0))) := by rw [h2w]; exact World.alloc_heap_new w1 _
  have hb2 : Below w1.heap.size w1 w2 := by rw [h2w]; exact (Below.refl _ _).alloc (Nat.le_refl _) _
  rw [← h2w]
  clear h2w
  have HB2 := Lib.hid (HB1.out.belowAll hb2)
  have HR2 := Lib.hid ((hb2.block w.heap.size (by omega)).trans HR1.out)
  have E2 : Below w.heap.size w w2 := E1.trans (hb2.mono (by omega))
  have s2 : w1.heap.size + 1 ≤ w2.heap.size := (Array.getElem?_eq_some_iff.1 X2.out).1
  have l2 : w.heap.size < w1.heap.size := by omega
  have hGX : w1.heap.size ≠ G := by omega
  clear HB1 HR1 E1 hb2
  go_loopw [11] (fun i wr => ∃ v : Nat, v ≤ 5 ∧ i = .int .i64 v ∧ Hid (Blk wr G (rowsF 12 (adjS (icoS v)))) ∧ Hid (wr.heap[w1.heap.size]? = some (.cells #[.int .i64 12, .slice (some ⟨G, 0, none⟩) 12 12] 24 (0, 0))) ∧ Below (w.heap.size + 1) w2 wr ∧ w1.heap.size + 1 ≤ wr.heap.size) (fun i _ => 5 - (intOf i).toNat)
  case atStart => exact ⟨0, Nat.zero_le _, rfl, HB2, X2, Below.refl _ _, s2⟩
  case round =>
    clear HB2 X2
    obtain ⟨v, hv, rfl, HB, HX, hE, hs⟩ := hrel
    by_cases hlt : (v : Int) < 5
    · have hv5 : v < 5 := by omega
      have hv0 : (0 : Int) ≤ v := by omega
      obtain ⟨u, hu⟩ : ∃ u, u = (v + 1) % 5 := ⟨_, rfl⟩
      have hu5 : u < 5 := by rw [hu]; exact Nat.mod_lt _ (by omega)
      have T1 : Int.tmod ((v : Int) + 1) 5 = (u : Int) := by rw [Int.tmod_eq_emod_of_nonneg (by omega), hu]; simp
      have HS : Hid (icoS (v + 1) = ((((((icoS v) ++ [(0, 1 + v)]) ++ [(11, 6 + v)]) ++ [(1 + v, 1 + u)]) ++ [(6 + v, 6 + u)]) ++ [(1 + v, 6 + v)]) ++ [(1 + v, 6 + u)]) := by show _ = _; rw [hu]; rfl
      have HJ1 := Lib.hid (fun W1 h => put_at 12 G 12 (icoS v) (0) (1 + v) (0) (1 + (v : Int)) W1 h (by omega) (by omega) (by omega) (by omega) (by omega))
      have HJ2 := Lib.hid (fun W1 h => put_at 12 G 12 ((icoS v) ++ [(0, 1 + v)]) (11) (6 + v) (11) (6 + (v : Int)) W1 h (by omega) (by omega) (by omega) (by omega) (by omega))
      have HJ3 := Lib.hid (fun W1 h => put_at 12 G 12 (((icoS v) ++ [(0, 1 + v)]) ++ [(11, 6 + v)]) (1 + v) (1 + u) (1 + (v : Int)) (1 + (u : Int)) W1 h (by omega) (by omega) (by omega) (by omega) (by omega))
      have HJ4 := Lib.hid (fun W1 h => put_at 12 G 12 ((((icoS v) ++ [(0, 1 + v)]) ++ [(11, 6 + v)]) ++ [(1 + v, 1 + u)]) (6 + v) (6 + u) (6 + (v : Int)) (6 + (u : Int)) W1 h (by omega) (by omega) (by omega) (by omega) (by omega))
      have HJ5 := Lib.hid (fun W1 h => put_at 12 G 12 (((((icoS v) ++ [(0, 1 + v)]) ++ [(11, 6 + v)]) ++ [(1 + v, 1 + u)]) ++ [(6 + v, 6 + u)]) (1 + v) (6 + v) (1 + (v : Int)) (6 + (v : Int)) W1 h (by omega) (by omega) (by omega) (by omega) (by omega))
      have HJ6 := Lib.hid (fun W1 h => put_at 12 G 12 ((((((icoS v) ++ [(0, 1 + v)]) ++ [(11, 6 + v)]) ++ [(1 + v, 1 + u)]) ++ [(6 + v, 6 + u)]) ++ [(1 + v, 6 + v)]) (1 + v) (6 + u) (1 + (v : Int)) (6 + (u : Int)) W1 h (by omega) (by omega) (by omega) (by omega) (by omega))
      clear hu
      obtain ⟨x0, x1, -, -⟩ := two_cells HX.out
      go_wp2_with fail
      refine (HJ1.out _ HB.out).mono ?_
      rintro e w3 ⟨⟨_, rfl⟩, hB3, hg3⟩
      have HB3 := Lib.hid hB3
      have HX3 := Lib.hid ((hg3.block w1.heap.size (by omega) (by simp; omega)).trans HX.out)
      have hE3 := hE.grown hg3 (by omega) (fun j e => by cases e; omega)
      have t3 : w1.heap.size + 1 ≤ w3.heap.size := Nat.le_trans hs hg3.size
      clear x0 x1 hB3 hg3 HB HX hE hs HJ1
      obtain ⟨x0, x1, -, -⟩ := two_cells HX3.out
      go_wp2_with fail
      refine (HJ2.out _ HB3.out).mono ?_
      rintro e w4 ⟨⟨_, rfl⟩, hB4, hg4⟩
      have HB4 := Lib.hid hB4
      have HX4 := Lib.hid ((hg4.block w1.heap.size (by omega) (by simp; omega)).trans HX3.out)
      have hE4 := hE3.grown hg4 (by omega) (fun j e => by cases e; omega)
      have t4 : w1.heap.size + 1 ≤ w4.heap.size := Nat.le_trans t3 hg4.size
      clear x0 x1 hB4 hg4 HB3 HX3 hE3 t3 HJ2
      obtain ⟨x0, x1, -, -⟩ := two_cells HX4.out
      go_wp2_with fail
      refine (HJ3.out _ HB4.out).mono ?_
      rintro e w5 ⟨⟨_, rfl⟩, hB5, hg5⟩
      have HB5 := Lib.hid hB5
      have HX5 := Lib.hid ((hg5.block w1.heap.size (by omega) (by simp; omega)).trans HX4.out)
      have hE5 := hE4.grown hg5 (by omega) (fun j e => by cases e; omega)
      have t5 : w1.heap.size + 1 ≤ w5.heap.size := Nat.le_trans t4 hg5.size
      clear x0 x1 hB5 hg5 HB4 HX4 hE4 t4 HJ3
      obtain ⟨x0, x1, -, -⟩ := two_cells HX5.out
      go_wp2_with fail
      refine (HJ4.out _ HB5.out).mono ?_
      rintro e w6 ⟨⟨_, rfl⟩, hB6, hg6⟩
      have HB6 := Lib.hid hB6
      have HX6 := Lib.hid ((hg6.block w1.heap.size (by omega) (by simp; omega)).trans HX5.out)
      have hE6 := hE5.grown hg6 (by omega) (fun j e => by cases e; omega)
      have t6 : w1.heap.size + 1 ≤ w6.heap.size := Nat.le_trans t5 hg6.size
      clear x0 x1 hB6 hg6 HB5 HX5 hE5 t5 HJ4
      obtain ⟨x0, x1, -, -⟩ := two_cells HX6.out
      go_wp2_with fail
      refine (HJ5.out _ HB6.out).mono ?_
      rintro e w7 ⟨⟨_, rfl⟩, hB7, hg7⟩
      have HB7 := Lib.hid hB7
      have HX7 := Lib.hid ((hg7.block w1.heap.size (by omega) (by simp; omega)).trans HX6.out)
      have hE7 := hE6.grown hg7 (by omega) (fun j e => by cases e; omega)
      have t7 : w1.heap.size + 1 ≤ w7.heap.size := Nat.le_trans t6 hg7.size
      clear x0 x1 hB7 hg7 HB6 HX6 hE6 t6 HJ5
      obtain ⟨x0, x1, -, -⟩ := two_cells HX7.out
      go_wp2_with fail
      refine (HJ6.out _ HB7.out).mono ?_
      rintro e w8 ⟨⟨_, rfl⟩, hB8, hg8⟩
      have HB8 := Lib.hid hB8
      have HX8 := Lib.hid ((hg8.block w1.heap.size (by omega) (by simp; omega)).trans HX7.out)
      have hE8 := hE7.grown hg8 (by omega) (fun j e => by cases e; omega)
      have t8 : w1.heap.size + 1 ≤ w8.heap.size := Nat.le_trans t7 hg8.size
      clear x0 x1 hB8 hg8 HB7 HX7 hE7 t7 HJ6
      have HBN : Hid (Blk w8 G (rowsF 12 (adjS (icoS (v + 1))))) := by show Blk _ _ _; rw [HS.out]; exact HB8.out
      clear HB8 HS
      go_wp2_with fail
      go_roundw
      case rel => exact ⟨v + 1, by omega, by go_num, HBN, HX8, hE8, t8⟩
      case measure => simp [intOf]; omega
    · obtain rfl : v = 5 := by omega
      have RB := Lib.hid ((hE.block w.heap.size (by omega)).trans HR2.out)
      obtain ⟨r0, r1, g0, g1⟩ := two_cells RB.out
      obtain ⟨x0, x1, -, -⟩ := two_cells HX.out
      have EF := Lib.hid (E2.trans (hE.mono (by omega)))
      clear hE
      go_wp2_with fail
      have hfin := two_set (a := .int .i64 12) (b := .slice (some ⟨G, 0, none⟩) 12 12) RB.out
      refine bodyPost_ret (v := .tuple #[.agg #[.int .i64 12, .slice (some ⟨G, 0, none⟩) 12 12], .bool true]) (results_cell2 (p := 2) (u := 3) (ty := 24) rfl _ _ w.heap.size 24 _ (0, 0) _ rfl hfin Try.underlying24 rfl (by exact info27)) rfl ⟨⟨_, rfl, ?_⟩, ?_⟩
      · have h := Own.of_blk ((HB.out.other (a := ⟨w.heap.size, 0, none⟩) (by simp; omega) (.int .i64 12)).other (a := ⟨w.heap.size, 1, none⟩) (by simp; omega) (.slice (some ⟨G, 0, none⟩) 12 12)) (B := w.heap.size) (by omega) (by rw [rowsF_length]; unfold maxLen; omega)
        rw [rowsF_length] at h
        exact h
      · exact (EF.out.setCell (p := ⟨w.heap.size, 0, none⟩) (by simp) _).setCell (p := ⟨w.heap.size, 1, none⟩) (by simp) _
end Go.Proofs.Ytonfcmngokmgpaa
