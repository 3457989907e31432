/-
  The graph of Petersen, both programs.
-/
import Derived.Test.YtkflcjhoghiffaaDoorNd0
namespace Go.Proofs.YtkflcjhoghiffaaDoor
set_option maxRecDepth 100000
open Go.RowKit

/-- The edges as the model puts them. -/
def petS : Nat → List (Nat × Nat)
  | 0 => []
  | i + 1 => ((petS i ++ [(i, (i + 1) % 5)]) ++ [(i, i + 5)]) ++ [(i + 5, (i + 2) % 5 + 5)]
def petL : List Int := rowsF 10 (adjS (ringS 5 2 5))
theorem pet_same : rowsF 10 (adjS (petS 5)) = petL := by decide +kernel
theorem petL_length : petL.length = 10 := rowsF_length _ _

set_option maxHeartbeats 1600000 in
theorem implPet_any (w : World) :
    Calls Tryd.prog 10 #[.string ⟨#[112, 101, 116, 101, 114, 115, 101, 110]⟩] w fun e w' => GRes w.heap.size 10 petL 0 e w' ∧ Below w.heap.size w w' := by
  obtain ⟨W, hW⟩ : ∃ W, W = w.alloc (.cells #[.int .i64 0, .slice none 0 0] 24) := ⟨_, rfl⟩
  have D0 : Below w.heap.size w W := by rw [hW]; exact (Below.refl _ _).alloc (Nat.le_refl _) _
  have s0 : W.heap.size = w.heap.size + 1 := by rw [hW]; simp
  have HR0 : Hid (W.heap[w.heap.size]? = some (.cells #[.int .i64 0, .slice none 0 0] 24 (0, 0))) := by show _ = _; rw [hW]; exact World.alloc_heap_new w _
  have hring : Calls Tryd.prog 26 #[.int .i64 5, .int .i64 2] W fun e w' => GRet W.heap.size 10 petL e w' ∧ Below W.heap.size W w' := implRing_any 5 2 10 W (by omega) (by omega) (by omega) (by omega) rfl
  have HRG := Lib.hid hring
  obtain ⟨P, hP⟩ : ∃ P, P = petL := ⟨_, rfl⟩
  have HPL : Hid (P.length = 10) := by show _ = _; rw [hP]; exact petL_length
  rw [← hP] at HRG
  rw [← hP]
  clear hring hP
  go_enter Tryd.func10, Tryd.ntmps10
  go_wp2_with fail
  rw [← hW]
  clear hW
  refine HRG.out.mono ?_
  rintro e w1 ⟨⟨r, rfl, hB, hr⟩, hb1⟩
  clear HRG
  have E1 := Lib.hid (D0.trans (hb1.mono (by omega)))
  have HR1 : Hid (w1.heap[w.heap.size]? = some (.cells #[.int .i64 0, .slice none 0 0] 24 (0, 0))) := (hb1.block _ (by omega)).trans HR0.out
  have HB := Lib.hid hB
  have hrw : w.heap.size < r := by omega
  obtain ⟨y0, y1, g0, g1⟩ := two_cells HR1.out
  clear hb1 hB D0
  go_wp2_with fail
  have hfin := two_set (a := .int .i64 10) (b := .slice (some ⟨r, 0, none⟩) 10 10) HR1.out
  refine bodyPost_ret (v := .tuple #[.agg #[.int .i64 10, .slice (some ⟨r, 0, none⟩) 10 10], .int .i64 0]) (results_cell2 (p := 2) (u := 3) (ty := 24) rfl _ _ w.heap.size 24 _ (0, 0) _ rfl hfin Tryd.underlying24 rfl (by exact info27)) rfl ⟨⟨_, rfl, ?_⟩, ?_⟩
  · have h := Own.of_blk ((HB.out.other (a := ⟨w.heap.size, 0, none⟩) (by simp; omega) (.int .i64 10)).other (a := ⟨w.heap.size, 1, none⟩) (by simp; omega) (.slice (some ⟨r, 0, none⟩) 10 10)) (B := w.heap.size) (by omega) (by rw [HPL.out]; unfold maxLen; omega)
    rw [HPL.out] at h
    exact h
  · exact (E1.out.setCell (p := ⟨w.heap.size, 0, none⟩) (by simp) _).setCell (p := ⟨w.heap.size, 1, none⟩) (by simp) _

/-- A graph and a truth value, the rows in memory of their own. -/
def BRes (B : Nat) (N : Int) (L : List Int) (c : Bool) (e : Ending) (w' : World) : Prop := ∃ u, e = .returned (.tuple #[.agg #[.int .i64 N, u], .bool c]) ∧ Own w' B u L

set_option maxHeartbeats 3200000 in
theorem specPet_any (w : World) :
    Calls Tryd.prog 18 #[.string ⟨#[112, 101, 116, 101, 114, 115, 101, 110]⟩] w fun e w' => BRes w.heap.size 10 petL true e w' ∧ Below w.heap.size w w' := by
  obtain ⟨W, hW⟩ : ∃ W, W = w.alloc (.cells #[.int .i64 0, .slice none 0 0] 24) := ⟨_, rfl⟩
  have D0 : Below w.heap.size w W := by rw [hW]; exact (Below.refl _ _).alloc (Nat.le_refl _) _
  have s0 : W.heap.size = w.heap.size + 1 := by rw [hW]; simp
  have HR0 : Hid (W.heap[w.heap.size]? = some (.cells #[.int .i64 0, .slice none 0 0] 24 (0, 0))) := by show _ = _; rw [hW]; exact World.alloc_heap_new w _
  have hem : Calls Tryd.prog 39 #[.int .i64 10] W fun e w' => e = .returned (.agg #[.int .i64 10, .slice (some ⟨W.heap.size + 1, 0, none⟩) 10 10]) ∧ Blk w' (W.heap.size + 1) (List.replicate 10 0) ∧ Below W.heap.size W w' := specEmpty_any 10 W (by omega)
  have HEM := Lib.hid hem
  obtain ⟨G, hG⟩ : ∃ G, G = W.heap.size + 1 := ⟨_, rfl⟩
  rw [← hG] at HEM
  have hGw : w.heap.size + 1 ≤ G := by omega
  clear hG
  have hPL : petL = rowsF 10 (adjS (petS 5)) := pet_same.symm
  rw [hPL]
  obtain ⟨P, hP⟩ : ∃ P, P = rowsF 10 (adjS (petS 5)) := ⟨_, rfl⟩
  rw [← hP]
  have HP := Lib.hid hP
  clear hem hPL hP
  go_enter Tryd.func18, Tryd.ntmps18
  go_wp2_with fail
  rw [← hW]
  clear hW
  refine HEM.out.mono ?_
  rintro e w1 ⟨rfl, hB1, hb1⟩
  clear HEM
  have l1 := hB1.lt
  have E1 := D0.trans (hb1.mono (by omega))
  have HR1 := Lib.hid ((hb1.block w.heap.size (by omega)).trans HR0.out)
  have HB1 : Hid (Blk w1 G (rowsF 10 (adjS (petS 0)))) := by show Blk _ _ _; rw [show adjS (petS 0) = fun _ _ => false from rfl, rowsF_none]; exact hB1
  clear hB1 hb1 HR0 D0
  go_wp2_with fail
  obtain ⟨w2, h2w⟩ : ∃ w2, w2 = w1.alloc (.cells #[.int .i64 10, .slice (some ⟨G, 0, none⟩) 10 10] 24) := ⟨_, rfl⟩
  have X2 : Hid (w2.heap[w1.heap.size]? = some (.cells #[.int .i64 10, .slice (some ⟨G, 0, none⟩) 10 10] 24 (0, 0))) := by rw [h2w]; exact World.alloc_heap_new w1 _
  have hb2 : Below w1.heap.size w1 w2 := by rw [h2w]; exact (Below.refl _ _).alloc (Nat.le_refl _) _
  rw [← h2w]
  clear h2w
  have HB2 := Lib.hid (HB1.out.belowAll hb2)
  have HR2 := Lib.hid ((hb2.block w.heap.size (by omega)).trans HR1.out)
  have E2 : Below w.heap.size w w2 := E1.trans (hb2.mono (by omega))
  have s2 : w1.heap.size + 1 ≤ w2.heap.size := (Array.getElem?_eq_some_iff.1 X2.out).1
  clear HB1 HR1 E1 hb2
  go_loopw [9] (fun i wr => ∃ v : Nat, v ≤ 5 ∧ i = .int .i64 v ∧ Hid (Blk wr G (rowsF 10 (adjS (petS v)))) ∧ Hid (wr.heap[w1.heap.size]? = some (.cells #[.int .i64 10, .slice (some ⟨G, 0, none⟩) 10 10] 24 (0, 0))) ∧ Below (w.heap.size + 1) w2 wr ∧ w1.heap.size + 1 ≤ wr.heap.size) (fun i _ => 5 - (intOf i).toNat)
  case atStart => exact ⟨0, Nat.zero_le _, rfl, HB2, X2, Below.refl _ _, s2⟩
  case round =>
    clear HB2 X2
    obtain ⟨v, hv, rfl, HB, HX, hE, hs⟩ := hrel
    by_cases hlt : (v : Int) < 5
    · have hv5 : v < 5 := by omega
      have hv0 : (0 : Int) ≤ v := by omega
      have q1 := Nat.mod_lt (v + 1) (show 5 > 0 by omega)
      have q2 := Nat.mod_lt (v + 2) (show 5 > 0 by omega)
      have E1 : ((v : Int) + 1) % 5 = (((v + 1) % 5 : Nat) : Int) := by simp
      have E2' : (v : Int) + 5 = ((v + 5 : Nat) : Int) := by simp
      have E3 : ((v : Int) + 2) % 5 + 5 = (((v + 2) % 5 + 5 : Nat) : Int) := by simp
      have HJ1 := Lib.hid (fun W1 h => put_at 10 G 10 (petS v) v ((v + 1) % 5) (v : Int) (((v : Int) + 1) % 5) W1 h (by omega) (by omega) (by omega) rfl E1)
      have HJ2 := Lib.hid (fun W1 h => put_at 10 G 10 (petS v ++ [(v, (v + 1) % 5)]) v (v + 5) (v : Int) ((v : Int) + 5) W1 h (by omega) (by omega) (by omega) rfl E2')
      have HJ3 := Lib.hid (fun W1 h => put_at 10 G 10 ((petS v ++ [(v, (v + 1) % 5)]) ++ [(v, v + 5)]) (v + 5) ((v + 2) % 5 + 5) ((v : Int) + 5) (((v : Int) + 2) % 5 + 5) W1 h (by omega) (by omega) (by omega) E2' E3)
      have m1 := Int.emod_nonneg ((v : Int) + 1) (b := (5 : Int)) (by omega)
      have m3 := Int.emod_nonneg ((v : Int) + 2) (b := (5 : Int)) (by omega)
      have m4 := Int.emod_lt_of_pos ((v : Int) + 2) (b := (5 : Int)) (by omega)
      have T1 : Int.tmod ((v : Int) + 1) 5 = ((v : Int) + 1) % 5 := Int.tmod_eq_emod_of_nonneg (by omega)
      have T2 : Int.tmod ((v : Int) + 2) 5 = ((v : Int) + 2) % 5 := Int.tmod_eq_emod_of_nonneg (by omega)
      have hGX : w1.heap.size ≠ G := by omega
      obtain ⟨x0, x1, -, -⟩ := two_cells HX.out
      clear E1 E2' E3 q1 q2
      go_wp2_with fail
      refine (HJ1.out _ HB.out).mono ?_
      rintro e w3 ⟨⟨_, rfl⟩, hB3, hg3⟩
      have HB3 := Lib.hid hB3
      have HX3 := Lib.hid ((hg3.block w1.heap.size (by omega) (by simp; omega)).trans HX.out)
      have hE3 := hE.grown hg3 (by omega) (fun j e => by cases e; omega)
      have t3 : w1.heap.size + 1 ≤ w3.heap.size := Nat.le_trans hs hg3.size
      clear x0 x1 hB3 hg3 HB HX hE hs HJ1
      obtain ⟨x0, x1, -, -⟩ := two_cells HX3.out
      go_wp2_with fail
      refine (HJ2.out _ HB3.out).mono ?_
      rintro e w4 ⟨⟨_, rfl⟩, hB4, hg4⟩
      have HB4 := Lib.hid hB4
      have HX4 := Lib.hid ((hg4.block w1.heap.size (by omega) (by simp; omega)).trans HX3.out)
      have hE4 := hE3.grown hg4 (by omega) (fun j e => by cases e; omega)
      have t4 : w1.heap.size + 1 ≤ w4.heap.size := Nat.le_trans t3 hg4.size
      clear x0 x1 hB4 hg4 HB3 HX3 hE3 t3 HJ2
      obtain ⟨x0, x1, -, -⟩ := two_cells HX4.out
      go_wp2_with fail
      refine (HJ3.out _ HB4.out).mono ?_
      rintro e w5 ⟨⟨_, rfl⟩, hB5, hg5⟩
      have HB5 : Hid (Blk w5 G (rowsF 10 (adjS (petS (v + 1))))) := hB5
      have HX5 := Lib.hid ((hg5.block w1.heap.size (by omega) (by simp; omega)).trans HX4.out)
      have hE5 := hE4.grown hg5 (by omega) (fun j e => by cases e; omega)
      have t5 : w1.heap.size + 1 ≤ w5.heap.size := Nat.le_trans t4 hg5.size
      clear x0 x1 hB5 hg5 HB4 HX4 hE4 t4 HJ3
      go_wp2_with fail
      go_roundw
      case rel => exact ⟨v + 1, by omega, by go_num, HB5, HX5, hE5, t5⟩
      case measure => simp [intOf]; omega
    · obtain rfl : v = 5 := by omega
      have RB := Lib.hid ((hE.block w.heap.size (by omega)).trans HR2.out)
      obtain ⟨r0, r1, g0, g1⟩ := two_cells RB.out
      obtain ⟨x0, x1, -, -⟩ := two_cells HX.out
      have EF := Lib.hid (E2.trans (hE.mono (by omega)))
      clear hE
      go_wp2_with fail
      have hfin := two_set (a := .int .i64 10) (b := .slice (some ⟨G, 0, none⟩) 10 10) RB.out
      refine bodyPost_ret (v := .tuple #[.agg #[.int .i64 10, .slice (some ⟨G, 0, none⟩) 10 10], .bool true]) (results_cell2 (p := 2) (u := 3) (ty := 24) rfl _ _ w.heap.size 24 _ (0, 0) _ rfl hfin Tryd.underlying24 rfl (by exact info27)) rfl ⟨⟨_, rfl, ?_⟩, ?_⟩
      · rw [HP.out]
        have h := Own.of_blk ((HB.out.other (a := ⟨w.heap.size, 0, none⟩) (by simp; omega) (.int .i64 10)).other (a := ⟨w.heap.size, 1, none⟩) (by simp; omega) (.slice (some ⟨G, 0, none⟩) 10 10)) (B := w.heap.size) (by omega) (by rw [rowsF_length]; unfold maxLen; omega)
        rw [rowsF_length] at h
        exact h
      · exact (EF.out.setCell (p := ⟨w.heap.size, 0, none⟩) (by simp) _).setCell (p := ⟨w.heap.size, 1, none⟩) (by simp) _
end Go.Proofs.YtkflcjhoghiffaaDoor
