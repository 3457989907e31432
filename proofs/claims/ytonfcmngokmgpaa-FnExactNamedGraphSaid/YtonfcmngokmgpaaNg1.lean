/-
  impl.icosahedronGraph, impl.hoffmanSingletonGraph. (gen: mk_ng0.py)
-/
import Derived.Test.YtonfcmngokmgpaaRg
namespace Go.Proofs.Ytonfcmngokmgpaa
set_option maxRecDepth 100000
open Go.RowKit Go.Maps Go.WideMaps Go.WideElems

def icoS : Nat → List (Nat × Nat)
  | 0 => []
  | v + 1 => ((((((icoS v) ++ [(0, 1 + v)]) ++ [(11, 6 + v)]) ++ [(1 + v, 1 + (v + 1) % 5)]) ++ [(6 + v, 6 + (v + 1) % 5)]) ++ [(1 + v, 6 + v)]) ++ [(1 + v, 6 + (v + 1) % 5)]
theorem icoS_length : ∀ v, (icoS v).length = 6 * v
  | 0 => rfl
  | v + 1 => by simp [icoS, icoS_length v]; omega

set_option maxHeartbeats 3200000 in
theorem implIco_any (w : World) :
    Calls Try.prog 17 #[] w fun e w' => GRet w.heap.size 12 (rowsF 12 (adjS (icoS 5))) e w' ∧ Below w.heap.size w w' := by
  have hmm := @run_makeMap Try.prog
  have D0 : Below w.heap.size w ((w.alloc (.cells #[.int .i64 0, .slice none 0 0] 24)).alloc (.map #[] 0)) := ((Below.refl _ _).alloc (Nat.le_refl _) _).alloc (by simp) _
  have HH := Lib.hid (heap_old_at (World.alloc_heap_new w (.cells #[.int .i64 0, .slice none 0 0] 24)) (.map #[] 0))
  have HP0 := Lib.hid (PS.made (w.alloc (.cells #[.int .i64 0, .slice none 0 0] 24)))
  obtain ⟨W, hW⟩ : ∃ W, W = ((w.alloc (.cells #[.int .i64 0, .slice none 0 0] 24)).alloc (.map #[] 0)) := ⟨_, rfl⟩
  have hsz : w.heap.size + 2 ≤ W.heap.size := by rw [hW]; simp
  rw [← hW] at D0 HH HP0
  rw [World.size_alloc] at HP0
  go_enter Try.func17, Try.ntmps17
  go_wp2_with fail
  rw [← hW]
  clear hW hmm
  go_loopw [5] (fun i wr => ∃ v : Nat, v ≤ 5 ∧ i = .int .i64 v ∧ Hid (PS wr (w.heap.size + 1) (icoS v)) ∧ Below (w.heap.size + 1) W wr ∧ W.heap.size ≤ wr.heap.size) (fun i _ => 5 - (intOf i).toNat)
  case atStart => exact ⟨0, Nat.zero_le _, rfl, HP0, Below.refl _ _, Nat.le_refl _⟩
  case round =>
    clear HP0
    obtain ⟨v, hv, rfl, HP, hE, hs⟩ := hrel
    have HL := Lib.hid (icoS_length v)
    by_cases hlt : (v : Int) < 5
    · have hv0 : (0 : Int) ≤ v := by omega
      obtain ⟨u, hu⟩ : ∃ u, u = (v + 1) % 5 := ⟨_, rfl⟩
      have hu5 : u < 5 := by rw [hu]; exact Nat.mod_lt _ (by omega)
      have T1 : Int.tmod ((v : Int) + 1) 5 = (u : Int) := by rw [Int.tmod_eq_emod_of_nonneg (by omega), hu]; simp
      have HS : Hid (icoS (v + 1) = ((((((icoS v) ++ [(0, 1 + v)]) ++ [(11, 6 + v)]) ++ [(1 + v, 1 + u)]) ++ [(6 + v, 6 + u)]) ++ [(1 + v, 6 + v)]) ++ [(1 + v, 6 + u)]) := by show _ = _; rw [hu]; rfl
      clear hu
      have HJ1 := Lib.hid (fun W1 h => join_at (w.heap.size + 1) (icoS v) (0) (1 + v) (0) (1 + (v : Int)) W1 h (by simp [HL.out]; omega) (by omega) (by omega) (by omega) (by omega))
      have HJ2 := Lib.hid (fun W1 h => join_at (w.heap.size + 1) ((icoS v) ++ [(0, 1 + v)]) (11) (6 + v) (11) (6 + (v : Int)) W1 h (by simp [HL.out]; omega) (by omega) (by omega) (by omega) (by omega))
      have HJ3 := Lib.hid (fun W1 h => join_at (w.heap.size + 1) (((icoS v) ++ [(0, 1 + v)]) ++ [(11, 6 + v)]) (1 + v) (1 + u) (1 + (v : Int)) (1 + (u : Int)) W1 h (by simp [HL.out]; omega) (by omega) (by omega) (by omega) (by omega))
      have HJ4 := Lib.hid (fun W1 h => join_at (w.heap.size + 1) ((((icoS v) ++ [(0, 1 + v)]) ++ [(11, 6 + v)]) ++ [(1 + v, 1 + u)]) (6 + v) (6 + u) (6 + (v : Int)) (6 + (u : Int)) W1 h (by simp [HL.out]; omega) (by omega) (by omega) (by omega) (by omega))
      have HJ5 := Lib.hid (fun W1 h => join_at (w.heap.size + 1) (((((icoS v) ++ [(0, 1 + v)]) ++ [(11, 6 + v)]) ++ [(1 + v, 1 + u)]) ++ [(6 + v, 6 + u)]) (1 + v) (6 + v) (1 + (v : Int)) (6 + (v : Int)) W1 h (by simp [HL.out]; omega) (by omega) (by omega) (by omega) (by omega))
      have HJ6 := Lib.hid (fun W1 h => join_at (w.heap.size + 1) ((((((icoS v) ++ [(0, 1 + v)]) ++ [(11, 6 + v)]) ++ [(1 + v, 1 + u)]) ++ [(6 + v, 6 + u)]) ++ [(1 + v, 6 + v)]) (1 + v) (6 + u) (1 + (v : Int)) (6 + (u : Int)) W1 h (by simp [HL.out]; omega) (by omega) (by omega) (by omega) (by omega))
      go_wp2_with fail
      refine (HJ1.out _ HP.out).mono ?_
      rintro e w1 ⟨⟨v1, rfl⟩, hP1, hg1⟩
      have hE1 := hE.grown hg1 (by omega) (fun j e => by cases e; omega)
      have t1 := hg1.size
      clear hE hg1 HJ1 HP
      have HPP1 := Lib.hid hP1
      go_wp2_with fail
      refine (HJ2.out _ HPP1.out).mono ?_
      rintro e w2 ⟨⟨v2, rfl⟩, hP2, hg2⟩
      have hE2 := hE1.grown hg2 (by omega) (fun j e => by cases e; omega)
      have t2 := hg2.size
      clear hE1 hg2 HJ2 hP1
      have HPP2 := Lib.hid hP2
      go_wp2_with fail
      refine (HJ3.out _ HPP2.out).mono ?_
      rintro e w3 ⟨⟨v3, rfl⟩, hP3, hg3⟩
      have hE3 := hE2.grown hg3 (by omega) (fun j e => by cases e; omega)
      have t3 := hg3.size
      clear hE2 hg3 HJ3 hP2
      have HPP3 := Lib.hid hP3
      go_wp2_with fail
      refine (HJ4.out _ HPP3.out).mono ?_
      rintro e w4 ⟨⟨v4, rfl⟩, hP4, hg4⟩
      have hE4 := hE3.grown hg4 (by omega) (fun j e => by cases e; omega)
      have t4 := hg4.size
      clear hE3 hg4 HJ4 hP3
      have HPP4 := Lib.hid hP4
      go_wp2_with fail
      refine (HJ5.out _ HPP4.out).mono ?_
      rintro e w5 ⟨⟨v5, rfl⟩, hP5, hg5⟩
      have hE5 := hE4.grown hg5 (by omega) (fun j e => by cases e; omega)
      have t5 := hg5.size
      clear hE4 hg5 HJ5 hP4
      have HPP5 := Lib.hid hP5
      go_wp2_with fail
      refine (HJ6.out _ HPP5.out).mono ?_
      rintro e w6 ⟨⟨v6, rfl⟩, hP6, hg6⟩
      have hE6 := hE5.grown hg6 (by omega) (fun j e => by cases e; omega)
      have t6 := hg6.size
      clear hE5 hg6 HJ6 hP5
      have HPP6 := Lib.hid hP6
      have HP3 : Hid (PS w6 (w.heap.size + 1) (icoS (v + 1))) := by show PS _ _ _; rw [HS.out]; exact HPP6.out
      clear HS HL
      go_wp2_with fail
      go_roundw
      case rel => exact ⟨v + 1, by omega, by go_num, HP3, hE6, by omega⟩
      case measure => simp [intOf]; omega
    · obtain rfl : v = 5 := by omega
      have hgo : Calls Try.prog 30 #[.int .i64 12, .map (some (w.heap.size + 1))] wr fun e w' => GRet wr.heap.size 12 (rowsF 12 (adjS (icoS 5))) e w' ∧ Below wr.heap.size wr w' := gop_at 12 (w.heap.size + 1) (12 : Int) (icoS 5) wr HP.out (by omega) (by decide +kernel) rfl
      have HGO := Lib.hid hgo
      have RB0 := Lib.hid ((hE.block w.heap.size (by omega)).trans HH.out)
      clear HP hgo
      go_wp2_with fail
      refine HGO.out.mono ?_
      rintro e w1 ⟨⟨g, rfl, hB, hg⟩, hb1⟩
      have RB := Lib.hid ((hb1.block w.heap.size (by omega)).trans RB0.out)
      obtain ⟨r0, r1, g0, g1⟩ := two_cells RB.out
      have HB := Lib.hid hB
      have hE1 := hE.trans (hb1.mono (by omega))
      clear hB hb1 hE HGO RB0
      go_wp2_with fail
      have hfin := two_set (a := .int .i64 12) (b := .slice (some ⟨g, 0, none⟩) 12 12) RB.out
      refine bodyPost_ret (v := .agg #[.int .i64 12, .slice (some ⟨g, 0, none⟩) 12 12]) (results_cell_row (p := 0) (ty := 24) rfl _ _ w.heap.size 24 _ (0, 0) _ rfl hfin Try.underlying24 rfl (by exact info27)) rfl ⟨⟨_, rfl, ?_, by omega⟩, ?_⟩
      · exact (HB.out.other (by simp; omega) _).other (by simp; omega) _
      · exact ((D0.trans (hE1.mono (by omega))).setCell (p := ⟨w.heap.size, 0, none⟩) (by simp) _).setCell (p := ⟨w.heap.size, 1, none⟩) (by simp) _
end Go.Proofs.Ytonfcmngokmgpaa
