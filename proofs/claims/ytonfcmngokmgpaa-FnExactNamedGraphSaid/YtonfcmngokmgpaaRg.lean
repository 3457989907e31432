/-
  impl.ringGraph, impl.RingGraph.
-/
import Derived.Test.YtonfcmngokmgpaaGp
namespace Go.Proofs.Ytonfcmngokmgpaa
set_option maxRecDepth 100000
open Go.RowKit Go.Maps Go.WideMaps Go.WideElems

theorem join_at (b : Nat) (S : List (Nat × Nat)) (x y : Nat) (xi yi : Int) (w : World) (h : PS w b S) (hS : S.length < 1048576) (hx : x < 1048576) (hy : y < 1048576) (ex : xi = (x : Int)) (ey : yi = (y : Int)) :
    Calls Try.prog 29 #[.map (some b), .int .i64 xi, .int .i64 yi] w fun e w' => (∃ v, e = .returned v) ∧ PS w' b (S ++ [(x, y)]) ∧ w.grownBy w' (some b) := by
  subst ex; subst ey
  exact join_any b S x y w h hS hx hy
theorem gop_at (n b : Nat) (N : Int) (S : List (Nat × Nat)) (w : World) (h : PS w b S) (hn : n ≤ 62) (hS : ∀ p, p ∈ S → p.1 < n ∧ p.2 < n) (eN : N = (n : Int)) :
    Calls Try.prog 30 #[.int .i64 N, .map (some b)] w fun e w' => GRet w.heap.size n (rowsF n (adjS S)) e w' ∧ Below w.heap.size w w' := by
  subst eN
  exact gop_any n b S w h hn hS

/-- The edges of a ring graph, those of the first i vertices. -/
def ringS (n k : Nat) : Nat → List (Nat × Nat)
  | 0 => []
  | i + 1 => ((ringS n k i ++ [(i, (i + 1) % n)]) ++ [(i, n + i)]) ++ [(n + i, n + (i + k) % n)]
theorem ringS_length (n k : Nat) : ∀ i, (ringS n k i).length = 3 * i
  | 0 => rfl
  | i + 1 => by simp [ringS, ringS_length n k i]; omega
theorem ringS_mem (n k : Nat) (hn : 0 < n) : ∀ i, i ≤ n → ∀ p, p ∈ ringS n k i → p.1 < 2 * n ∧ p.2 < 2 * n
  | 0, _, p, h => by simp [ringS] at h
  | i + 1, hi, p, h => by
    have m1 := Nat.mod_lt (i + 1) hn
    have m2 := Nat.mod_lt (i + k) hn
    simp only [ringS, List.mem_append, List.mem_singleton] at h
    rcases h with ((h | rfl) | rfl) | rfl
    · exact ringS_mem n k hn i (by omega) p h
    · simp only; omega
    · simp only; omega
    · simp only; omega

set_option maxHeartbeats 1600000 in
set_option maxRecDepth 100000 in
theorem implRing_any (n k m : Nat) (w : World) (h3 : 3 ≤ n) (hn : n ≤ 31) (hk1 : 1 ≤ k) (hk : k < n) (hm : m = 2 * n) :
    Calls Try.prog 16 #[.int .i64 n, .int .i64 k] w fun e w' => GRet w.heap.size m (rowsF m (adjS (ringS n k n))) e w' ∧ Below w.heap.size w w' := by
  have hmm := @run_makeMap Try.prog
  have D0 : Below w.heap.size w ((w.alloc (.cells #[.int .i64 0, .slice none 0 0] 24)).alloc (.map #[] 0)) := ((Below.refl _ _).alloc (Nat.le_refl _) _).alloc (by simp) _
  have HH := Lib.hid (heap_old_at (World.alloc_heap_new w (.cells #[.int .i64 0, .slice none 0 0] 24)) (.map #[] 0))
  have HP0 := Lib.hid (PS.made (w.alloc (.cells #[.int .i64 0, .slice none 0 0] 24)))
  obtain ⟨W, hW⟩ : ∃ W, W = ((w.alloc (.cells #[.int .i64 0, .slice none 0 0] 24)).alloc (.map #[] 0)) := ⟨_, rfl⟩
  have hsz : w.heap.size + 2 ≤ W.heap.size := by rw [hW]; simp
  rw [← hW] at D0 HH HP0
  rw [World.size_alloc] at HP0
  have HM := Lib.hid hm
  clear hm
  go_enter Try.func16, Try.ntmps16
  go_wp2_with fail
  rw [← hW]
  clear hW hmm
  go_loopw [6, 9] (fun _ i wr => ∃ v : Nat, v ≤ n ∧ i = .int .i64 v ∧ Hid (PS wr (w.heap.size + 1) (ringS n k v)) ∧ Below (w.heap.size + 1) W wr ∧ W.heap.size ≤ wr.heap.size) (fun _ i _ => n - (intOf i).toNat)
  case atStart => exact ⟨0, Nat.zero_le _, rfl, HP0, Below.refl _ _, Nat.le_refl _⟩
  case round =>
    obtain ⟨v, hv, rfl, HP, hE, hs⟩ := hrel
    have HL := Lib.hid (ringS_length n k v)
    by_cases hlt : v < n
    · have m1 := Int.emod_nonneg ((v : Int) + 1) (b := (n : Int)) (by omega)
      have m2 := Int.emod_lt_of_pos ((v : Int) + 1) (b := (n : Int)) (by omega)
      have m3 := Int.emod_nonneg ((v : Int) + k) (b := (n : Int)) (by omega)
      have m4 := Int.emod_lt_of_pos ((v : Int) + k) (b := (n : Int)) (by omega)
      have q1 := Nat.mod_lt (v + 1) (show n > 0 by omega)
      have q2 := Nat.mod_lt (v + k) (show n > 0 by omega)
      have E1 : Hid (((v : Int) + 1) % (n : Int) = (((v + 1) % n : Nat) : Int)) := by show _ = _; simp
      have E2 : Hid ((n : Int) + v = ((n + v : Nat) : Int)) := by show _ = _; simp
      have E3 : Hid ((n : Int) + ((v : Int) + k) % (n : Int) = ((n + (v + k) % n : Nat) : Int)) := by show _ = _; simp
      have HJ1 := Lib.hid (fun W1 h => join_at (w.heap.size + 1) (ringS n k v) v ((v + 1) % n) (v : Int) (((v : Int) + 1) % (n : Int)) W1 h (by rw [HL.out]; omega) (by omega) (by omega) rfl E1.out)
      have HJ2 := Lib.hid (fun W1 h => join_at (w.heap.size + 1) (ringS n k v ++ [(v, (v + 1) % n)]) v (n + v) (v : Int) ((n : Int) + v) W1 h (by rw [List.length_append, HL.out]; simp; omega) (by omega) (by omega) rfl E2.out)
      have HJ3 := Lib.hid (fun W1 h => join_at (w.heap.size + 1) ((ringS n k v ++ [(v, (v + 1) % n)]) ++ [(v, n + v)]) (n + v) (n + (v + k) % n) ((n : Int) + v) ((n : Int) + ((v : Int) + k) % (n : Int)) W1 h (by rw [List.length_append, List.length_append, HL.out]; simp; omega) (by omega) (by omega) E2.out E3.out)
      clear E1 E2 E3 q1 q2
      go_wp2_with fail
      refine (HJ1.out _ HP.out).mono ?_
      rintro e w1 ⟨⟨v1, rfl⟩, hP1, hg1⟩
      have hE1 := hE.grown hg1 (by omega) (fun j e => by cases e; omega)
      have t1 := hg1.size
      clear hE hg1 HP HJ1
      go_wp2_with fail
      refine (HJ2.out _ hP1).mono ?_
      rintro e w2 ⟨⟨v2, rfl⟩, hP2, hg2⟩
      have hE2 := hE1.grown hg2 (by omega) (fun j e => by cases e; omega)
      have t2 := hg2.size
      clear hE1 hg2 hP1 HJ2
      go_wp2_with fail
      refine (HJ3.out _ hP2).mono ?_
      rintro e w3 ⟨⟨v3, rfl⟩, hP3, hg3⟩
      have hE3 := hE2.grown hg3 (by omega) (fun j e => by cases e; omega)
      have t3 := hg3.size
      have HP3 : Hid (PS w3 (w.heap.size + 1) (ringS n k (v + 1))) := hP3
      clear hE2 hg3 hP2 HJ3 hP3
      go_wp2_with fail
      go_roundw
      case rel => exact ⟨v + 1, by omega, by go_num, HP3, hE3, by omega⟩
      case measure => simp [intOf]; omega
    · obtain rfl : v = n := by omega
      have hgo := Lib.hid (gop_at m (w.heap.size + 1) (2 * (v : Int)) (ringS v k v) wr HP.out (by rw [HM.out]; omega) (by rw [HM.out]; exact ringS_mem v k (by omega) v (Nat.le_refl _)) (by rw [HM.out]; simp))
      have RB0 := Lib.hid ((hE.block w.heap.size (by omega)).trans HH.out)
      clear HP
      go_wp2_with fail
      refine hgo.out.mono ?_
      rintro e w1 ⟨⟨g, rfl, hB, hg⟩, hb1⟩
      have RB := Lib.hid ((hb1.block w.heap.size (by omega)).trans RB0.out)
      obtain ⟨r0, r1, g0, g1⟩ := two_cells RB.out
      have HB := Lib.hid hB
      have hE1 := hE.trans (hb1.mono (by omega))
      clear hB hb1 hE hgo RB0
      go_wp2_with fail
      have hfin := two_set (a := .int .i64 m) (b := .slice (some ⟨g, 0, none⟩) m m) RB.out
      refine bodyPost_ret (v := .agg #[.int .i64 m, .slice (some ⟨g, 0, none⟩) m m]) (results_cell_row (p := 4) (ty := 24) rfl _ _ w.heap.size 24 _ (0, 0) _ rfl hfin Try.underlying24 rfl (by exact info27)) rfl ⟨⟨_, rfl, ?_, by omega⟩, ?_⟩
      · exact (HB.out.other (by simp; omega) _).other (by simp; omega) _
      · exact ((D0.trans (hE1.mono (by omega))).setCell (p := ⟨w.heap.size, 0, none⟩) (by simp) _).setCell (p := ⟨w.heap.size, 1, none⟩) (by simp) _
end Go.Proofs.Ytonfcmngokmgpaa
