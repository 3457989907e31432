/-
  The graph of Hoffman and Singleton: its edges; impl.hoffmanSingletonGraph. (gen: mk_ng3.py)
-/
import Derived.Test.YtonfcmngokmgpaaNg1
namespace Go.Proofs.Ytonfcmngokmgpaa
set_option maxRecDepth 100000
open Go.RowKit Go.Maps Go.WideMaps Go.WideElems

def hofI (S : List (Nat × Nat)) (h j : Nat) : Nat → List (Nat × Nat)
  | 0 => S
  | i + 1 => hofI S h j i ++ [(5 * h + j, 25 + 5 * i + (h * i + j) % 5)]
def hofJ (S : List (Nat × Nat)) (h : Nat) : Nat → List (Nat × Nat)
  | 0 => S
  | j + 1 => hofI ((hofJ S h j ++ [(5 * h + j, 5 * h + (j + 1) % 5)]) ++ [(25 + 5 * h + j, 25 + 5 * h + (j + 2) % 5)]) h j 5
def hofS : Nat → List (Nat × Nat)
  | 0 => []
  | h + 1 => hofJ (hofS h) h 5
theorem hofI_length (S : List (Nat × Nat)) (h j : Nat) : ∀ i, (hofI S h j i).length = S.length + i
  | 0 => rfl
  | i + 1 => by simp [hofI, hofI_length S h j i]; omega
theorem hofJ_length (S : List (Nat × Nat)) (h : Nat) : ∀ j, (hofJ S h j).length = S.length + 7 * j
  | 0 => rfl
  | j + 1 => by simp [hofJ, hofI_length, hofJ_length S h j]; omega
theorem hofS_length : ∀ h, (hofS h).length = 35 * h
  | 0 => rfl
  | h + 1 => by simp [hofS, hofJ_length, hofS_length h]; omega
theorem hi_bd (h i : Nat) (hh : h < 5) (hi : i < 5) : (0 : Int) ≤ (h : Int) * (i : Int) ∧ (h : Int) * (i : Int) ≤ 16 := by
  have h1 : h * i ≤ 4 * 4 := Nat.mul_le_mul (by omega) (by omega)
  have h2 : ((h * i : Nat) : Int) = (h : Int) * (i : Int) := by simp
  omega

set_option maxHeartbeats 3200000 in
theorem implHof_any (w : World) :
    Calls Try.prog 18 #[] w fun e w' => GRet w.heap.size 50 (rowsF 50 (adjS (hofS 5))) e w' ∧ Below w.heap.size w w' := by
  have hmm := @run_makeMap Try.prog
  have D0 : Below w.heap.size w ((w.alloc (.cells #[.int .i64 0, .slice none 0 0] 24)).alloc (.map #[] 0)) := ((Below.refl _ _).alloc (Nat.le_refl _) _).alloc (by simp) _
  have HH := Lib.hid (heap_old_at (World.alloc_heap_new w (.cells #[.int .i64 0, .slice none 0 0] 24)) (.map #[] 0))
  have HP0 := Lib.hid (PS.made (w.alloc (.cells #[.int .i64 0, .slice none 0 0] 24)))
  obtain ⟨W, hW⟩ : ∃ W, W = ((w.alloc (.cells #[.int .i64 0, .slice none 0 0] 24)).alloc (.map #[] 0)) := ⟨_, rfl⟩
  have hsz : w.heap.size + 2 ≤ W.heap.size := by rw [hW]; simp
  rw [← hW] at D0 HH HP0
  rw [World.size_alloc] at HP0
  go_enter Try.func18, Try.ntmps18
  go_wp2_with fail
  rw [← hW]
  clear hW hmm
  go_loopw [6] (fun c wr => ∃ h : Nat, h ≤ 5 ∧ c = .int .i64 h ∧ Hid (PS wr (w.heap.size + 1) (hofS h)) ∧ Below (w.heap.size + 1) W wr ∧ W.heap.size ≤ wr.heap.size) (fun c _ => 5 - (intOf c).toNat)
  case atStart => exact ⟨0, Nat.zero_le _, rfl, HP0, Below.refl _ _, Nat.le_refl _⟩
  case round =>
    clear HP0
    obtain ⟨h, hh, rfl, HP, hE, hs⟩ := hrel
    by_cases hlt : (h : Int) < 5
    · have hh0 : (0 : Int) ≤ h := by omega
      go_wp2_with fail
      obtain ⟨S, hS⟩ : ∃ S, S = hofS h := ⟨_, rfl⟩
      have HSL : Hid (S.length ≤ 175) := by show _ ≤ _; rw [hS, hofS_length]; omega
      have HSS := Lib.hid hS
      have HPJ : Hid (PS wr (w.heap.size + 1) (hofJ S h 0)) := by show PS _ _ _; rw [hS]; exact HP.out
      clear hS HP
      obtain ⟨wo, rfl⟩ : ∃ wo : World, wo = wr := ⟨_, rfl⟩
      go_loopw [9] (fun c wr => ∃ j : Nat, j ≤ 5 ∧ c = .int .i64 j ∧ Hid (PS wr (w.heap.size + 1) (hofJ S h j)) ∧ Below (w.heap.size + 1) W wr ∧ W.heap.size ≤ wr.heap.size) (fun c _ => 5 - (intOf c).toNat)
      case atStart => exact ⟨0, Nat.zero_le _, rfl, HPJ, hE, hs⟩
      case round =>
        clear HPJ hE hs
        obtain ⟨j, hj, rfl, HQ, hF, ht⟩ := hrel
        by_cases hlj : (j : Int) < 5
        · have hj0 : (0 : Int) ≤ j := by omega
          have HL1 : Hid ((hofJ S h j).length ≤ 250) := by show _ ≤ _; rw [hofJ_length]; have := HSL.out; omega
          obtain ⟨V, hV⟩ : ∃ V, V = hofJ S h j := ⟨_, rfl⟩
          rw [← hV] at HQ HL1
          obtain ⟨u, hu⟩ : ∃ u, u = (j + 1) % 5 := ⟨_, rfl⟩
          have hu5 : u < 5 := by rw [hu]; exact Nat.mod_lt _ (by omega)
          have T1 : Int.tmod ((j : Int) + 1) 5 = (u : Int) := by rw [Int.tmod_eq_emod_of_nonneg (by omega), hu]; simp
          obtain ⟨u2, hu2⟩ : ∃ u, u = (j + 2) % 5 := ⟨_, rfl⟩
          have hu25 : u2 < 5 := by rw [hu2]; exact Nat.mod_lt _ (by omega)
          have T2 : Int.tmod ((j : Int) + 2) 5 = (u2 : Int) := by rw [Int.tmod_eq_emod_of_nonneg (by omega), hu2]; simp
          have HJS : Hid (hofJ S h (j + 1) = hofI ((V ++ [(5 * h + j, 5 * h + u)]) ++ [(25 + 5 * h + j, 25 + 5 * h + u2)]) h j 5) := by show _ = _; rw [hu, hu2, hV]; rfl
          have HJ1 := Lib.hid (fun W1 hw => join_at (w.heap.size + 1) V (5 * h + j) (5 * h + u) (5 * (h : Int) + (j : Int)) (5 * (h : Int) + (u : Int)) W1 hw (by have := HL1.out; omega) (by omega) (by omega) (by omega) (by omega))
          have HJ2 := Lib.hid (fun W1 hw => join_at (w.heap.size + 1) (V ++ [(5 * h + j, 5 * h + u)]) (25 + 5 * h + j) (25 + 5 * h + u2) (25 + 5 * (h : Int) + (j : Int)) (25 + 5 * (h : Int) + (u2 : Int)) W1 hw (by have := HL1.out; simp; omega) (by omega) (by omega) (by omega) (by omega))
          clear hu hu2 hV
          go_wp2_with fail
          refine (HJ1.out _ HQ.out).mono ?_
          rintro e w1 ⟨⟨v1, rfl⟩, hP1, hg1⟩
          have hE1 := hF.grown hg1 (by omega) (fun j e => by cases e; omega)
          have t1 := hg1.size
          have HPP1 := Lib.hid hP1
          clear hF hg1 HJ1 HQ hP1
          go_wp2_with fail
          refine (HJ2.out _ HPP1.out).mono ?_
          rintro e w2 ⟨⟨v2, rfl⟩, hP2, hg2⟩
          have hE2 := hE1.grown hg2 (by omega) (fun j e => by cases e; omega)
          have t2 := hg2.size
          obtain ⟨X, hX⟩ : ∃ X, X = (V ++ [(5 * h + j, 5 * h + u)]) ++ [(25 + 5 * h + j, 25 + 5 * h + u2)] := ⟨_, rfl⟩
          rw [← hX] at HJS hP2
          have HXL : Hid (X.length ≤ 252) := by show _ ≤ _; rw [hX]; have := HL1.out; simp; omega
          have HPP2 : Hid (PS w2 (w.heap.size + 1) (hofI X h j 0)) := hP2
          have ts2 : W.heap.size ≤ w2.heap.size := by omega
          clear hE1 hg2 HJ2 HPP1 hP2 hX T1 T2 hu5 hu25 t1 t2 ht HL1
          go_wp2_with fail
          obtain ⟨wo2, rfl⟩ : ∃ wo : World, wo = w2 := ⟨_, rfl⟩
          go_loopw [38] (fun c wr => ∃ i : Nat, i ≤ 5 ∧ c = .int .i64 i ∧ Hid (PS wr (w.heap.size + 1) (hofI X h j i)) ∧ Below (w.heap.size + 1) W wr ∧ W.heap.size ≤ wr.heap.size) (fun c _ => 5 - (intOf c).toNat)
          case atStart => exact ⟨0, Nat.zero_le _, rfl, HPP2, hE2, ts2⟩
          case round =>
            clear HPP2 hE2 ts2
            obtain ⟨i, hi, rfl, HI, hG, hgs⟩ := hrel
            by_cases hli : (i : Int) < 5
            · have hi0 : (0 : Int) ≤ i := by omega
              obtain ⟨b1, b2⟩ := hi_bd h i (by omega) (by omega)
              obtain ⟨q, hq⟩ : ∃ q, q = (h * i + j) % 5 := ⟨_, rfl⟩
              have hq5 : q < 5 := by rw [hq]; exact Nat.mod_lt _ (by omega)
              have T3 : Int.tmod ((h : Int) * (i : Int) + (j : Int)) 5 = (q : Int) := by rw [Int.tmod_eq_emod_of_nonneg (by omega), hq]; simp
              have HIS : Hid (hofI X h j (i + 1) = hofI X h j i ++ [(5 * h + j, 25 + 5 * i + q)]) := by show _ = _; rw [hq]; rfl
              have HJ3 := Lib.hid (fun W1 hw => join_at (w.heap.size + 1) (hofI X h j i) (5 * h + j) (25 + 5 * i + q) (5 * (h : Int) + (j : Int)) (25 + 5 * (i : Int) + (q : Int)) W1 hw (by rw [hofI_length]; have := HXL.out; omega) (by omega) (by omega) (by omega) (by omega))
              clear hq
              go_wp2_with fail
              refine (HJ3.out _ HI.out).mono ?_
              rintro e w3 ⟨⟨v3, rfl⟩, hP3, hg3⟩
              have hE3 := hG.grown hg3 (by omega) (fun j e => by cases e; omega)
              have t3 := hg3.size
              have HPP3 : Hid (PS w3 (w.heap.size + 1) (hofI X h j (i + 1))) := by show PS _ _ _; rw [HIS.out]; exact hP3
              clear hG hg3 HJ3 HI hP3 HIS T3 b1 b2 hq5
              go_wp2_with fail
              go_roundw
              case rel => exact ⟨i + 1, by omega, by go_num, HPP3, hE3, by omega⟩
              case measure => simp [intOf]; omega
            · obtain rfl : i = 5 := by omega
              have HIJ : Hid (PS wr (w.heap.size + 1) (hofJ S h (j + 1))) := by show PS _ _ _; rw [HJS.out]; exact HI.out
              clear HI HJS
              go_wp2_with fail
              go_roundw
              case rel => exact ⟨j + 1, by omega, by go_num, HIJ, hG, hgs⟩
              case measure => simp [intOf]; omega
        · obtain rfl : j = 5 := by omega
          have HPS : Hid (PS wr (w.heap.size + 1) (hofS (h + 1))) := by show PS _ _ _; rw [show hofS (h + 1) = hofJ S h 5 by rw [HSS.out]; rfl]; exact HQ.out
          clear HQ HSS HSL
          go_wp2_with fail
          go_roundw
          case rel => exact ⟨h + 1, by omega, by go_num, HPS, hF, ht⟩
          case measure => simp [intOf]; omega
    · obtain rfl : h = 5 := by omega
      have hgo : Calls Try.prog 30 #[.int .i64 50, .map (some (w.heap.size + 1))] wr fun e w' => GRet wr.heap.size 50 (rowsF 50 (adjS (hofS 5))) e w' ∧ Below wr.heap.size wr w' := gop_at 50 (w.heap.size + 1) (50 : Int) (hofS 5) wr HP.out (by omega) (by decide +kernel) rfl
      have HGO := Lib.hid hgo
      have RB0 := Lib.hid ((hE.block w.heap.size (by omega)).trans HH.out)
      clear HP hgo
      go_wp2_with fail
      refine HGO.out.mono ?_
      rintro e w1 ⟨⟨g, rfl, hB, hg⟩, hb1⟩
      have RB := Lib.hid ((hb1.block w.heap.size (by omega)).trans RB0.out)
      obtain ⟨r0, r1, g0, g1⟩ := two_cells RB.out
      have HB := Lib.hid hB
      have hE1 := hE.trans (hb1.mono (by omega))
      clear hB hb1 hE HGO RB0
      go_wp2_with fail
      have hfin := two_set (a := .int .i64 50) (b := .slice (some ⟨g, 0, none⟩) 50 50) RB.out
      refine bodyPost_ret (v := .agg #[.int .i64 50, .slice (some ⟨g, 0, none⟩) 50 50]) (results_cell_row (p := 0) (ty := 24) rfl _ _ w.heap.size 24 _ (0, 0) _ rfl hfin Try.underlying24 rfl (by exact info27)) rfl ⟨⟨_, rfl, ?_, by omega⟩, ?_⟩
      · exact (HB.out.other (by simp; omega) _).other (by simp; omega) _
      · exact ((D0.trans (hE1.mono (by omega))).setCell (p := ⟨w.heap.size, 0, none⟩) (by simp) _).setCell (p := ⟨w.heap.size, 1, none⟩) (by simp) _
end Go.Proofs.Ytonfcmngokmgpaa
