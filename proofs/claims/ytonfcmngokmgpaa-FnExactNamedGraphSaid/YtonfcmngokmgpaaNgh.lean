/-
  spec.l01Named at hoffmansingleton. (gen: mk_ngs.py)
-/
import Derived.Test.YtonfcmngokmgpaaNgp
namespace Go.Proofs.Ytonfcmngokmgpaa
set_option maxRecDepth 100000
open Go.RowKit


set_option maxHeartbeats 3200000 in
theorem specHof_named (w : World) :
    Calls Try.prog 9 #[.string ⟨#[104, 111, 102, 102, 109, 97, 110, 115, 105, 110, 103, 108, 101, 116, 111, 110]⟩] w fun e w' => BRes w.heap.size 50 (rowsF 50 (adjS (hofS 5))) true e w' ∧ Below w.heap.size w w' := by
  obtain ⟨W, hW⟩ : ∃ W, W = w.alloc (.cells #[.int .i64 0, .slice none 0 0] 24) := ⟨_, rfl⟩
  have D0 : Below w.heap.size w W := by rw [hW]; exact (Below.refl _ _).alloc (Nat.le_refl _) _
  have s0 : W.heap.size = w.heap.size + 1 := by rw [hW]; simp
  have HR0 : Hid (W.heap[w.heap.size]? = some (.cells #[.int .i64 0, .slice none 0 0] 24 (0, 0))) := by show _ = _; rw [hW]; exact World.alloc_heap_new w _
  have hem : Calls Try.prog 25 #[.int .i64 50] W fun e w' => e = .returned (.agg #[.int .i64 50, .slice (some ⟨W.heap.size + 1, 0, none⟩) 50 50]) ∧ Blk w' (W.heap.size + 1) (List.replicate 50 0) ∧ Below W.heap.size W w' := specEmpty_any 50 W (by omega)
  have HEM := Lib.hid hem
  obtain ⟨G, hG⟩ : ∃ G, G = W.heap.size + 1 := ⟨_, rfl⟩
  rw [← hG] at HEM
  have hGw : w.heap.size + 1 ≤ G := by omega
  clear hG hem
  go_enter Try.func9, Try.ntmps9
  go_wp2_with fail
  rw [← hW]
  clear hW
  refine HEM.out.mono ?_
  rintro e w1 ⟨rfl, hB1, hb1⟩
  clear HEM
  have l1 := hB1.lt
  have E1 := D0.trans (hb1.mono (by omega))
  have HR1 := Lib.hid ((hb1.block w.heap.size (by omega)).trans HR0.out)
  have HB1 : Hid (Blk w1 G (rowsF 50 (adjS (hofS 0)))) := by show Blk _ _ _; rw [show adjS (hofS 0) = fun _ _ => false from rfl, rowsF_none]; exact hB1
  clear hB1 hb1 HR0 D0
  go_wp2_with fail
  obtain ⟨w2, h2w⟩ : ∃ w2, w2 = w1.alloc (.cells #[.int .i64 50, .slice (some ⟨G, 0, none⟩) 50 50] 24) := ⟨_, rfl⟩
  have X2 : Hid (w2.heap[w1.heap.size]? = some (.cells #[.int .i64 50, .slice (some ⟨G, 0, none⟩) 50 50] 24 (0, 0))) := by rw [h2w]; exact World.alloc_heap_new w1 _
  have hb2 : Below w1.heap.size w1 w2 := by rw [h2w]; exact (Below.refl _ _).alloc (Nat.le_refl _) _
  rw [← h2w]
  clear h2w
  have HB2 := Lib.hid (HB1.out.belowAll hb2)
  have HR2 := Lib.hid ((hb2.block w.heap.size (by omega)).trans HR1.out)
  have E2 : Below w.heap.size w w2 := E1.trans (hb2.mono (by omega))
  have s2 : w1.heap.size + 1 ≤ w2.heap.size := (Array.getElem?_eq_some_iff.1 X2.out).1
  have l2 : w.heap.size < w1.heap.size := by omega
  have hGX : w1.heap.size ≠ G := by omega
  clear HB1 HR1 E1 hb2
  go_loopw [14] (fun c wr => ∃ h : Nat, h ≤ 5 ∧ c = .int .i64 h ∧ Hid (Blk wr G (rowsF 50 (adjS (hofS h)))) ∧ Hid (wr.heap[w1.heap.size]? = some (.cells #[.int .i64 50, .slice (some ⟨G, 0, none⟩) 50 50] 24 (0, 0))) ∧ Below (w.heap.size + 1) w2 wr ∧ w1.heap.size + 1 ≤ wr.heap.size) (fun c _ => 5 - (intOf c).toNat)
  case atStart => exact ⟨0, Nat.zero_le _, rfl, HB2, X2, Below.refl _ _, s2⟩
  case round =>
    clear HB2 X2
    obtain ⟨h, hh, rfl, HB, HX, hE, hs⟩ := hrel
    by_cases hlt : (h : Int) < 5
    · have hh0 : (0 : Int) ≤ h := by omega
      go_wp2_with fail
      obtain ⟨S, hS⟩ : ∃ S, S = hofS h := ⟨_, rfl⟩
      have HSS := Lib.hid hS
      have HPJ : Hid (Blk wr G (rowsF 50 (adjS (hofJ S h 0)))) := by show Blk _ _ _; rw [hS]; exact HB.out
      clear hS HB
      obtain ⟨wo, rfl⟩ : ∃ wo : World, wo = wr := ⟨_, rfl⟩
      go_loopw [15] (fun c wr => ∃ j : Nat, j ≤ 5 ∧ c = .int .i64 j ∧ Hid (Blk wr G (rowsF 50 (adjS (hofJ S h j)))) ∧ Hid (wr.heap[w1.heap.size]? = some (.cells #[.int .i64 50, .slice (some ⟨G, 0, none⟩) 50 50] 24 (0, 0))) ∧ Below (w.heap.size + 1) w2 wr ∧ w1.heap.size + 1 ≤ wr.heap.size) (fun c _ => 5 - (intOf c).toNat)
      case atStart => exact ⟨0, Nat.zero_le _, rfl, HPJ, HX, hE, hs⟩
      case round =>
        clear HPJ HX hE hs
        obtain ⟨j, hj, rfl, HQ, HX, hF, ht⟩ := hrel
        by_cases hlj : (j : Int) < 5
        · have hj0 : (0 : Int) ≤ j := by omega
          obtain ⟨V, hV⟩ : ∃ V, V = hofJ S h j := ⟨_, rfl⟩
          rw [← hV] at HQ
          obtain ⟨u, hu⟩ : ∃ u, u = (j + 1) % 5 := ⟨_, rfl⟩
          have hu5 : u < 5 := by rw [hu]; exact Nat.mod_lt _ (by omega)
          have T1 : Int.tmod ((j : Int) + 1) 5 = (u : Int) := by rw [Int.tmod_eq_emod_of_nonneg (by omega), hu]; simp
          obtain ⟨u2, hu2⟩ : ∃ u, u = (j + 2) % 5 := ⟨_, rfl⟩
          have hu25 : u2 < 5 := by rw [hu2]; exact Nat.mod_lt _ (by omega)
          have T2 : Int.tmod ((j : Int) + 2) 5 = (u2 : Int) := by rw [Int.tmod_eq_emod_of_nonneg (by omega), hu2]; simp
          have HJS : Hid (hofJ S h (j + 1) = hofI ((V ++ [(5 * h + j, 5 * h + u)]) ++ [(25 + 5 * h + j, 25 + 5 * h + u2)]) h j 5) := by show _ = _; rw [hu, hu2, hV]; rfl
          have HJ1 := Lib.hid (fun W1 hw => put_at 50 G 50 V (5 * h + j) (5 * h + u) (5 * (h : Int) + (j : Int)) (5 * (h : Int) + (u : Int)) W1 hw (by omega) (by omega) (by omega) (by omega) (by omega))
          have HJ2 := Lib.hid (fun W1 hw => put_at 50 G 50 (V ++ [(5 * h + j, 5 * h + u)]) (25 + 5 * h + j) (25 + 5 * h + u2) (25 + 5 * (h : Int) + (j : Int)) (25 + 5 * (h : Int) + (u2 : Int)) W1 hw (by omega) (by omega) (by omega) (by omega) (by omega))
          clear hu hu2 hV
          obtain ⟨x0, x1, -, -⟩ := two_cells HX.out
          go_wp2_with fail
          refine (HJ1.out _ HQ.out).mono ?_
          rintro e w3 ⟨⟨_, rfl⟩, hB3, hg3⟩
          have HB3 := Lib.hid hB3
          have HX3 := Lib.hid ((hg3.block w1.heap.size (by omega) (by simp; omega)).trans HX.out)
          have hE3 := hF.grown hg3 (by omega) (fun j e => by cases e; omega)
          have t3 : w1.heap.size + 1 ≤ w3.heap.size := Nat.le_trans ht hg3.size
          clear x0 x1 hB3 hg3 HQ HX hF ht HJ1
          obtain ⟨x0, x1, -, -⟩ := two_cells HX3.out
          go_wp2_with fail
          refine (HJ2.out _ HB3.out).mono ?_
          rintro e w4 ⟨⟨_, rfl⟩, hB4, hg4⟩
          have HB4 := Lib.hid hB4
          have HX4 := Lib.hid ((hg4.block w1.heap.size (by omega) (by simp; omega)).trans HX3.out)
          have hE4 := hE3.grown hg4 (by omega) (fun j e => by cases e; omega)
          have t4 : w1.heap.size + 1 ≤ w4.heap.size := Nat.le_trans t3 hg4.size
          clear x0 x1 hB4 hg4 HB3 HX3 hE3 t3 HJ2
          obtain ⟨Y, hY⟩ : ∃ Y, Y = (V ++ [(5 * h + j, 5 * h + u)]) ++ [(25 + 5 * h + j, 25 + 5 * h + u2)] := ⟨_, rfl⟩
          rw [← hY] at HJS HB4
          have HPP : Hid (Blk w4 G (rowsF 50 (adjS (hofI Y h j 0)))) := HB4
          clear HB4 hY T1 T2 hu5 hu25
          go_wp2_with fail
          obtain ⟨wo2, rfl⟩ : ∃ wo : World, wo = w4 := ⟨_, rfl⟩
          go_loopw [16] (fun c wr => ∃ i : Nat, i ≤ 5 ∧ c = .int .i64 i ∧ Hid (Blk wr G (rowsF 50 (adjS (hofI Y h j i)))) ∧ Hid (wr.heap[w1.heap.size]? = some (.cells #[.int .i64 50, .slice (some ⟨G, 0, none⟩) 50 50] 24 (0, 0))) ∧ Below (w.heap.size + 1) w2 wr ∧ w1.heap.size + 1 ≤ wr.heap.size) (fun c _ => 5 - (intOf c).toNat)
          case atStart => exact ⟨0, Nat.zero_le _, rfl, HPP, HX4, hE4, t4⟩
          case round =>
            clear HPP HX4 hE4 t4
            obtain ⟨i, hi, rfl, HI, HX, hG, hgs⟩ := hrel
            by_cases hli : (i : Int) < 5
            · have hi0 : (0 : Int) ≤ i := by omega
              obtain ⟨b1, b2⟩ := hi_bd h i (by omega) (by omega)
              obtain ⟨q, hq⟩ : ∃ q, q = (h * i + j) % 5 := ⟨_, rfl⟩
              have hq5 : q < 5 := by rw [hq]; exact Nat.mod_lt _ (by omega)
              have T3 : Int.tmod ((h : Int) * (i : Int) + (j : Int)) 5 = (q : Int) := by rw [Int.tmod_eq_emod_of_nonneg (by omega), hq]; simp
              have HIS : Hid (hofI Y h j (i + 1) = hofI Y h j i ++ [(5 * h + j, 25 + 5 * i + q)]) := by show _ = _; rw [hq]; rfl
              have HJ3 := Lib.hid (fun W1 hw => put_at 50 G 50 (hofI Y h j i) (5 * h + j) (25 + 5 * i + q) (5 * (h : Int) + (j : Int)) (25 + 5 * (i : Int) + (q : Int)) W1 hw (by omega) (by omega) (by omega) (by omega) (by omega))
              clear hq
              obtain ⟨x0, x1, -, -⟩ := two_cells HX.out
              go_wp2_with fail
              refine (HJ3.out _ HI.out).mono ?_
              rintro e w5 ⟨⟨_, rfl⟩, hB5, hg5⟩
              have HB5 := Lib.hid hB5
              have HX5 := Lib.hid ((hg5.block w1.heap.size (by omega) (by simp; omega)).trans HX.out)
              have hE5 := hG.grown hg5 (by omega) (fun j e => by cases e; omega)
              have t5 : w1.heap.size + 1 ≤ w5.heap.size := Nat.le_trans hgs hg5.size
              clear x0 x1 hB5 hg5 HI HX hG hgs HJ3
              have HPN : Hid (Blk w5 G (rowsF 50 (adjS (hofI Y h j (i + 1))))) := by show Blk _ _ _; rw [HIS.out]; exact HB5.out
              clear HB5 HIS T3 b1 b2 hq5
              go_wp2_with fail
              go_roundw
              case rel => exact ⟨i + 1, by omega, by go_num, HPN, HX5, hE5, t5⟩
              case measure => simp [intOf]; omega
            · obtain rfl : i = 5 := by omega
              have HIJ : Hid (Blk wr G (rowsF 50 (adjS (hofJ S h (j + 1))))) := by show Blk _ _ _; rw [HJS.out]; exact HI.out
              clear HI HJS
              go_wp2_with fail
              go_roundw
              case rel => exact ⟨j + 1, by omega, by go_num, HIJ, HX, hG, hgs⟩
              case measure => simp [intOf]; omega
        · obtain rfl : j = 5 := by omega
          have HPS : Hid (Blk wr G (rowsF 50 (adjS (hofS (h + 1))))) := by show Blk _ _ _; rw [show hofS (h + 1) = hofJ S h 5 by rw [HSS.out]; rfl]; exact HQ.out
          clear HQ HSS
          go_wp2_with fail
          go_roundw
          case rel => exact ⟨h + 1, by omega, by go_num, HPS, HX, hF, ht⟩
          case measure => simp [intOf]; omega
    · obtain rfl : h = 5 := by omega
      have RB := Lib.hid ((hE.block w.heap.size (by omega)).trans HR2.out)
      obtain ⟨r0, r1, g0, g1⟩ := two_cells RB.out
      obtain ⟨x0, x1, -, -⟩ := two_cells HX.out
      have EF := Lib.hid (E2.trans (hE.mono (by omega)))
      clear hE
      go_wp2_with fail
      have hfin := two_set (a := .int .i64 50) (b := .slice (some ⟨G, 0, none⟩) 50 50) RB.out
      refine bodyPost_ret (v := .tuple #[.agg #[.int .i64 50, .slice (some ⟨G, 0, none⟩) 50 50], .bool true]) (results_cell2 (p := 2) (u := 3) (ty := 24) rfl _ _ w.heap.size 24 _ (0, 0) _ rfl hfin Try.underlying24 rfl (by exact info27)) rfl ⟨⟨_, rfl, ?_⟩, ?_⟩
      · have h := Own.of_blk ((HB.out.other (a := ⟨w.heap.size, 0, none⟩) (by simp; omega) (.int .i64 50)).other (a := ⟨w.heap.size, 1, none⟩) (by simp; omega) (.slice (some ⟨G, 0, none⟩) 50 50)) (B := w.heap.size) (by omega) (by rw [rowsF_length]; unfold maxLen; omega)
        rw [rowsF_length] at h
        exact h
      · exact (EF.out.setCell (p := ⟨w.heap.size, 0, none⟩) (by simp) _).setCell (p := ⟨w.heap.size, 1, none⟩) (by simp) _
end Go.Proofs.Ytonfcmngokmgpaa
