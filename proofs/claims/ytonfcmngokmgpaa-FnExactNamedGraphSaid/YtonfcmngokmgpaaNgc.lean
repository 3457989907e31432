/-
  spec.l01Named at cube and clebsch. (gen: mk_ngs.py)
-/
import Derived.Test.YtonfcmngokmgpaaNgp
namespace Go.Proofs.Ytonfcmngokmgpaa
set_option maxRecDepth 100000
open Go.RowKit

/-- The edges of the cubes as the model puts them. -/
def cbI (S : List (Nat × Nat)) (v : Nat) : Nat → List (Nat × Nat)
  | 0 => S
  | j + 1 => cbI S v j ++ [(v, v ^^^ 2 ^ j)]
def cubS : Nat → List (Nat × Nat)
  | 0 => []
  | v + 1 => cbI (cubS v) v 3
def clbS : Nat → List (Nat × Nat)
  | 0 => []
  | v + 1 => cbI (clbS v) v 4 ++ [(v, 15 - v)]
theorem xor_bd (v k d : Nat) (hv : v < 2 ^ d) (hk : k < 2 ^ d) : v ^^^ k < 2 ^ d := Nat.xor_lt_two_pow hv hk
/-- Step j of the inner loop has k = 2 ^ j. -/
def Two (j k : Nat) : Prop := j = 0 ∧ k = 1 ∨ j = 1 ∧ k = 2 ∨ j = 2 ∧ k = 4 ∨ j = 3 ∧ k = 8 ∨ j = 4 ∧ k = 16
theorem Two.pow {j k : Nat} (h : Two j k) : 2 ^ j = k := by rcases h with ⟨rfl, rfl⟩ | ⟨rfl, rfl⟩ | ⟨rfl, rfl⟩ | ⟨rfl, rfl⟩ | ⟨rfl, rfl⟩ <;> rfl
theorem Two.le {j k : Nat} (h : Two j k) : 1 ≤ k ∧ k ≤ 16 := by unfold Two at h; omega
theorem Two.next {j k : Nat} (h : Two j k) (hk : k < 16) : Two (j + 1) (2 * k) := by unfold Two at h ⊢; omega
theorem Two.at8 {j k : Nat} (h : Two j k) (hk : k < 8) : 2 * k ≤ 8 := by unfold Two at h; omega
theorem Two.at16 {j k : Nat} (h : Two j k) (hk : k < 16) : 2 * k ≤ 16 := by unfold Two at h; omega

set_option maxHeartbeats 3200000 in
theorem specCube_named (w : World) :
    Calls Try.prog 9 #[.string ⟨#[99, 117, 98, 101]⟩] w fun e w' => BRes w.heap.size 8 (rowsF 8 (adjS (cubS 8))) true e w' ∧ Below w.heap.size w w' := by
  obtain ⟨W, hW⟩ : ∃ W, W = w.alloc (.cells #[.int .i64 0, .slice none 0 0] 24) := ⟨_, rfl⟩
  have D0 : Below w.heap.size w W := by rw [hW]; exact (Below.refl _ _).alloc (Nat.le_refl _) _
  have s0 : W.heap.size = w.heap.size + 1 := by rw [hW]; simp
  have HR0 : Hid (W.heap[w.heap.size]? = some (.cells #[.int .i64 0, .slice none 0 0] 24 (0, 0))) := by show _ = _; rw [hW]; exact World.alloc_heap_new w _
  have hem : Calls Try.prog 25 #[.int .i64 8] W fun e w' => e = .returned (.agg #[.int .i64 8, .slice (some ⟨W.heap.size + 1, 0, none⟩) 8 8]) ∧ Blk w' (W.heap.size + 1) (List.replicate 8 0) ∧ Below W.heap.size W w' := specEmpty_any 8 W (by omega)
  have HEM := Lib.hid hem
  obtain ⟨G, hG⟩ : ∃ G, G = W.heap.size + 1 := ⟨_, rfl⟩
  rw [← hG] at HEM
  have hGw : w.heap.size + 1 ≤ G := by omega
  clear hG hem
  go_enter Try.func9, Try.ntmps9
  go_wp2_with fail
  rw [← hW]
  clear hW
  refine HEM.out.mono ?_
  rintro e w1 ⟨rfl, hB1, hb1⟩
  clear HEM
  have l1 := hB1.lt
  have E1 := D0.trans (hb1.mono (by omega))
  have HR1 := Lib.hid ((hb1.block w.heap.size (by omega)).trans HR0.out)
  have HB1 : Hid (Blk w1 G (rowsF 8 (adjS (cubS 0)))) := by show Blk _ _ _; rw [show adjS (cubS 0) = fun _ _ => false from rfl, rowsF_none]; exact hB1
  clear hB1 hb1 HR0 D0
  go_wp2_with fail
  obtain ⟨w2, h2w⟩ : ∃ w2, w2 = w1.alloc (.cells #[.int .i64 8, .slice (some ⟨G, 0, none⟩) 8 8] 24) := ⟨_, rfl⟩
  have X2 : Hid (w2.heap[w1.heap.size]? = some (.cells #[.int .i64 8, .slice (some ⟨G, 0, none⟩) 8 8] 24 (0, 0))) := by rw [h2w]; exact World.alloc_heap_new w1 _
  have hb2 : Below w1.heap.size w1 w2 := by rw [h2w]; exact (Below.refl _ _).alloc (Nat.le_refl _) _
  rw [← h2w]
  clear h2w
  have HB2 := Lib.hid (HB1.out.belowAll hb2)
  have HR2 := Lib.hid ((hb2.block w.heap.size (by omega)).trans HR1.out)
  have E2 : Below w.heap.size w w2 := E1.trans (hb2.mono (by omega))
  have s2 : w1.heap.size + 1 ≤ w2.heap.size := (Array.getElem?_eq_some_iff.1 X2.out).1
  have l2 : w.heap.size < w1.heap.size := by omega
  have hGX : w1.heap.size ≠ G := by omega
  clear HB1 HR1 E1 hb2
  go_loopw [6] (fun c wr => ∃ v : Nat, v ≤ 8 ∧ c = .int .i64 v ∧ Hid (Blk wr G (rowsF 8 (adjS (cubS v)))) ∧ Hid (wr.heap[w1.heap.size]? = some (.cells #[.int .i64 8, .slice (some ⟨G, 0, none⟩) 8 8] 24 (0, 0))) ∧ Below (w.heap.size + 1) w2 wr ∧ w1.heap.size + 1 ≤ wr.heap.size) (fun c _ => 8 - (intOf c).toNat)
  case atStart => exact ⟨0, Nat.zero_le _, rfl, HB2, X2, Below.refl _ _, s2⟩
  case round =>
    clear HB2 X2
    obtain ⟨v, hv, rfl, HB, HX, hE, hs⟩ := hrel
    by_cases hlt : (v : Int) < 8
    · have hv0 : (0 : Int) ≤ v := by omega
      go_wp2_with fail
      obtain ⟨S, hS⟩ : ∃ S, S = cubS v := ⟨_, rfl⟩
      have HSS := Lib.hid hS
      have HPJ : Hid (Blk wr G (rowsF 8 (adjS (cbI S v 0)))) := by show Blk _ _ _; rw [hS]; exact HB.out
      clear hS HB
      obtain ⟨wo, rfl⟩ : ∃ wo : World, wo = wr := ⟨_, rfl⟩
      go_loopw [7] (fun c wr => ∃ j k : Nat, Hid (Two j k) ∧ k ≤ 8 ∧ c = .int .i64 k ∧ Hid (Blk wr G (rowsF 8 (adjS (cbI S v j)))) ∧ Hid (wr.heap[w1.heap.size]? = some (.cells #[.int .i64 8, .slice (some ⟨G, 0, none⟩) 8 8] 24 (0, 0))) ∧ Below (w.heap.size + 1) w2 wr ∧ w1.heap.size + 1 ≤ wr.heap.size) (fun c _ => 32 - (intOf c).toNat)
      case atStart => exact ⟨0, 1, .inl ⟨rfl, rfl⟩, by omega, rfl, HPJ, HX, hE, hs⟩
      case round =>
        clear HPJ HX hE hs
        obtain ⟨j, k, HT, hk, rfl, HQ, HX, hF, ht⟩ := hrel
        have hk1 : 1 ≤ k := HT.out.le.1
        have hk0 : (0 : Int) ≤ k := by omega
        by_cases hlk : (k : Int) < 8
        · have hx := xor_bd v k 3 (by omega) (by omega)
          have hxx := xor16 v (by omega) k (by omega)
          have hHN := HT.out.next (by omega)
          have hle := HT.out.at8 (by omega)
          obtain ⟨z, hz⟩ : ∃ z, z = v ^^^ k := ⟨_, rfl⟩
          rw [← hz] at hx hxx
          have HIS : Hid (cbI S v (j + 1) = cbI S v j ++ [(v, z)]) := by show _ = _; rw [hz, ← HT.out.pow]; rfl
          have HJ1 := Lib.hid (fun W1 hw => put_at 8 G 8 (cbI S v j) v z (v : Int) (z : Int) W1 hw (by omega) hx (by omega) rfl rfl)
          have HTN := Lib.hid hHN
          clear hz hx hHN HT
          obtain ⟨x0, x1, -, -⟩ := two_cells HX.out
          go_wp2_with fail
          refine (HJ1.out _ HQ.out).mono ?_
          rintro e w3 ⟨⟨_, rfl⟩, hB3, hg3⟩
          have HB3 := Lib.hid hB3
          have HX3 := Lib.hid ((hg3.block w1.heap.size (by omega) (by simp; omega)).trans HX.out)
          have hE3 := hF.grown hg3 (by omega) (fun j e => by cases e; omega)
          have t3 : w1.heap.size + 1 ≤ w3.heap.size := Nat.le_trans ht hg3.size
          clear x0 x1 hB3 hg3 HQ HX hF ht HJ1
          have HPN : Hid (Blk w3 G (rowsF 8 (adjS (cbI S v (j + 1))))) := by show Blk _ _ _; rw [HIS.out]; exact HB3.out
          clear HB3 HIS hxx
          go_wp2_with fail
          go_roundw
          case rel => exact ⟨j + 1, 2 * k, HTN, hle, by go_num, HPN, HX3, hE3, t3⟩
          case measure => simp [intOf]; omega
        · obtain rfl : k = 8 := by omega
          obtain rfl : j = 3 := by have := HT.out; unfold Two at this; omega
          have HPS : Hid (Blk wr G (rowsF 8 (adjS (cubS (v + 1))))) := by show Blk _ _ _; rw [show cubS (v + 1) = cbI S v 3 by rw [HSS.out]; rfl]; exact HQ.out
          clear HQ HSS HT
          go_wp2_with fail
          go_roundw
          case rel => exact ⟨v + 1, by omega, by go_num, HPS, HX, hF, ht⟩
          case measure => simp [intOf]; omega
    · obtain rfl : v = 8 := by omega
      have RB := Lib.hid ((hE.block w.heap.size (by omega)).trans HR2.out)
      obtain ⟨r0, r1, g0, g1⟩ := two_cells RB.out
      obtain ⟨x0, x1, -, -⟩ := two_cells HX.out
      have EF := Lib.hid (E2.trans (hE.mono (by omega)))
      clear hE
      go_wp2_with fail
      have hfin := two_set (a := .int .i64 8) (b := .slice (some ⟨G, 0, none⟩) 8 8) RB.out
      refine bodyPost_ret (v := .tuple #[.agg #[.int .i64 8, .slice (some ⟨G, 0, none⟩) 8 8], .bool true]) (results_cell2 (p := 2) (u := 3) (ty := 24) rfl _ _ w.heap.size 24 _ (0, 0) _ rfl hfin Try.underlying24 rfl (by exact info27)) rfl ⟨⟨_, rfl, ?_⟩, ?_⟩
      · have h := Own.of_blk ((HB.out.other (a := ⟨w.heap.size, 0, none⟩) (by simp; omega) (.int .i64 8)).other (a := ⟨w.heap.size, 1, none⟩) (by simp; omega) (.slice (some ⟨G, 0, none⟩) 8 8)) (B := w.heap.size) (by omega) (by rw [rowsF_length]; unfold maxLen; omega)
        rw [rowsF_length] at h
        exact h
      · exact (EF.out.setCell (p := ⟨w.heap.size, 0, none⟩) (by simp) _).setCell (p := ⟨w.heap.size, 1, none⟩) (by simp) _

set_option maxHeartbeats 3200000 in
theorem specCleb_named (w : World) :
    Calls Try.prog 9 #[.string ⟨#[99, 108, 101, 98, 115, 99, 104]⟩] w fun e w' => BRes w.heap.size 16 (rowsF 16 (adjS (clbS 16))) true e w' ∧ Below w.heap.size w w' := by
  obtain ⟨W, hW⟩ : ∃ W, W = w.alloc (.cells #[.int .i64 0, .slice none 0 0] 24) := ⟨_, rfl⟩
  have D0 : Below w.heap.size w W := by rw [hW]; exact (Below.refl _ _).alloc (Nat.le_refl _) _
  have s0 : W.heap.size = w.heap.size + 1 := by rw [hW]; simp
  have HR0 : Hid (W.heap[w.heap.size]? = some (.cells #[.int .i64 0, .slice none 0 0] 24 (0, 0))) := by show _ = _; rw [hW]; exact World.alloc_heap_new w _
  have hem : Calls Try.prog 25 #[.int .i64 16] W fun e w' => e = .returned (.agg #[.int .i64 16, .slice (some ⟨W.heap.size + 1, 0, none⟩) 16 16]) ∧ Blk w' (W.heap.size + 1) (List.replicate 16 0) ∧ Below W.heap.size W w' := specEmpty_any 16 W (by omega)
  have HEM := Lib.hid hem
  obtain ⟨G, hG⟩ : ∃ G, G = W.heap.size + 1 := ⟨_, rfl⟩
  rw [← hG] at HEM
  have hGw : w.heap.size + 1 ≤ G := by omega
  clear hG hem
  go_enter Try.func9, Try.ntmps9
  go_wp2_with fail
  rw [← hW]
  clear hW
  refine HEM.out.mono ?_
  rintro e w1 ⟨rfl, hB1, hb1⟩
  clear HEM
  have l1 := hB1.lt
  have E1 := D0.trans (hb1.mono (by omega))
  have HR1 := Lib.hid ((hb1.block w.heap.size (by omega)).trans HR0.out)
  have HB1 : Hid (Blk w1 G (rowsF 16 (adjS (clbS 0)))) := by show Blk _ _ _; rw [show adjS (clbS 0) = fun _ _ => false from rfl, rowsF_none]; exact hB1
  clear hB1 hb1 HR0 D0
  go_wp2_with fail
  obtain ⟨w2, h2w⟩ : ∃ w2, w2 = w1.alloc (.cells #[.int .i64 16, .slice (some ⟨G, 0, none⟩) 16 16] 24) := ⟨_, rfl⟩
  have X2 : Hid (w2.heap[w1.heap.size]? = some (.cells #[.int .i64 16, .slice (some ⟨G, 0, none⟩) 16 16] 24 (0, 0))) := by rw [h2w]; exact World.alloc_heap_new w1 _
  have hb2 : Below w1.heap.size w1 w2 := by rw [h2w]; exact (Below.refl _ _).alloc (Nat.le_refl _) _
  rw [← h2w]
  clear h2w
  have HB2 := Lib.hid (HB1.out.belowAll hb2)
  have HR2 := Lib.hid ((hb2.block w.heap.size (by omega)).trans HR1.out)
  have E2 : Below w.heap.size w w2 := E1.trans (hb2.mono (by omega))
  have s2 : w1.heap.size + 1 ≤ w2.heap.size := (Array.getElem?_eq_some_iff.1 X2.out).1
  have l2 : w.heap.size < w1.heap.size := by omega
  have hGX : w1.heap.size ≠ G := by omega
  clear HB1 HR1 E1 hb2
  go_loopw [6] (fun c wr => ∃ v : Nat, v ≤ 16 ∧ c = .int .i64 v ∧ Hid (Blk wr G (rowsF 16 (adjS (clbS v)))) ∧ Hid (wr.heap[w1.heap.size]? = some (.cells #[.int .i64 16, .slice (some ⟨G, 0, none⟩) 16 16] 24 (0, 0))) ∧ Below (w.heap.size + 1) w2 wr ∧ w1.heap.size + 1 ≤ wr.heap.size) (fun c _ => 16 - (intOf c).toNat)
  case atStart => exact ⟨0, Nat.zero_le _, rfl, HB2, X2, Below.refl _ _, s2⟩
  case round =>
    clear HB2 X2
    obtain ⟨v, hv, rfl, HB, HX, hE, hs⟩ := hrel
    by_cases hlt : (v : Int) < 16
    · have hv0 : (0 : Int) ≤ v := by omega
      go_wp2_with fail
      obtain ⟨S, hS⟩ : ∃ S, S = clbS v := ⟨_, rfl⟩
      have HSS := Lib.hid hS
      have HPJ : Hid (Blk wr G (rowsF 16 (adjS (cbI S v 0)))) := by show Blk _ _ _; rw [hS]; exact HB.out
      clear hS HB
      obtain ⟨wo, rfl⟩ : ∃ wo : World, wo = wr := ⟨_, rfl⟩
      go_loopw [7] (fun c wr => ∃ j k : Nat, Hid (Two j k) ∧ k ≤ 16 ∧ c = .int .i64 k ∧ Hid (Blk wr G (rowsF 16 (adjS (cbI S v j)))) ∧ Hid (wr.heap[w1.heap.size]? = some (.cells #[.int .i64 16, .slice (some ⟨G, 0, none⟩) 16 16] 24 (0, 0))) ∧ Below (w.heap.size + 1) w2 wr ∧ w1.heap.size + 1 ≤ wr.heap.size) (fun c _ => 32 - (intOf c).toNat)
      case atStart => exact ⟨0, 1, .inl ⟨rfl, rfl⟩, by omega, rfl, HPJ, HX, hE, hs⟩
      case round =>
        clear HPJ HX hE hs
        obtain ⟨j, k, HT, hk, rfl, HQ, HX, hF, ht⟩ := hrel
        have hk1 : 1 ≤ k := HT.out.le.1
        have hk0 : (0 : Int) ≤ k := by omega
        by_cases hlk : (k : Int) < 16
        · have hx := xor_bd v k 4 (by omega) (by omega)
          have hxx := xor16 v (by omega) k (by omega)
          have hHN := HT.out.next (by omega)
          have hle := HT.out.at16 (by omega)
          obtain ⟨z, hz⟩ : ∃ z, z = v ^^^ k := ⟨_, rfl⟩
          rw [← hz] at hx hxx
          have HIS : Hid (cbI S v (j + 1) = cbI S v j ++ [(v, z)]) := by show _ = _; rw [hz, ← HT.out.pow]; rfl
          have HJ1 := Lib.hid (fun W1 hw => put_at 16 G 16 (cbI S v j) v z (v : Int) (z : Int) W1 hw (by omega) hx (by omega) rfl rfl)
          have HTN := Lib.hid hHN
          clear hz hx hHN HT
          obtain ⟨x0, x1, -, -⟩ := two_cells HX.out
          go_wp2_with fail
          refine (HJ1.out _ HQ.out).mono ?_
          rintro e w3 ⟨⟨_, rfl⟩, hB3, hg3⟩
          have HB3 := Lib.hid hB3
          have HX3 := Lib.hid ((hg3.block w1.heap.size (by omega) (by simp; omega)).trans HX.out)
          have hE3 := hF.grown hg3 (by omega) (fun j e => by cases e; omega)
          have t3 : w1.heap.size + 1 ≤ w3.heap.size := Nat.le_trans ht hg3.size
          clear x0 x1 hB3 hg3 HQ HX hF ht HJ1
          have HPN : Hid (Blk w3 G (rowsF 16 (adjS (cbI S v (j + 1))))) := by show Blk _ _ _; rw [HIS.out]; exact HB3.out
          clear HB3 HIS hxx
          go_wp2_with fail
          go_roundw
          case rel => exact ⟨j + 1, 2 * k, HTN, hle, by go_num, HPN, HX3, hE3, t3⟩
          case measure => simp [intOf]; omega
        · obtain rfl : k = 16 := by omega
          obtain rfl : j = 4 := by have := HT.out; unfold Two at this; omega
          have HJ1 := Lib.hid (fun W1 hw => put_at 16 G 16 (cbI S v 4) v (15 - v) (v : Int) (15 - (v : Int)) W1 hw (by omega) (by omega) (by omega) rfl (by omega))
          clear HT
          obtain ⟨x0, x1, -, -⟩ := two_cells HX.out
          go_wp2_with fail
          refine (HJ1.out _ HQ.out).mono ?_
          rintro e w3 ⟨⟨_, rfl⟩, hB3, hg3⟩
          have HB3 := Lib.hid hB3
          have HX3 := Lib.hid ((hg3.block w1.heap.size (by omega) (by simp; omega)).trans HX.out)
          have hE3 := hF.grown hg3 (by omega) (fun j e => by cases e; omega)
          have t3 : w1.heap.size + 1 ≤ w3.heap.size := Nat.le_trans ht hg3.size
          clear x0 x1 hB3 hg3 HQ HX hF ht HJ1
          have HPS : Hid (Blk w3 G (rowsF 16 (adjS (clbS (v + 1))))) := by show Blk _ _ _; rw [show clbS (v + 1) = cbI S v 4 ++ [(v, 15 - v)] by rw [HSS.out]; rfl]; exact HB3.out
          clear HB3 HSS
          go_wp2_with fail
          go_roundw
          case rel => exact ⟨v + 1, by omega, by go_num, HPS, HX3, hE3, t3⟩
          case measure => simp [intOf]; omega
    · obtain rfl : v = 16 := by omega
      have RB := Lib.hid ((hE.block w.heap.size (by omega)).trans HR2.out)
      obtain ⟨r0, r1, g0, g1⟩ := two_cells RB.out
      obtain ⟨x0, x1, -, -⟩ := two_cells HX.out
      have EF := Lib.hid (E2.trans (hE.mono (by omega)))
      clear hE
      go_wp2_with fail
      have hfin := two_set (a := .int .i64 16) (b := .slice (some ⟨G, 0, none⟩) 16 16) RB.out
      refine bodyPost_ret (v := .tuple #[.agg #[.int .i64 16, .slice (some ⟨G, 0, none⟩) 16 16], .bool true]) (results_cell2 (p := 2) (u := 3) (ty := 24) rfl _ _ w.heap.size 24 _ (0, 0) _ rfl hfin Try.underlying24 rfl (by exact info27)) rfl ⟨⟨_, rfl, ?_⟩, ?_⟩
      · have h := Own.of_blk ((HB.out.other (a := ⟨w.heap.size, 0, none⟩) (by simp; omega) (.int .i64 16)).other (a := ⟨w.heap.size, 1, none⟩) (by simp; omega) (.slice (some ⟨G, 0, none⟩) 16 16)) (B := w.heap.size) (by omega) (by rw [rowsF_length]; unfold maxLen; omega)
        rw [rowsF_length] at h
        exact h
      · exact (EF.out.setCell (p := ⟨w.heap.size, 0, none⟩) (by simp) _).setCell (p := ⟨w.heap.size, 1, none⟩) (by simp) _
end Go.Proofs.Ytonfcmngokmgpaa
