/-
  impl.shortestReduced. (A plain seat of bases.)
-/
import Derived.Test.YthonkphjahomeaaWg2
namespace Go.Proofs.Ythonkphjahomeaa
set_option maxRecDepth 100000
open Go.RowKit

theorem rwF_zero (m : Nat) (fs : List Int) (K f : Nat) : fL (upF (fun _ => 0) f ((2 ^ stA m fs f 2 : Nat) : Int)) K = fL (rwF m fs K f 0) K := by
  unfold fL; exact List.map_congr_left fun y hy => by
    unfold upF rwF
    rw [rwN]
    split <;> rfl
theorem fdB_no {m : Nat} {fs : List Int} {K f t : Nat} (h : ∀ i, i < K → ((rwN m fs K f t i).testBit 0 && pcB m fs i f) = false) : fdB m fs K f t = false := by
  unfold fdB
  rw [List.any_eq_false]
  exact fun i hi => by rw [h i (List.mem_range.1 hi)]; simp
theorem fdB_yes {m : Nat} {fs : List Int} {K f t i : Nat} (hi : i < K) (h : ((rwN m fs K f t i).testBit 0 && pcB m fs i f) = true) : fdB m fs K f t = true := by
  unfold fdB
  rw [List.any_eq_true]
  exact ⟨i, List.mem_range.2 hi, h⟩

set_option maxHeartbeats 6400000 in
theorem shR_any (n m k K B G f : Nat) (fs : List Int) (w : World) (hav : AvOk n m k fs) (hK : K = 2 * k) (hk : k ≤ 16) (hm : m ≤ 62) (hf : f < K) (hO : w.ownsRow B 43 4 (.slice (some ⟨G, 0, none⟩) K K) K (stL m fs K)) :
    Calls Try.prog 15 #[.int .i64 m, .slice (some ⟨G, 0, none⟩) K K, .agg #[.int .i64 f, .int .i64 (stA m fs f 0), .int .i64 (stA m fs f 1), .int .i64 (stA m fs f 2)]] w fun e w' => e = .returned (.int .i64 (shN m fs K f : Nat)) ∧ Below w.heap.size w w' := by
  have hmk := run_mkInts K (by omega)
  have HO := Lib.hid hO
  have HLT : Hid (∀ i, i < K → stA m fs i 0 < n ∧ stA m fs i 1 < n ∧ stA m fs i 2 < m) := fun i hi => stA_lt hav (by omega)
  have hfm := (HLT.out f hf).2.2
  have HRW : Hid (∀ t i, rwN m fs K f t i < 2 ^ m) := rwN_lt hfm
  have h2m : 2 ^ m ≤ 2 ^ 62 := Nat.pow_le_pow_right (by decide) hm
  have K32 : K ≤ 32 := by omega
  have HSO : Hid (∀ (gs t : Nat) (W : World), Below w.heap.size w W → Blk W gs (fL (rwF m fs K f t) K) → Calls Try.prog 24 #[.int .i64 m, .slice (some ⟨G, 0, none⟩) K K, .slice (some ⟨gs, 0, none⟩) K K] W fun e w' => e = .returned (.slice (some ⟨W.heap.size, 0, none⟩) K K) ∧ Blk w' W.heap.size (fL (rwF m fs K f (t + 1)) K) ∧ Below W.heap.size W w') := fun gs t W h hB =>
    sums_any n m k K B G gs f t fs W hav hK hk hm hf (ownsT_below HO.out h) hB
  have HS1 : Hid (∀ t, t < 14 → (∀ t', t' < t → fdB m fs K f t' = false) → fdB m fs K f t = true → shN m fs K f = t + 1) := fun t ht h1 h2 => by unfold shN; rw [srch_at h1 h2 14 ht]
  have HS2 : Hid ((∀ t', t' < 14 → fdB m fs K f t' = false) → shN m fs K f = 15) := fun h1 => by unfold shN; rw [srch_none h1]
  obtain ⟨R, hR⟩ : ∃ R, R = shN m fs K f := ⟨_, rfl⟩
  rw [← hR] at HS1 HS2 ⊢
  obtain ⟨a0, ha0⟩ : ∃ a0, a0 = stA m fs f 0 := ⟨_, rfl⟩
  obtain ⟨a1, ha1⟩ : ∃ a1, a1 = stA m fs f 1 := ⟨_, rfl⟩
  obtain ⟨a2, ha2⟩ : ∃ a2, a2 = stA m fs f 2 := ⟨_, rfl⟩
  rw [← ha0, ← ha1, ← ha2]
  have HA0 := Lib.hid ha0; have HA2 := Lib.hid ha2
  rw [← ha2] at hfm
  obtain ⟨Wx, hWx⟩ : ∃ Wx, Wx = w.alloc (.cells #[.int .i64 f, .int .i64 a0, .int .i64 a1, .int .i64 a2] 43) := ⟨_, rfl⟩
  have Xx : Hid (Wx.heap[w.heap.size]? = some (.cells #[.int .i64 f, .int .i64 a0, .int .i64 a1, .int .i64 a2] 43 (0, 0))) := by rw [hWx]; exact World.alloc_heap_new w _
  have Ex : Below w.heap.size w Wx := by rw [hWx]; exact (Below.refl _ _).alloc (Nat.le_refl _) _
  have sx : Wx.heap.size = w.heap.size + 1 := by rw [hWx]; simp
  have HSX := Lib.hid sx
  have hfK : (f : Int) < K := by omega
  have hf0 : (0 : Int) ≤ f := by omega
  have hac0 : (0 : Int) ≤ a2 := by omega
  have hac1 : (a2 : Int) ≤ 64 := by omega
  obtain ⟨P, hP⟩ : ∃ P, P = 2 ^ a2 := ⟨_, rfl⟩
  have hp2 : P < 2 ^ 62 := by rw [hP]; exact Nat.pow_lt_pow_right (by decide) (by omega)
  have ep : ((2 : Int) ^ a2) = (P : Int) := by rw [hP]; push_cast; rfl
  have gp : IntKind.i64.wrap ((2 : Int) ^ a2) = (2 : Int) ^ a2 := by rw [ep]; exact IntWalk.i64_in _ (by omega)
  have HB00 : Hid (fL (upF (fun _ => 0) f (2 ^ a2)) K = fL (rwF m fs K f 0) K) := by show _ = _; rw [← rwF_zero, ep, hP, HA2.out]
  clear ep hp2 hP
  clear hO hav hK hk hR ha0 ha1 ha2 sx
  go_enter Try.func15, Try.ntmps15
  go_upto_region 1 with fail
  rw [← hWx]
  clear hWx
  go_wp2_with fail
  rw [HSX.out]
  obtain ⟨W0, hW0⟩ : ∃ W0, W0 = Wx.alloc (.cells (intsA (List.replicate K 0)) 2) := ⟨_, rfl⟩
  have HB0 : Hid (Blk W0 (w.heap.size + 1) (fL (fun _ => 0) K)) := by show Blk _ _ _; rw [fL_zero, hW0, ← HSX.out]; exact Blk.new Wx _
  have E0 : Below w.heap.size w W0 := by rw [hW0]; exact Ex.alloc Ex.size _
  have X0 : Hid (W0.heap[w.heap.size]? = some (.cells #[.int .i64 f, .int .i64 a0, .int .i64 a1, .int .i64 a2] 43 (0, 0))) := by show _ = _; rw [hW0]; exact heap_old_at Xx.out _
  rw [← hW0]
  clear hW0 hmk Ex Xx
  obtain ⟨y0, y1, y2, y3⟩ := four_cells X0.out
  have zo : W0.cell? ⟨w.heap.size + 1, f, none⟩ = some (.int .i64 0) := by rw [HB0.out.cell (by rw [fL_length]; exact hf), fL_el _ hf]
  have zf : W0.frozen? ⟨w.heap.size + 1, f, none⟩ = false := HB0.out.frozen f
  go_region
  obtain ⟨W1, hW1⟩ : ∃ W1, W1 = (W0.setCell ⟨w.heap.size + 1, f, none⟩ (.int .i64 (2 ^ a2))).drew := ⟨_, rfl⟩
  have HB1 : Hid (Blk W1 (w.heap.size + 1) (fL (rwF m fs K f 0) K)) := by
    show Blk _ _ _
    rw [hW1, ← HB00.out, ← fL_set]
    exact HB0.out.set f _
  have E1 : Below w.heap.size w W1 := by rw [hW1]; exact (E0.setCell (p := ⟨w.heap.size + 1, f, none⟩) (by simp) _).drew
  have X1 : Hid (W1.heap[w.heap.size]? = some (.cells #[.int .i64 f, .int .i64 a0, .int .i64 a1, .int .i64 a2] 43 (0, 0))) := by show _ = _; rw [hW1]; exact (Below.heap_setCell W0 _ _ _ (by simp)).trans X0.out
  rw [← hW1]
  clear hW1 HB0 E0 X0 HB00 y0 y1 y2 y3 zo zf gp
  go_wp2_with fail
  go_loopw [7, 8, 9, 10] (fun sv lv _ _ wr => ∃ (t g : Nat), t ≤ 14 ∧ lv = .int .i64 ((t : Int) + 1) ∧ sv = .slice (some ⟨g, 0, none⟩) K K ∧ w.heap.size + 1 ≤ g ∧ Hid (Blk wr g (fL (rwF m fs K f t) K)) ∧ Hid (∀ t', t' < t → fdB m fs K f t' = false) ∧ Below w.heap.size w wr ∧ Hid (wr.heap[w.heap.size]? = some (.cells #[.int .i64 f, .int .i64 a0, .int .i64 a1, .int .i64 a2] 43 (0, 0)))) (fun _ lv _ _ _ => 16 - (intOf lv).toNat)
  case atStart => exact ⟨0, w.heap.size + 1, by omega, rfl, rfl, Nat.le_refl _, HB1, fun t' h => absurd h (by omega), E1, X1⟩
  case round =>
    clear HB1 E1 X1
    obtain ⟨t, g, ht, rfl, rfl, hg, HB, HNO, hE, HX⟩ := hrel
    obtain ⟨wo, rfl⟩ : ∃ wo : World, wo = wr := ⟨_, rfl⟩
    by_cases hlt : t < 14
    · have hlti : (t : Int) + 1 ≤ 14 := by omega
      have ht0 : (0 : Int) ≤ (t : Int) + 1 := by omega
      have hgl := HB.out.lt
      go_wp2_with fail
      go_loopw [9, 10, 28] (fun _ _ iv wr => ∃ i : Nat, i ≤ K ∧ iv = .int .i64 i ∧ Hid (∀ i', i' < i → ((rwN m fs K f t i').testBit 0 && pcB m fs i' f) = false) ∧ Hid (Blk wr g (fL (rwF m fs K f t) K)) ∧ Below w.heap.size w wr ∧ Hid (wr.heap[w.heap.size]? = some (.cells #[.int .i64 f, .int .i64 a0, .int .i64 a1, .int .i64 a2] 43 (0, 0)))) (fun _ _ iv _ => K - (intOf iv).toNat)
      case atStart => exact ⟨0, Nat.zero_le _, rfl, fun i' h => absurd h (by omega), HB, hE, HX⟩
      case round =>
        clear HB hE HX
        obtain ⟨i, hi, rfl, HI, HB, hE, HX⟩ := hrel
        by_cases hil : i < K
        · have hili : (i : Int) < K := by omega
          have hi0 : (0 : Int) ≤ i := by omega
          obtain ⟨z0, z1, z2, z3⟩ := step_cells HO.out hE hil
          obtain ⟨c0, hc0⟩ : ∃ c0, c0 = stA m fs i 0 := ⟨_, rfl⟩
          obtain ⟨c1, hc1⟩ : ∃ c1, c1 = stA m fs i 1 := ⟨_, rfl⟩
          obtain ⟨c2, hc2⟩ : ∃ c2, c2 = stA m fs i 2 := ⟨_, rfl⟩
          rw [← hc0] at z1
          rw [← hc1] at z2
          rw [← hc2] at z3
          obtain ⟨r, hr⟩ : ∃ r, r = pcB m fs i f := ⟨_, rfl⟩
          have hr2 : r = ((c1 == a0) && (i != flp f)) := by rw [hr, hc1, HA0.out]; rfl
          have HMP : Hid (∀ W, Calls Try.prog 23 #[.agg #[.int .i64 i, .int .i64 c0, .int .i64 c1, .int .i64 c2], .agg #[.int .i64 f, .int .i64 a0, .int .i64 a1, .int .i64 a2]] W fun e w' => e = .returned (.bool r) ∧ Below W.heap.size W w') := fun W => mayP_any i c0 c1 c2 f a0 a1 a2 W (by omega) r hr2
          obtain ⟨x, hx⟩ : ∃ x, x = rwN m fs K f t i := ⟨_, rfl⟩
          have hx2 : x < 2 ^ m := by rw [hx]; exact HRW.out t i
          obtain ⟨q, hq⟩ : ∃ q, q = x.testBit 0 := ⟨_, rfl⟩
          have HHM : Hid (∀ W, Calls Try.prog 22 #[.int .i64 x, .int .i64 0] W fun e w' => e = .returned (.bool q) ∧ W = w') := fun W => by rw [hq]; exact hasM_any x 0 W (by omega) (by omega)
          have HQR : Hid (((rwN m fs K f t i).testBit 0 && pcB m fs i f) = (q && r)) := by show _ = _; rw [← hx, ← hq, ← hr]
          have g6 : IntKind.i64.wrap ((i : Int) + 1) = (i : Int) + 1 := IntWalk.i64_in _ (by omega)
          clear hc0 hc1 hc2 hr hr2
          go_upto_region 9 with fail
          obtain ⟨w7, h7⟩ : ∃ w7, w7 = wr.alloc (.cells #[.int .i64 i, .int .i64 c0, .int .i64 c1, .int .i64 c2] 43) := ⟨_, rfl⟩
          have X7 : Hid (w7.heap[wr.heap.size]? = some (.cells #[.int .i64 i, .int .i64 c0, .int .i64 c1, .int .i64 c2] 43 (0, 0))) := by rw [h7]; exact World.alloc_heap_new wr _
          have X67 : Hid (w7.heap[w.heap.size]? = some (.cells #[.int .i64 f, .int .i64 a0, .int .i64 a1, .int .i64 a2] 43 (0, 0))) := by show _ = _; rw [h7]; exact heap_old_at HX.out _
          have hE7 : Below w.heap.size w w7 := by rw [h7]; exact hE.alloc hE.size _
          have HB7 : Hid (Blk w7 g (fL (rwF m fs K f t) K)) := by rw [h7]; exact HB.out.alloc _
          have s7 : wr.heap.size + 1 ≤ w7.heap.size := by rw [h7]; simp
          rw [← h7]
          have zx : w7.cell? ⟨g, i, none⟩ = some (.int .i64 x) := by rw [HB7.out.cell (by rw [fL_length]; exact hil), fL_el _ hil, hx]; rfl
          clear h7 z0 z1 z2 z3 hE HX HB hx hq hx2
          obtain ⟨y0, y1, y2, y3⟩ := four_cells X67.out
          obtain ⟨v0, v1, v2, v3⟩ := four_cells X7.out
          go_wp2_with fail
          refine (HHM.out _).mono ?_
          rintro e w8 ⟨rfl, rfl⟩
          cases q with
          | false =>
            have HIN : Hid (∀ i', i' < i + 1 → ((rwN m fs K f t i').testBit 0 && pcB m fs i' f) = false) := fun i' h => by
              by_cases e : i' = i
              · rw [e, HQR.out]; rfl
              · exact HI.out i' (by omega)
            clear HQR HMP HHM
            go_wp2_with fail
            exact ⟨⟨i + 1, by omega, by push_cast; rfl, HIN, HB7, hE7, X67⟩, by simp [intOf]; omega⟩
          | true =>
            go_wp2_with fail
            refine (HMP.out _).mono ?_
            rintro e w8 ⟨rfl, hb8⟩
            have HB8 : Hid (Blk w8 g (fL (rwF m fs K f t) K)) := HB7.out.belowAll hb8
            have hE8 := hE7.trans (hb8.mono hE7.size)
            have X8 : Hid (w8.heap[w.heap.size]? = some (.cells #[.int .i64 f, .int .i64 a0, .int .i64 a1, .int .i64 a2] 43 (0, 0))) := (hb8.block _ (Array.getElem?_eq_some_iff.1 X67.out).1).trans X67.out
            clear hb8 HB7 hE7 X67 X7 y0 y1 y2 y3 v0 v1 v2 v3 HMP HHM zx
            cases r with
            | false =>
              have HIN : Hid (∀ i', i' < i + 1 → ((rwN m fs K f t i').testBit 0 && pcB m fs i' f) = false) := fun i' h => by
                by_cases e : i' = i
                · rw [e, HQR.out]; rfl
                · exact HI.out i' (by omega)
              clear HQR
              go_wp2_with fail
              exact ⟨⟨i + 1, by omega, by push_cast; rfl, HIN, HB8, hE8, X8⟩, by simp [intOf]; omega⟩
            | true =>
              have HRT : Hid (R = t + 1) := HS1.out t hlt HNO.out (fdB_yes hil (by rw [HQR.out]; rfl))
              clear HQR HS1 HS2
              go_wp2_with fail
              go_ret
              rw [HRT.out]
              exact ⟨by push_cast; rfl, hE8⟩
        · obtain rfl : i = K := by omega
          have HNN : Hid (∀ t', t' < t + 1 → fdB m fs i f t' = false) := fun t' h => by
            by_cases e : t' = t
            · rw [e]; exact fdB_no HI.out
            · exact HNO.out t' (by omega)
          have hso := Lib.hid (HSO.out g t wr hE HB.out)
          have gt : IntKind.i64.wrap ((t : Int) + 1 + 1) = (t : Int) + 1 + 1 := IntWalk.i64_in _ (by omega)
          go_wp2_with fail
          refine hso.out.mono ?_
          rintro e w8 ⟨rfl, hB8, hb8⟩
          have HB8 := Lib.hid hB8
          have X8 : Hid (w8.heap[w.heap.size]? = some (.cells #[.int .i64 f, .int .i64 a0, .int .i64 a1, .int .i64 a2] 43 (0, 0))) := (hb8.block _ (Array.getElem?_eq_some_iff.1 HX.out).1).trans HX.out
          have hE8 := hE.trans (hb8.mono hE.size)
          have hg8 : w.heap.size + 1 ≤ wr.heap.size := (Array.getElem?_eq_some_iff.1 HX.out).1
          clear hso hb8 hB8 HB hE HX
          go_wp2_with fail
          exact ⟨⟨t + 1, wr.heap.size, by omega, by push_cast; rfl, rfl, hg8, HB8, HNN, hE8, X8⟩, by simp [intOf]; omega⟩
    · obtain rfl : t = 14 := by omega
      have HRT : Hid (R = 15) := HS2.out HNO.out
      clear HS1 HS2 HNO
      go_wp2_with fail
      go_ret
      rw [HRT.out]
      exact ⟨rfl, hE⟩
end Go.Proofs.Ythonkphjahomeaa
