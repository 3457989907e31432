/-
  impl.sumsOneStepOn. (A plain seat of bases.)
-/
import Derived.Test.YthonkphjahomeaaWg1
namespace Go.Proofs.Ythonkphjahomeaa
set_option maxRecDepth 100000
open Go.RowKit

/-- The rows one step on, of the first j steps. -/
def lgF (m : Nat) (fs : List Int) (K f t j : Nat) : Nat → Int := fun y => if y < j then (rwN m fs K f (t + 1) y : Nat) else 0
def rwF (m : Nat) (fs : List Int) (K f t : Nat) : Nat → Int := fun y => (rwN m fs K f t y : Nat)
theorem lgF_zero (m : Nat) (fs : List Int) (K f t : Nat) : fL (lgF m fs K f t 0) K = List.replicate K 0 := by
  rw [← fL_zero]; unfold fL; exact List.map_congr_left fun y hy => by simp [lgF]
theorem lgF_all (m : Nat) (fs : List Int) (K f t : Nat) : fL (lgF m fs K f t K) K = fL (rwF m fs K f (t + 1)) K := by
  unfold fL; exact List.map_congr_left fun y hy => by have := List.mem_range.1 hy; simp [lgF, rwF, this]
theorem upF_same (g : Nat → Int) (j K : Nat) (h : g j = 0) : fL (upF g j 0) K = fL g K := by
  unfold fL; exact List.map_congr_left fun y hy => by unfold upF; split <;> simp_all
theorem upF_up (g : Nat → Int) (j K : Nat) (x z : Int) : fL (upF (upF g j x) j z) K = fL (upF g j z) K := by
  unfold fL; exact List.map_congr_left fun y hy => by unfold upF; split <;> rfl
theorem lgF_next (m : Nat) (fs : List Int) (K f t j : Nat) : fL (upF (lgF m fs K f t j) j (rotN m (orN m fs (rwN m fs K f t) j K) (stA m fs j 2) : Nat)) K = fL (lgF m fs K f t (j + 1)) K := by
  unfold fL; exact List.map_congr_left fun y hy => by
    unfold upF lgF
    by_cases e : y = j
    · subst e; rw [if_pos rfl, if_pos (by omega)]; rfl
    · rw [if_neg e]
      by_cases h : y < j
      · rw [if_pos h, if_pos (by omega)]
      · rw [if_neg h, if_neg (by omega)]

set_option maxHeartbeats 6400000 in
theorem sums_any (n m k K B G gs f t : Nat) (fs : List Int) (w : World) (hav : AvOk n m k fs) (hK : K = 2 * k) (hk : k ≤ 16) (hm : m ≤ 62) (hf : f < K) (hO : w.ownsRow B 43 4 (.slice (some ⟨G, 0, none⟩) K K) K (stL m fs K)) (hS : Blk w gs (fL (rwF m fs K f t) K)) :
    Calls Try.prog 24 #[.int .i64 m, .slice (some ⟨G, 0, none⟩) K K, .slice (some ⟨gs, 0, none⟩) K K] w fun e w' => e = .returned (.slice (some ⟨w.heap.size, 0, none⟩) K K) ∧ Blk w' w.heap.size (fL (rwF m fs K f (t + 1)) K) ∧ Below w.heap.size w w' := by
  have hmk := run_mkInts K (by omega)
  have HO := Lib.hid hO; have HS := Lib.hid hS
  have hgs := hS.lt
  have HLT : Hid (∀ i, i < K → stA m fs i 0 < n ∧ stA m fs i 1 < n ∧ stA m fs i 2 < m) := fun i hi => stA_lt hav (by omega)
  have hfm := (HLT.out f hf).2.2
  have HRW : Hid (∀ i, rwN m fs K f t i < 2 ^ m) := rwN_lt hfm t
  have h2m : 2 ^ m ≤ 2 ^ 62 := Nat.pow_le_pow_right (by decide) hm
  have K32 : K ≤ 32 := by omega
  clear hO hS hav hK hk
  go_enter Try.func24, Try.ntmps24
  go_wp2_with fail
  clear hmk
  obtain ⟨W0, hW0⟩ : ∃ W0, W0 = w.alloc (.cells (intsA (List.replicate K 0)) 2) := ⟨_, rfl⟩
  have HB0 : Hid (Blk W0 w.heap.size (fL (lgF m fs K f t 0) K)) := by show Blk _ _ _; rw [lgF_zero, hW0]; exact Blk.new w _
  have E0 : Below w.heap.size w W0 := by rw [hW0]; exact (Below.refl _ _).alloc (Nat.le_refl _) _
  have s0 : w.heap.size + 1 ≤ W0.heap.size := by rw [hW0]; simp
  rw [← hW0]
  clear hW0
  go_loopw [8, 9, 10, 11, 17] (fun _ _ _ _ jv wr => ∃ j : Nat, j ≤ K ∧ jv = .int .i64 j ∧ Hid (Blk wr w.heap.size (fL (lgF m fs K f t j) K)) ∧ Below w.heap.size w wr ∧ w.heap.size + 1 ≤ wr.heap.size) (fun _ _ _ _ jv _ => K - (intOf jv).toNat)
  case atStart => exact ⟨0, Nat.zero_le _, rfl, HB0, E0, s0⟩
  case round =>
    clear HB0 E0 s0
    obtain ⟨j, hj, rfl, HB, hE, hs⟩ := hrel
    obtain ⟨wo, rfl⟩ : ∃ wo : World, wo = wr := ⟨_, rfl⟩
    by_cases hlt : j < K
    · have hlti : (j : Int) < K := by omega
      have hj0 : (0 : Int) ≤ j := by omega
      obtain ⟨z0, z1, z2, z3⟩ := step_cells HO.out hE hlt
      obtain ⟨a0, ha0⟩ : ∃ a0, a0 = stA m fs j 0 := ⟨_, rfl⟩
      obtain ⟨a1, ha1⟩ : ∃ a1, a1 = stA m fs j 1 := ⟨_, rfl⟩
      obtain ⟨a2, ha2⟩ : ∃ a2, a2 = stA m fs j 2 := ⟨_, rfl⟩
      rw [← ha0] at z1
      rw [← ha1] at z2
      rw [← ha2] at z3
      have ha2m : a2 < m := by rw [ha2]; exact (HLT.out j hlt).2.2
      have HA0 := Lib.hid ha0; have HA2 := Lib.hid ha2
      have g5 : IntKind.i64.wrap ((j : Int) + 1) = (j : Int) + 1 := IntWalk.i64_in _ (by omega)
      clear ha0 ha1 ha2
      go_upto_region 5 with fail
      obtain ⟨w6, h6⟩ : ∃ w6, w6 = wo.alloc (.cells #[.int .i64 j, .int .i64 a0, .int .i64 a1, .int .i64 a2] 43) := ⟨_, rfl⟩
      have X6 : Hid (w6.heap[wo.heap.size]? = some (.cells #[.int .i64 j, .int .i64 a0, .int .i64 a1, .int .i64 a2] 43 (0, 0))) := by rw [h6]; exact World.alloc_heap_new wo _
      have hE6 : Below w.heap.size w w6 := by rw [h6]; exact hE.alloc hE.size _
      have s6 : wo.heap.size + 1 ≤ w6.heap.size := by rw [h6]; simp
      have HB6 : Hid (Blk w6 w.heap.size (fL (upF (lgF m fs K f t j) j (orN m fs (rwN m fs K f t) j 0 : Nat)) K)) := by
        show Blk _ _ _
        rw [orN, show ((0 : Nat) : Int) = 0 from rfl, upF_same _ _ _ (by unfold lgF; rw [if_neg (by omega)]), h6]; exact HB.out.alloc _
      rw [← h6]
      clear h6 z0 z1 z2 z3 hE HB
      go_wp2_with fail
      go_loopw [10, 11, 24] (fun _ _ iv wr => ∃ i : Nat, i ≤ K ∧ iv = .int .i64 i ∧ Hid (Blk wr w.heap.size (fL (upF (lgF m fs K f t j) j (orN m fs (rwN m fs K f t) j i : Nat)) K)) ∧ Below w.heap.size w wr ∧ Hid (wr.heap[wo.heap.size]? = some (.cells #[.int .i64 j, .int .i64 a0, .int .i64 a1, .int .i64 a2] 43 (0, 0)))) (fun _ _ iv _ => K - (intOf iv).toNat)
      case atStart => exact ⟨0, Nat.zero_le _, rfl, HB6, hE6, X6⟩
      case round =>
        clear HB6 hE6 X6
        obtain ⟨i, hi, rfl, HB, hE, HX⟩ := hrel
        have hsw : wo.heap.size + 1 ≤ wr.heap.size := (Array.getElem?_eq_some_iff.1 HX.out).1
        by_cases hil : i < K
        · have hili : (i : Int) < K := by omega
          have hi0 : (0 : Int) ≤ i := by omega
          obtain ⟨z0, z1, z2, z3⟩ := step_cells HO.out hE hil
          obtain ⟨c0, hc0⟩ : ∃ c0, c0 = stA m fs i 0 := ⟨_, rfl⟩
          obtain ⟨c1, hc1⟩ : ∃ c1, c1 = stA m fs i 1 := ⟨_, rfl⟩
          obtain ⟨c2, hc2⟩ : ∃ c2, c2 = stA m fs i 2 := ⟨_, rfl⟩
          rw [← hc0] at z1
          rw [← hc1] at z2
          rw [← hc2] at z3
          obtain ⟨r, hr⟩ : ∃ r, r = pcB m fs i j := ⟨_, rfl⟩
          have HR : Hid (r = pcB m fs i j) := hr
          have hr2 : r = ((c1 == a0) && (i != flp j)) := by rw [hr, hc1, HA0.out]; rfl
          have HMP : Hid (∀ W, Calls Try.prog 23 #[.agg #[.int .i64 i, .int .i64 c0, .int .i64 c1, .int .i64 c2], .agg #[.int .i64 j, .int .i64 a0, .int .i64 a1, .int .i64 a2]] W fun e w' => e = .returned (.bool r) ∧ Below W.heap.size W w') := fun W => mayP_any i c0 c1 c2 j a0 a1 a2 W (by omega) r hr2
          have g6 : IntKind.i64.wrap ((i : Int) + 1) = (i : Int) + 1 := IntWalk.i64_in _ (by omega)
          clear hc0 hc1 hc2 hr hr2
          go_upto_region 8 with fail
          obtain ⟨w7, h7⟩ : ∃ w7, w7 = wr.alloc (.cells #[.int .i64 i, .int .i64 c0, .int .i64 c1, .int .i64 c2] 43) := ⟨_, rfl⟩
          have X7 : Hid (w7.heap[wr.heap.size]? = some (.cells #[.int .i64 i, .int .i64 c0, .int .i64 c1, .int .i64 c2] 43 (0, 0))) := by rw [h7]; exact World.alloc_heap_new wr _
          have X67 : Hid (w7.heap[wo.heap.size]? = some (.cells #[.int .i64 j, .int .i64 a0, .int .i64 a1, .int .i64 a2] 43 (0, 0))) := by show _ = _; rw [h7]; exact heap_old_at HX.out _
          have hE7 : Below w.heap.size w w7 := by rw [h7]; exact hE.alloc hE.size _
          have HB7 : Hid (Blk w7 w.heap.size (fL (upF (lgF m fs K f t j) j (orN m fs (rwN m fs K f t) j i : Nat)) K)) := by rw [h7]; exact HB.out.alloc _
          have s7 : wr.heap.size + 1 ≤ w7.heap.size := by rw [h7]; simp
          rw [← h7]
          clear h7 z0 z1 z2 z3 hE HX HB
          obtain ⟨y0, y1, y2, y3⟩ := four_cells X67.out
          obtain ⟨v0, v1, v2, v3⟩ := four_cells X7.out
          go_wp2_with fail
          refine (HMP.out _).mono ?_
          rintro e w8 ⟨rfl, hb8⟩
          have HB8 : Hid (Blk w8 w.heap.size (fL (upF (lgF m fs K f t j) j (orN m fs (rwN m fs K f t) j i : Nat)) K)) := HB7.out.belowAll hb8
          have hE8 := hE7.trans (hb8.mono hE7.size)
          have X8 : Hid (w8.heap[wo.heap.size]? = some (.cells #[.int .i64 j, .int .i64 a0, .int .i64 a1, .int .i64 a2] 43 (0, 0))) := (hb8.block _ (by omega)).trans X67.out
          clear hb8 HB7 hE7 X67 X7 y0 y1 y2 y3 v0 v1 v2 v3 HMP
          have s8 := hE8.size
          cases r with
          | false =>
            have HNX : Hid (orN m fs (rwN m fs K f t) j (i + 1) = orN m fs (rwN m fs K f t) j i) := by show _ = _; rw [orN, ← HR.out]; simp
            go_wp2_with fail
            refine ⟨⟨i + 1, by omega, by push_cast; rfl, ?_, hE8, X8⟩, by simp [intOf]; omega⟩
            show Blk _ _ _; rw [HNX.out]; exact HB8.out
          | true =>
            obtain ⟨o, ho⟩ : ∃ o, o = orN m fs (rwN m fs K f t) j i := ⟨_, rfl⟩
            obtain ⟨x, hx⟩ : ∃ x, x = rwN m fs K f t i := ⟨_, rfl⟩
            have ho2 : o < 2 ^ m := by rw [ho]; exact orN_lt HRW.out i
            have hx2 : x < 2 ^ m := by rw [hx]; exact HRW.out i
            have HOR := Lib.hid (or_i64 o x (by omega) (by omega))
            have HNX : Hid (orN m fs (rwN m fs K f t) j (i + 1) = o ||| x) := by show _ = _; rw [orN, ← HR.out, ho, hx]; simp
            have hbs := HS.out.below (hE8.mono (Nat.le_refl _)) hgs
            have zx : w8.cell? ⟨gs, i, none⟩ = some (.int .i64 x) := by rw [hbs.cell (by rw [fL_length]; exact hil), fL_el _ hil, hx]; rfl
            have zo : w8.cell? ⟨w.heap.size, j, none⟩ = some (.int .i64 o) := by rw [HB8.out.cell (by rw [fL_length]; exact hlt), fL_el _ hlt, ho]; unfold upF; rw [if_pos rfl]
            have zf : w8.frozen? ⟨w.heap.size, j, none⟩ = false := HB8.out.frozen j
            have HB9 : Hid (Blk (w8.setCell ⟨w.heap.size, j, none⟩ (.int .i64 ((o ||| x : Nat) : Int))) w.heap.size (fL (upF (lgF m fs K f t j) j (orN m fs (rwN m fs K f t) j (i + 1) : Nat)) K)) := by
              show Blk _ _ _
              rw [HNX.out, ← upF_up _ _ _ (orN m fs (rwN m fs K f t) j i : Nat), ← fL_set]
              exact HB8.out.set j _
            have hE9 := hE8.setCell (p := ⟨w.heap.size, j, none⟩) (Nat.le_refl _) (.int .i64 ((o ||| x : Nat) : Int))
            have X9 : Hid ((w8.setCell ⟨w.heap.size, j, none⟩ (.int .i64 ((o ||| x : Nat) : Int))).heap[wo.heap.size]? = some (.cells #[.int .i64 j, .int .i64 a0, .int .i64 a1, .int .i64 a2] 43 (0, 0))) := (Below.heap_setCell w8 _ _ _ (by simp; omega)).trans X8.out
            clear ho hx HB8 hbs
            go_wp2_with fail
            go_region
            rw [HOR.out]
            obtain ⟨w9, h9⟩ : ∃ w9, w9 = (w8.setCell ⟨w.heap.size, j, none⟩ (.int .i64 ((o ||| x : Nat) : Int))).drew := ⟨_, rfl⟩
            have HB9' : Hid (Blk w9 w.heap.size (fL (upF (lgF m fs K f t j) j (orN m fs (rwN m fs K f t) j (i + 1) : Nat)) K)) := by rw [h9]; exact HB9.out
            have hE9' : Below w.heap.size w w9 := by rw [h9]; exact hE9.drew
            have X9' : Hid (w9.heap[wo.heap.size]? = some (.cells #[.int .i64 j, .int .i64 a0, .int .i64 a1, .int .i64 a2] 43 (0, 0))) := by show _ = _; rw [h9]; exact X9.out
            rw [← h9]
            clear h9 HB9 hE9 X9 zx zo zf
            go_wp2_with fail
            exact ⟨⟨i + 1, by omega, by push_cast; rfl, HB9', hE9', X9'⟩, by simp [intOf]; omega⟩
        · obtain rfl : i = K := by omega
          obtain ⟨o, ho⟩ : ∃ o, o = orN m fs (rwN m fs i f t) j i := ⟨_, rfl⟩
          have ho2 : o < 2 ^ m := by rw [ho]; exact orN_lt HRW.out i
          have zo : wr.cell? ⟨w.heap.size, j, none⟩ = some (.int .i64 o) := by rw [HB.out.cell (by rw [fL_length]; exact hlt), fL_el _ hlt, ho]; unfold upF; rw [if_pos rfl]
          have HFZ : Hid (∀ W, Below wr.heap.size wr W → W.frozen? ⟨w.heap.size, j, none⟩ = false) := fun W h => (HB.out.belowAll h).frozen j
          obtain ⟨q, hq⟩ : ∃ q, q = rotN m o a2 := ⟨_, rfl⟩
          have HRT : Hid (∀ W, Calls Try.prog 27 #[.int .i64 m, .int .i64 o, .int .i64 a2] W fun e w' => e = .returned (.int .i64 q) ∧ Below W.heap.size W w') := fun W => by rw [hq]; exact rot_any m o a2 W hm ho2 ha2m
          have HNX : Hid (∀ W, Below wr.heap.size wr W → Blk (W.setCell ⟨w.heap.size, j, none⟩ (.int .i64 q)) w.heap.size (fL (lgF m fs i f t (j + 1)) i)) := fun W h => by
            rw [← lgF_next, ← HA2.out, ← ho, ← hq, ← upF_up _ _ _ (orN m fs (rwN m fs i f t) j i : Nat), ← fL_set]
            exact (HB.out.belowAll h).set j _
          have hse := hE.size
          have zf : wr.frozen? ⟨w.heap.size, j, none⟩ = false := HFZ.out wr (Below.refl _ _)
          obtain ⟨y0, y1, y2, y3⟩ := four_cells HX.out
          clear ho hq HB
          go_wp2_with fail
          go_region_with (go_at_call 27; refine (HRT.out _).mono ?_; rintro e w8 ⟨rfl, hb8⟩; have hb8' : Below wr.heap.size wr w8 := below_drew hb8 (by simp); have zf8 := HFZ.out w8 hb8'; have zo8 : w8.cell? ⟨w.heap.size, j, none⟩ = some (.int .i64 o) := (hb8'.cell (p := ⟨w.heap.size, j, none⟩) (by simp; omega)).trans zo)
          all_goals
            have HNB : Hid (Blk (w8.setCell ⟨w.heap.size, j, none⟩ (.int .i64 q)) w.heap.size (fL (lgF m fs i f t (j + 1)) i)) := HNX.out w8 hb8'
            have hEN := (hE.trans (hb8'.mono hse)).setCell (p := ⟨w.heap.size, j, none⟩) (Nat.le_refl _) (.int .i64 q)
            have hsN : w.heap.size + 1 ≤ (w8.setCell ⟨w.heap.size, j, none⟩ (.int .i64 q)).heap.size := by have := hb8'.size; simp; omega
            clear zf8 zo8 hb8 hb8' zo zf y0 y1 y2 y3 HRT HNX HFZ
            go_wp2_with fail
            exact ⟨⟨j + 1, by omega, by push_cast; rfl, HNB, hEN, hsN⟩, by simp [intOf]; omega⟩
    · obtain rfl : j = K := by omega
      have HF : Hid (Blk wo w.heap.size (fL (rwF m fs j f (t + 1)) j)) := by show Blk _ _ _; rw [← lgF_all]; exact HB.out
      clear HB
      go_wp2_with fail
      go_ret
      exact ⟨rfl, HF.out, hE⟩
end Go.Proofs.Ythonkphjahomeaa
