/-
  impl.checkSteps, impl.walkOf: a door that recovers.
-/
import Derived.Test.YthonkphjahomeaaDoorWk1
namespace Go.Proofs.YthonkphjahomeaaDoor
set_option maxRecDepth 100000
open Go.RowKit

theorem stepsC_none {n m : Int} {k : Nat} {fs zs : List Int} (h : isB n m k fs = false) : stepsC n m k fs zs = 1 := by unfold stepsC; rw [if_neg (by simp [h])]
theorem stepsC_long {n m : Int} {k : Nat} {fs zs : List Int} (h : isB n m k fs = true) (hz : ¬ zs.length ≤ 14) : stepsC n m k fs zs = 2 := by unfold stepsC; rw [if_pos h, if_neg (by simp [hz])]
theorem stepsC_no {n m : Int} {k : Nat} {fs zs : List Int} (h : isB n m k fs = true) (hz : nbTo k zs zs.length = false) : stepsC n m k fs zs = 2 := by unfold stepsC; rw [if_pos h, if_neg (by simp [hz])]
theorem stepsC_yes {n m : Int} {k : Nat} {fs zs : List Int} (h : isB n m k fs = true) (h1 : zs.length ≤ 14) (hz : nbTo k zs zs.length = true) : stepsC n m k fs zs = 0 := by unfold stepsC; rw [if_pos h, if_pos (by simp [hz, h1])]

set_option maxHeartbeats 1600000 in
theorem steps_no (n m : Int) (v : Value) (k : Nat) (fs zs : List Int) (p : Option Addr) (c : Nat) (w : World) (hs : Sa w v k fs) (hl : k ≤ 9223372036854775807) (hg : isB n m k fs = false) :
    Calls Tryd.prog 34 #[.agg #[.int .i64 n, .int .i64 m, v], .slice p zs.length c] w fun e w' => e = .returned (.int .i64 (stepsC n m k fs zs)) ∧ Below w.heap.size w w' := by
  rw [stepsC_none hg]
  have D0 : Below w.heap.size w (w.alloc (.cells #[.int .i64 n, .int .i64 m, v] 31)) := (Below.refl _ _).alloc (Nat.le_refl _) _
  have his := implIs_any n m v k fs (w.alloc (.cells #[.int .i64 n, .int .i64 m, v] 31)) (hs.below D0) hl
  rw [hg] at his
  clear hs hg
  go_enter Tryd.func34, Tryd.ntmps34
  go_wp2_with (go_at_call 28; refine his.mono ?_; rintro e w1 ⟨rfl, hb1⟩)
  go_ret
  exact ⟨rfl, D0.trans (hb1.mono (by simp))⟩

set_option maxHeartbeats 3200000 in
theorem steps_yes (n m k cap : Nat) (sa : Option Addr) (fs zs : List Int) (p : Option Addr) (c : Nat) (w : World) (hs : Sa w (.slice sa k cap) k fs) (hz : Sl w (.slice p zs.length c) zs) (hl : zs.length ≤ 9223372036854775807) (hg : isB n m k fs = true) (hk : k ≤ 16) :
    Calls Tryd.prog 34 #[.agg #[.int .i64 n, .int .i64 m, .slice sa k cap], .slice p zs.length c] w fun e w' => e = .returned (.int .i64 (stepsC n m k fs zs)) ∧ Below w.heap.size w w' := by
  have D0 : Below w.heap.size w (w.alloc (.cells #[.int .i64 n, .int .i64 m, .slice sa k cap] 31)) := (Below.refl _ _).alloc (Nat.le_refl _) _
  have his := implIs_any n m (.slice sa k cap) k fs (w.alloc (.cells #[.int .i64 n, .int .i64 m, .slice sa k cap] 31)) (hs.below D0) (by omega)
  rw [hg] at his
  have HG0 := Lib.hid (World.alloc_heap_new w (.cells #[.int .i64 n, .int .i64 m, .slice sa k cap] 31))
  obtain ⟨W0, hW0⟩ : ∃ W0, W0 = w.alloc (.cells #[.int .i64 n, .int .i64 m, .slice sa k cap] 31) := ⟨_, rfl⟩
  have sz0 : w.heap.size + 1 ≤ W0.heap.size := by rw [hW0]; simp
  rw [← hW0] at HG0 D0 his
  obtain ⟨⟨b0, b1, b2⟩, -⟩ := three_cells HG0.out
  by_cases h14 : zs.length ≤ 14
  · have hz14 : ¬ (14 : Int) < zs.length := by omega
    have hone : Hid (nbTo k zs zs.length = true → stepsC n m k fs zs = 0) := fun h => stepsC_yes hg h14 h
    have htwo : Hid (nbTo k zs zs.length = false → stepsC n m k fs zs = 2) := fun h => stepsC_no hg h
    obtain ⟨C, hC⟩ : ∃ C, C = stepsC n m k fs zs := ⟨_, rfl⟩
    rw [← hC] at hone htwo ⊢
    have HZ := Lib.hid hz; have HD := Lib.hid D0
    clear hs hz hg hC D0
    go_enter Tryd.func34, Tryd.ntmps34
    go_upto_region 1 with fail
    rw [← hW0]
    clear hW0
    go_wp2_with (go_at_call 28; refine his.mono ?_; rintro e w1 ⟨rfl, hb1⟩)
    have E1 := HD.out.trans (hb1.mono (by omega))
    have X1 : Hid (w1.heap[w.heap.size]? = some (.cells #[.int .i64 n, .int .i64 m, .slice sa k cap] 31 (0, 0))) := (hb1.block w.heap.size (by omega)).trans HG0.out
    have s1 := hb1.size
    clear his hb1 b0 b1 b2 HG0
    go_loopw [15] (fun i wr => ∃ j : Nat, j ≤ zs.length ∧ i = .int .i64 j ∧ Hid (nbTo k zs j = true) ∧ Below w1.heap.size w1 wr) (fun i _ => zs.length - (intOf i).toNat)
    case atStart => exact ⟨0, Nat.zero_le _, rfl, rfl, Below.refl _ _⟩
    case round =>
      obtain ⟨j, hj, rfl, HN, hE⟩ := hrel
      obtain ⟨⟨b0, b1, b2⟩, -⟩ := three_cells ((hE.block w.heap.size (by omega)).trans X1.out)
      by_cases hlt : j < zs.length
      · have hlti : (j : Int) < zs.length := by omega
        have hj0 : (0 : Int) ≤ j := by omega
        obtain ⟨b, off, rfl, hb, hcc⟩ : ∃ b off, p = some ⟨b, off, none⟩ ∧ b < w.heap.size ∧ Cells w b off zs := by
          rcases HZ.out with ⟨_, _, e, rfl⟩ | ⟨b, off, _, e, h1, h2⟩
          · simp at hlt
          · injection e with e1 _ _
            exact ⟨b, off, e1, h1, h2⟩
        have z0 := (hcc.below (E1.trans (hE.mono (by omega))) hb) j hlt
        obtain ⟨z, hzz⟩ : ∃ z, z = el zs j := ⟨_, rfl⟩
        have HB : Hid (nbB k zs j = (decide (0 ≤ z) && decide (z ≤ 2 * (k : Int) - 1))) := by show _ = _; rw [hzz]; rfl
        rw [← hzz] at z0
        have HN1 : Hid (nbB k zs j = true → nbTo k zs (j + 1) = true) := fun h => by rw [nbTo_succ, HN.out, h]; rfl
        have HN2 : Hid (nbB k zs j = false → C = 2) := fun h => htwo.out (nbTo_no hlt h)
        have g1 : IntKind.i64.wrap (2 * (k : Int)) = 2 * (k : Int) := IntWalk.i64_in _ (by omega)
        clear hcc hzz
        by_cases h0 : z < 0
        · have hd0 : decide (z < 0) = true := by simpa using h0
          have hC2 : Hid (C = 2) := HN2.out (by rw [HB.out, decide_eq_false (by omega)]; rfl)
          clear HB HN1 HN2
          go_wp2
          go_ret
          rw [hC2.out]
          exact ⟨rfl, E1.trans (hE.mono (by omega))⟩
        · have hd0 : decide (z < 0) = false := by simpa using h0
          by_cases h1 : 2 * (k : Int) ≤ z
          · have hd1 : decide (2 * (k : Int) ≤ z) = true := by simpa using h1
            have hC2 : Hid (C = 2) := HN2.out (by rw [HB.out, decide_eq_false (show ¬ z ≤ 2 * (k : Int) - 1 by omega)]; simp)
            clear HB HN1 HN2
            go_wp2
            go_ret
            rw [hC2.out]
            exact ⟨rfl, E1.trans (hE.mono (by omega))⟩
          · have hd1 : decide (2 * (k : Int) ≤ z) = false := by simpa using h1
            have hN : Hid (nbTo k zs (j + 1) = true) := HN1.out (by rw [HB.out, decide_eq_true (by omega), decide_eq_true (show z ≤ 2 * (k : Int) - 1 by omega)]; rfl)
            clear HB HN1 HN2
            go_wp2
            go_roundw
            case rel => exact ⟨j + 1, by omega, by go_num, hN, hE⟩
            case measure => simp [intOf]; omega
      · obtain rfl : j = zs.length := by omega
        have hC2 : Hid (C = 0) := hone.out HN.out
        go_wp2
        go_ret
        rw [hC2.out]
        exact ⟨rfl, E1.trans (hE.mono (by omega))⟩
  · rw [stepsC_long hg h14]
    have hz14 : (14 : Int) < zs.length := by omega
    have HD := Lib.hid D0
    clear hs hz hg D0
    go_enter Tryd.func34, Tryd.ntmps34
    go_upto_region 1 with fail
    rw [← hW0]
    clear hW0
    go_wp2_with (go_at_call 28; refine his.mono ?_; rintro e w1 ⟨rfl, hb1⟩)
    go_ret
    exact ⟨rfl, HD.out.trans (hb1.mono (by omega))⟩

theorem steps_any (n m : Int) (v : Value) (k : Nat) (fs zs : List Int) (p : Option Addr) (c : Nat) (w : World) (hs : Sa w v k fs) (hk : k ≤ 9223372036854775807) (hz : Sl w (.slice p zs.length c) zs) (hl : zs.length ≤ 9223372036854775807) :
    Calls Tryd.prog 34 #[.agg #[.int .i64 n, .int .i64 m, v], .slice p zs.length c] w fun e w' => e = .returned (.int .i64 (stepsC n m k fs zs)) ∧ Below w.heap.size w w' := by
  cases hg : isB n m k fs
  · exact steps_no n m v k fs zs p c w hs hk hg
  · obtain ⟨N, M, rfl, rfl, _, h2, _, h4, _, h6, hav⟩ := isB_nats hg
    have hf := hs.form
    obtain ⟨sa, cap, rfl⟩ : ∃ sa cap, v = .slice sa k cap := ⟨_, _, hf⟩
    exact steps_yes N M k cap sa fs zs p c w hs hz hl hg h6
end Go.Proofs.YthonkphjahomeaaDoor
