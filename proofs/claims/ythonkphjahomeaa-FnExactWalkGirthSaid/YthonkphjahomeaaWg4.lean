/-
  impl.WalkGirth. (A plain seat of bases.)
-/
import Derived.Test.YthonkphjahomeaaWg3
namespace Go.Proofs.Ythonkphjahomeaa
set_option maxRecDepth 100000
open Go.RowKit

theorem min_val (a b : Nat) : (if b < a then (b : Int) else (a : Int)) = ((min a b : Nat) : Int) := by
  by_cases h : b < a
  · rw [if_pos h, Nat.min_eq_right (by omega)]
  · rw [if_neg h, Nat.min_eq_left (by omega)]

set_option maxHeartbeats 800000 in
theorem implWg_no (n m : Int) (v : Value) (k : Nat) (fs : List Int) (w : World) (hs : Sa w v k fs) (hl : k ≤ 9223372036854775807) (hg : isB n m k fs = false) :
    Calls Try.prog 7 #[.agg #[.int .i64 n, .int .i64 m, v]] w fun e w' => e = .returned (.tuple #[.int .i64 0, .int .i64 1]) ∧ Below w.heap.size w w' := by
  have D0 : Below w.heap.size w (w.alloc (.cells #[.int .i64 n, .int .i64 m, v] 30)) := (Below.refl _ _).alloc (Nat.le_refl _) _
  have his := implIs_any n m v k fs (w.alloc (.cells #[.int .i64 n, .int .i64 m, v] 30)) (hs.below D0) hl
  rw [hg] at his
  clear hs hg
  go_enter Try.func7, Try.ntmps7
  go_wp2_with (go_at_call 13; refine his.mono ?_; rintro e w1 ⟨rfl, hb1⟩)
  go_ret2
  exact ⟨rfl, D0.trans (hb1.mono (by simp))⟩

set_option maxHeartbeats 3200000 in
theorem implWg_yes (n m k cap : Nat) (sa : Option Addr) (fs : List Int) (w : World) (hs : Sa w (.slice sa k cap) k fs) (hg : isB n m k fs = true) (hav : AvOk n m k fs) (h1 : n ≤ 10 ∧ m ≤ 62 ∧ k ≤ 16) (R C : Int) (hR : R = wgN n m k fs) (hC : C = wgC n m k fs) :
    Calls Try.prog 7 #[.agg #[.int .i64 n, .int .i64 m, .slice sa k cap]] w fun e w' => e = .returned (.tuple #[.int .i64 R, .int .i64 C]) ∧ Below w.heap.size w w' := by
  have D0 : Below w.heap.size w (w.alloc (.cells #[.int .i64 n, .int .i64 m, .slice sa k cap] 30)) := (Below.refl _ _).alloc (Nat.le_refl _) _
  have his := implIs_any n m (.slice sa k cap) k fs (w.alloc (.cells #[.int .i64 n, .int .i64 m, .slice sa k cap] 30)) (hs.below D0) (by omega)
  rw [hg] at his
  have HG0 := Lib.hid (World.alloc_heap_new w (.cells #[.int .i64 n, .int .i64 m, .slice sa k cap] 30))
  obtain ⟨W0, hW0⟩ : ∃ W0, W0 = w.alloc (.cells #[.int .i64 n, .int .i64 m, .slice sa k cap] 30) := ⟨_, rfl⟩
  have sz0 : w.heap.size + 1 ≤ W0.heap.size := by rw [hW0]; simp
  rw [← hW0] at HG0 D0 his
  have HST : Hid (∀ W1 : World, Below W0.heap.size W0 W1 → Calls Try.prog 14 #[.agg #[.int .i64 n, .int .i64 m, .slice sa k cap]] W1 fun e w' => e = .returned (.slice (some ⟨W1.heap.size + 1, 0, none⟩) (2 * k) (2 * k)) ∧ Hid (w'.ownsRow (W1.heap.size + 1) 43 4 (.slice (some ⟨W1.heap.size + 1, 0, none⟩) (2 * k) (2 * k)) (2 * k) (stL m fs (2 * k))) ∧ Below W1.heap.size W1 w') := fun W1 h =>
    stepsOf_any n m k cap sa fs W1 (hs.below (D0.trans (h.mono (by omega)))) hav h1
  obtain ⟨K, hK⟩ : ∃ K, K = 2 * k := ⟨_, rfl⟩
  have HSH : Hid (∀ (B G f : Nat) (W : World), f < K → W.ownsRow B 43 4 (.slice (some ⟨G, 0, none⟩) K K) K (stL m fs K) → Calls Try.prog 15 #[.int .i64 m, .slice (some ⟨G, 0, none⟩) K K, .agg #[.int .i64 f, .int .i64 (stA m fs f 0), .int .i64 (stA m fs f 1), .int .i64 (stA m fs f 2)]] W fun e w' => e = .returned (.int .i64 (shN m fs K f : Nat)) ∧ Below W.heap.size W w') := fun B G f W hf hO =>
    shR_any n m k K B G f fs W hav hK h1.2.2 h1.2.1 hf hO
  have HRC : Hid (if lsN m fs K K = 15 then R = 0 ∧ C = 4 else R = (lsN m fs K K : Nat) ∧ C = 0) := by
    show if _ then _ else _
    rw [hR, hC]
    unfold wgN wgC
    rw [if_pos hg, if_pos hg, Int.toNat_natCast, ← hK]
    split <;> exact ⟨rfl, rfl⟩
  rw [← hK] at HST
  have K32 : K ≤ 32 := by omega
  obtain ⟨⟨b0, b1, b2⟩, -⟩ := three_cells HG0.out
  clear hs hg hav hK h1 hR hC
  go_enter Try.func7, Try.ntmps7
  go_upto_region 1 with fail
  rw [← hW0]
  clear hW0
  go_wp2_with fail
  refine his.mono ?_
  rintro e w1 ⟨rfl, hb1⟩
  have hst := Lib.hid (HST.out w1 hb1)
  have E1 := D0.trans (hb1.mono (by omega))
  have s1 := hb1.size
  have X1 : Hid (w1.heap[w.heap.size]? = some (.cells #[.int .i64 n, .int .i64 m, .slice sa k cap] 30 (0, 0))) := (hb1.block w.heap.size (by omega)).trans HG0.out
  obtain ⟨⟨b0, b1, b2⟩, -⟩ := three_cells X1.out
  clear his HST hb1 HG0
  go_wp2_with fail
  refine hst.out.mono ?_
  rintro e w2 ⟨rfl, HO, hb2⟩
  clear hst b0 b1 b2
  obtain ⟨G, hG⟩ : ∃ G, G = w1.heap.size + 1 := ⟨_, rfl⟩
  rw [← hG] at HO ⊢
  have E2 := E1.trans (hb2.mono (by omega))
  have s2 := hb2.size
  have X2 : Hid (w2.heap[w.heap.size]? = some (.cells #[.int .i64 n, .int .i64 m, .slice sa k cap] 30 (0, 0))) := (hb2.block w.heap.size (by omega)).trans X1.out
  clear hG hb2 E1 X1
  go_wp2_with fail
  go_loopw [5, 7, 15] (fun lv _ i wr => ∃ s L : Nat, s ≤ K ∧ i = .int .i64 s ∧ lv = .int .i64 L ∧ Hid (L = lsN m fs K s) ∧ Below w2.heap.size w2 wr) (fun _ _ i _ => K - (intOf i).toNat)
  case atStart => exact ⟨0, 15, Nat.zero_le _, rfl, rfl, rfl, Below.refl _ _⟩
  case round =>
    obtain ⟨s, L, hsK, rfl, rfl, HL, hE⟩ := hrel
    by_cases hlt : s < K
    · have hlti : (s : Int) < K := by omega
      have hs0 : (0 : Int) ≤ s := by omega
      obtain ⟨z0, z1, z2, z3⟩ := step_cells HO.out hE hlt
      have HSS : Hid (∀ W, Below w2.heap.size w2 W → Calls Try.prog 15 #[.int .i64 m, .slice (some ⟨G, 0, none⟩) K K, .agg #[.int .i64 s, .int .i64 (stA m fs s 0), .int .i64 (stA m fs s 1), .int .i64 (stA m fs s 2)]] W fun e w' => e = .returned (.int .i64 (shN m fs K s : Nat)) ∧ Below W.heap.size W w') := fun W h => HSH.out _ G s W hlt (ownsT_below HO.out h)
      obtain ⟨q, hq⟩ : ∃ q, q = shN m fs K s := ⟨_, rfl⟩
      rw [← hq] at HSS
      have HLN : Hid (min L q = lsN m fs K (s + 1)) := by show _ = _; rw [lsN, ← HL.out, hq]
      obtain ⟨a0, ha0⟩ : ∃ a0, a0 = stA m fs s 0 := ⟨_, rfl⟩
      obtain ⟨a1, ha1⟩ : ∃ a1, a1 = stA m fs s 1 := ⟨_, rfl⟩
      obtain ⟨a2, ha2⟩ : ∃ a2, a2 = stA m fs s 2 := ⟨_, rfl⟩
      rw [← ha0] at z1 HSS
      rw [← ha1] at z2 HSS
      rw [← ha2] at z3 HSS
      have g5 : IntKind.i64.wrap ((s : Int) + 1) = (s : Int) + 1 := IntWalk.i64_in _ (by omega)
      have hso := hE.size
      clear ha0 ha1 ha2 hq HL
      go_upto_region 8 with fail
      obtain ⟨w6, h6⟩ : ∃ w6, w6 = wr.alloc (.cells #[.int .i64 s, .int .i64 a0, .int .i64 a1, .int .i64 a2] 43) := ⟨_, rfl⟩
      have X6 : Hid (w6.heap[wr.heap.size]? = some (.cells #[.int .i64 s, .int .i64 a0, .int .i64 a1, .int .i64 a2] 43 (0, 0))) := by rw [h6]; exact World.alloc_heap_new wr _
      have hE6 : Below w2.heap.size w2 w6 := by rw [h6]; exact hE.alloc hE.size _
      rw [← h6]
      clear h6 z0 z1 z2 z3 hE
      obtain ⟨y0, y1, y2, y3⟩ := four_cells X6.out
      obtain ⟨⟨b0, b1, b2⟩, -⟩ := three_cells ((hE6.block w.heap.size (by omega)).trans X2.out)
      have hss := Lib.hid (HSS.out w6 hE6)
      clear HSS X6
      go_wp2_with fail
      refine hss.out.mono ?_
      rintro e w7 ⟨rfl, hb7⟩
      have hE7 := hE6.trans (hb7.mono hE6.size)
      clear hss hb7 hE6 y0 y1 y2 y3 b0 b1 b2
      go_wp2_with fail
      refine ⟨⟨s + 1, min L q, by omega, by push_cast; rfl, congrArg (Value.int .i64) (min_val L q), HLN, hE7⟩, by simp [intOf]; omega⟩
    · obtain rfl : s = K := by omega
      rw [← HL.out] at HRC
      have hE2 := E2.trans (hE.mono (by omega))
      by_cases h15 : L = 15
      · rw [if_pos h15] at HRC
        obtain ⟨hr, hc⟩ := HRC.out
        have HRR := Lib.hid hr; have HCC := Lib.hid hc
        subst h15
        clear hr hc HRC HL hE E2
        go_wp2_with fail
        go_ret2
        rw [HRR.out, HCC.out]
        exact ⟨rfl, hE2⟩
      · rw [if_neg h15] at HRC
        obtain ⟨hr, hc⟩ := HRC.out
        have HRR := Lib.hid hr; have HCC := Lib.hid hc
        have hne : ¬ ((L : Int) = 15) := by omega
        clear hr hc HRC HL hE E2 h15
        go_wp2_with fail
        go_ret2
        rw [HRR.out, HCC.out]
        exact ⟨rfl, hE2⟩

theorem implWg_any (n m : Int) (v : Value) (k : Nat) (fs : List Int) (w : World) (hs : Sa w v k fs) (hl : k ≤ 9223372036854775807) :
    Calls Try.prog 7 #[.agg #[.int .i64 n, .int .i64 m, v]] w fun e w' => e = .returned (.tuple #[.int .i64 (wgN n m k fs), .int .i64 (wgC n m k fs)]) ∧ Below w.heap.size w w' := by
  cases hg : isB n m k fs
  · rw [show wgN n m k fs = 0 by unfold wgN; simp [hg], show wgC n m k fs = 1 by unfold wgC; simp [hg]]
    exact implWg_no n m v k fs w hs hl hg
  · obtain ⟨N, M, rfl, rfl, _, h2, _, h4, _, h6, hav⟩ := isB_nats hg
    have hf := hs.form
    obtain ⟨sa, cap, rfl⟩ : ∃ sa cap, v = .slice sa k cap := ⟨_, _, hf⟩
    exact implWg_yes N M k cap sa fs w hs hg hav ⟨h2, h4, h6⟩ _ _ rfl rfl
end Go.Proofs.Ythonkphjahomeaa
