/-
  spec.WalkGirth, whatever comes in. (A plain seat of bases.)
-/
import Derived.Test.YthonkphjahomeaaWg6
namespace Go.Proofs.Ythonkphjahomeaa
set_option maxRecDepth 100000
open Go.RowKit

set_option maxHeartbeats 800000 in
theorem specWg_no (n m : Int) (v : Value) (k : Nat) (fs : List Int) (w : World) (hs : Sa w v k fs) (hl : k ≤ 9223372036854775807) (hg : isB n m k fs = false) :
    Calls Try.prog 5 #[.agg #[.int .i64 n, .int .i64 m, v]] w fun e w' => e = .returned (.tuple #[.int .i64 0, .int .i64 1]) ∧ Below w.heap.size w w' := by
  have D0 : Below w.heap.size w (w.alloc (.cells #[.int .i64 n, .int .i64 m, v] 30)) := (Below.refl _ _).alloc (Nat.le_refl _) _
  have his := l03Is_any n m v k fs (w.alloc (.cells #[.int .i64 n, .int .i64 m, v] 30)) (hs.below D0) hl
  rw [hg] at his
  clear hs hg
  go_enter Try.func5, Try.ntmps5
  go_wp2_with (go_at_call 10; refine his.mono ?_; rintro e w1 ⟨rfl, hb1⟩)
  go_ret2
  exact ⟨rfl, D0.trans (hb1.mono (by simp))⟩

set_option maxHeartbeats 1600000 in
theorem specWg_yes (n m k cap : Nat) (sa : Option Addr) (fs : List Int) (w : World) (hs : Sa w (.slice sa k cap) k fs) (hg : isB n m k fs = true) (hav : AvOk n m k fs) (h1 : n ≤ 10 ∧ m ≤ 62 ∧ k ≤ 16) (hm1 : 1 ≤ m) (R C : Int) (hR : R = wgN n m k fs) (hC : C = wgC n m k fs) :
    Calls Try.prog 5 #[.agg #[.int .i64 n, .int .i64 m, .slice sa k cap]] w fun e w' => e = .returned (.tuple #[.int .i64 R, .int .i64 C]) ∧ Below w.heap.size w w' := by
  have D0 : Below w.heap.size w (w.alloc (.cells #[.int .i64 n, .int .i64 m, .slice sa k cap] 30)) := (Below.refl _ _).alloc (Nat.le_refl _) _
  have his := l03Is_any n m (.slice sa k cap) k fs (w.alloc (.cells #[.int .i64 n, .int .i64 m, .slice sa k cap] 30)) (hs.below D0) (by omega)
  rw [hg] at his
  have HG0 := Lib.hid (World.alloc_heap_new w (.cells #[.int .i64 n, .int .i64 m, .slice sa k cap] 30))
  obtain ⟨W0, hW0⟩ : ∃ W0, W0 = w.alloc (.cells #[.int .i64 n, .int .i64 m, .slice sa k cap] 30) := ⟨_, rfl⟩
  have sz0 : w.heap.size + 1 ≤ W0.heap.size := by rw [hW0]; simp
  rw [← hW0] at HG0 D0 his
  obtain ⟨B, hB⟩ : ∃ B, B = bsN m fs (2 * k) (2 * k) := ⟨_, rfl⟩
  have HLV : Hid (∀ W1 : World, Below W0.heap.size W0 W1 → Calls Try.prog 11 #[.agg #[.int .i64 n, .int .i64 m, .slice sa k cap]] W1 fun e w' => e = .returned (.int .i64 B) ∧ Below W1.heap.size W1 w') := fun W1 h => by
    rw [hB]; exact levels_any n m k cap sa fs W1 (hs.below (D0.trans (h.mono (by omega)))) hav h1 hm1
  have HRC : Hid ((B = 0 → R = 0 ∧ C = 4) ∧ (¬ B = 0 → R = B ∧ C = 0)) := by
    have hle := lsN_le m fs (2 * k) (2 * k)
    rw [hR, hC, hB]
    unfold wgN wgC bsN
    rw [if_pos hg, if_pos hg, Int.toNat_natCast]
    by_cases h15 : lsN m fs (2 * k) (2 * k) = 15
    · rw [if_pos h15, if_pos h15, if_pos h15]; exact ⟨fun _ => ⟨rfl, rfl⟩, fun h => absurd rfl h⟩
    · rw [if_neg h15, if_neg h15, if_neg h15]; exact ⟨fun h => by omega, fun _ => ⟨rfl, rfl⟩⟩
  obtain ⟨⟨b0, b1, b2⟩, -⟩ := three_cells HG0.out
  clear hs hg hav h1 hR hC hB
  go_enter Try.func5, Try.ntmps5
  go_upto_region 1 with fail
  rw [← hW0]
  clear hW0
  go_wp2_with fail
  refine his.mono ?_
  rintro e w1 ⟨rfl, E1⟩
  have hlv := Lib.hid (HLV.out w1 E1)
  have e1 := E1.size
  obtain ⟨⟨b0, b1, b2⟩, -⟩ := three_cells ((E1.block w.heap.size (by omega)).trans HG0.out)
  clear his HLV
  by_cases h0 : B = 0
  · obtain ⟨hr, hc⟩ := HRC.out.1 h0
    have HRR := Lib.hid hr; have HCC := Lib.hid hc
    subst h0
    clear hr hc HRC
    go_wp2_with fail
    refine hlv.out.mono ?_
    rintro e w2 ⟨rfl, hb2⟩
    clear hlv b0 b1 b2
    go_wp2_with fail
    go_ret2
    rw [HRR.out, HCC.out]
    exact ⟨rfl, D0.trans ((E1.trans (hb2.mono e1)).mono D0.size)⟩
  · obtain ⟨hr, hc⟩ := HRC.out.2 h0
    have HRR := Lib.hid hr; have HCC := Lib.hid hc
    have hne : ¬ ((B : Int) = 0) := by omega
    clear hr hc HRC h0
    go_wp2_with fail
    refine hlv.out.mono ?_
    rintro e w2 ⟨rfl, hb2⟩
    clear hlv b0 b1 b2
    go_wp2_with fail
    go_ret2
    rw [HRR.out, HCC.out]
    exact ⟨rfl, D0.trans ((E1.trans (hb2.mono e1)).mono D0.size)⟩

theorem specWg_any (n m : Int) (v : Value) (k : Nat) (fs : List Int) (w : World) (hs : Sa w v k fs) (hl : k ≤ 9223372036854775807) :
    Calls Try.prog 5 #[.agg #[.int .i64 n, .int .i64 m, v]] w fun e w' => e = .returned (.tuple #[.int .i64 (wgN n m k fs), .int .i64 (wgC n m k fs)]) ∧ Below w.heap.size w w' := by
  cases hg : isB n m k fs
  · rw [show wgN n m k fs = 0 by unfold wgN; simp [hg], show wgC n m k fs = 1 by unfold wgC; simp [hg]]
    exact specWg_no n m v k fs w hs hl hg
  · obtain ⟨N, M, rfl, rfl, _, h2, h3, h4, _, h6, hav⟩ := isB_nats hg
    have hf := hs.form
    obtain ⟨sa, cap, rfl⟩ : ∃ sa cap, v = .slice sa k cap := ⟨_, _, hf⟩
    exact specWg_yes N M k cap sa fs w hs hg hav ⟨h2, h4, h6⟩ h3 _ _ rfl rfl
end Go.Proofs.Ythonkphjahomeaa
