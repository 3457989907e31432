/-
  Copies and comparison of lists of arcs, and of bases. (A plain seat.)
-/
import Derived.Test.YthonkphjahomeaaMa1
namespace Go.Proofs.Ythonkphjahomeaa
set_option maxRecDepth 100000
open Go.RowKit



set_option maxHeartbeats 800000 in
theorem toArcs_some (b off cap k : Nat) (fs : List Int) (w : World) (hbl : b < w.heap.size) (hc : Cells w b off fs) (hk : fs.length = 3 * k) (hl : k ≤ 1048576) :
    Calls Try.prog 12 #[.slice (some ⟨b, off, none⟩) k cap] w fun e w' => e = .returned (.slice (some ⟨w.heap.size, 0, none⟩) k k) ∧ ABlk w' w.heap.size fs ∧ Below w.heap.size w w' := by
  have hmk := run_mkArcs k hl
  have HC := Lib.hid hc; clear hc
  have HK := Lib.hid hk; clear hk
  go_enter Try.func12, Try.ntmps12
  go_wp2
  clear hmk
  go_loopw [4] (fun i wr => ∃ j : Nat, j ≤ k ∧ i = .int .i64 j ∧ Hid (ABlk wr w.heap.size (part fs (j * 3))) ∧ Below w.heap.size w wr) (fun i _ => k - (intOf i).toNat)
  case atStart => exact ⟨0, Nat.zero_le _, rfl, by show ABlk _ _ _; rw [Nat.zero_mul, part_zero, HK.out]; exact ABlk.new w _, (Below.refl _ _).alloc (Nat.le_refl _) _⟩
  case round =>
    obtain ⟨j, hj, rfl, HB, hb⟩ := hrel
    by_cases hlt : (j : Int) < k
    · have hjk : j < k := by omega
      have hj0 : (0 : Int) ≤ j := by omega
      have hkl := HK.out
      have z0 : wr.cell? ⟨b, off + j * 3, none⟩ = some (.int .i64 (el fs (j * 3))) := (hb.cell (p := ⟨b, off + j * 3, none⟩) hbl).trans (HC.out (j * 3) (by omega))
      have z1 : wr.cell? ⟨b, off + j * 3 + 1, none⟩ = some (.int .i64 (el fs (j * 3 + 1))) := (hb.cell (p := ⟨b, off + j * 3 + 1, none⟩) hbl).trans (by rw [Nat.add_assoc]; exact HC.out (j * 3 + 1) (by omega))
      have z2 : wr.cell? ⟨b, off + j * 3 + 2, none⟩ = some (.int .i64 (el fs (j * 3 + 2))) := (hb.cell (p := ⟨b, off + j * 3 + 2, none⟩) hbl).trans (by rw [Nat.add_assoc]; exact HC.out (j * 3 + 2) (by omega))
      go_wp2_with fail
      refine (toArc_any _ _ _ wr).mono ?_
      rintro e w2 ⟨rfl, hb2⟩
      have HB2 := Lib.hid (HB.out.belowAll hb2)
      have hpl := part_length fs (j * 3) (by omega)
      have y0 : w2.cell? ⟨w.heap.size, j * 3, none⟩ = some (.int .i64 (el (part fs (j * 3)) (j * 3))) := HB2.out.cell (by omega)
      have y1 : w2.cell? ⟨w.heap.size, j * 3 + 1, none⟩ = some (.int .i64 (el (part fs (j * 3)) (j * 3 + 1))) := HB2.out.cell (by omega)
      have y2 : w2.cell? ⟨w.heap.size, j * 3 + 2, none⟩ = some (.int .i64 (el (part fs (j * 3)) (j * 3 + 2))) := HB2.out.cell (by omega)
      have f0 : w2.frozen? ⟨w.heap.size, j * 3, none⟩ = false := HB2.out.frozen _
      have f1 : w2.frozen? ⟨w.heap.size, j * 3 + 1, none⟩ = false := HB2.out.frozen _
      have f2 : w2.frozen? ⟨w.heap.size, j * 3 + 2, none⟩ = false := HB2.out.frozen _
      have hwl := hb.size
      have hb3 := hb.trans (hb2.mono hwl)
      have HKL := Lib.hid hkl; have HPL := Lib.hid hpl
      have HS : Hid (ABlk (((w2.setCell ⟨w.heap.size, j * 3, none⟩ (.int .i64 (el fs (j * 3)))).setCell ⟨w.heap.size, j * 3 + 1, none⟩ (.int .i64 (el fs (j * 3 + 1)))).setCell ⟨w.heap.size, j * 3 + 2, none⟩ (.int .i64 (el fs (j * 3 + 2)))) w.heap.size (part fs ((j + 1) * 3))) := by
        show ABlk _ _ _
        have e := ((HB2.out.set (j * 3) (el fs (j * 3))).set (j * 3 + 1) (el fs (j * 3 + 1))).set (j * 3 + 2) (el fs (j * 3 + 2))
        rw [part_succ fs (j * 3) (by omega), part_succ fs (j * 3 + 1) (by omega), part_succ fs (j * 3 + 2) (by omega)] at e
        rw [show (j + 1) * 3 = j * 3 + 2 + 1 by omega]
        exact e
      have hb4 := ((hb3.setCell (p := ⟨w.heap.size, j * 3, none⟩) (Nat.le_refl _) (.int .i64 (el fs (j * 3)))).setCell (p := ⟨w.heap.size, j * 3 + 1, none⟩) (Nat.le_refl _) (.int .i64 (el fs (j * 3 + 1)))).setCell (p := ⟨w.heap.size, j * 3 + 2, none⟩) (Nat.le_refl _) (.int .i64 (el fs (j * 3 + 2)))
      clear HB HB2 hb hb2 hb3 z0 z1 z2 hkl hpl
      go_wp2
      refine ⟨⟨j + 1, by omega, by go_num, HS, hb4⟩, ?_⟩
      simp [intOf]; omega
    · have hjk : j = k := by omega
      subst hjk
      have HF : Hid (ABlk wr w.heap.size fs) := by
        have := HB.out
        rw [show j * 3 = fs.length by rw [HK.out]; omega, part_all] at this
        exact this
      clear HB
      go_wp2
      go_ret
      exact ⟨rfl, HF.out, hb⟩

set_option maxHeartbeats 800000 in
theorem toArcs_nil (a : Option Addr) (c : Nat) (w : World) :
    Calls Try.prog 12 #[.slice a 0 c] w fun e w' => e = .returned (.slice (some ⟨w.heap.size, 0, none⟩) 0 0) ∧ ABlk w' w.heap.size [] ∧ Below w.heap.size w w' := by
  have hmk := fun W => run_mkArcs 0 (by omega) W
  simp only [Nat.mul_zero, List.replicate_zero, Int.natCast_zero] at hmk
  go_enter Try.func12, Try.ntmps12
  go_wp2
  clear hmk
  go_loopw [4] (fun i wr => i = .int .i64 0 ∧ ABlk wr w.heap.size [] ∧ Below w.heap.size w wr) (fun i _ => 0)
  case atStart => exact ⟨rfl, ABlk.new w _, (Below.refl _ _).alloc (Nat.le_refl _) _⟩
  case round =>
    obtain ⟨rfl, hB, hb⟩ := hrel
    have HB := Lib.hid hB; clear hB
    go_wp2
    go_ret
    exact ⟨rfl, HB.out, hb⟩

theorem toArcs_any (v : Value) (k : Nat) (fs : List Int) (w : World) (hs : Sa w v k fs) (hl : k ≤ 1048576) :
    Calls Try.prog 12 #[v] w fun e w' => e = .returned (.slice (some ⟨w.heap.size, 0, none⟩) k k) ∧ ABlk w' w.heap.size fs ∧ Below w.heap.size w w' := by
  rcases hs with ⟨hk, ⟨a, c, rfl, rfl⟩ | ⟨b, off, cap, rfl, hbl, hc⟩⟩
  · obtain rfl : fs = [] := List.eq_nil_of_length_eq_zero (by omega)
    exact toArcs_nil a c w
  · exact toArcs_some b off cap k fs w hbl hc hk hl

set_option maxHeartbeats 800000 in
theorem eqArcs_zero (v1 v2 : Value) (fs : List Int) (w : World) (h1 : Sa w v1 0 fs) (h2 : Sa w v2 0 fs) :
    Calls Try.prog 16 #[v1, v2] w fun e w' => e = .returned (.bool true) ∧ Below w.heap.size w w' := by
  have f1 := h1.form
  have f2 := h2.form
  rw [f1, f2]; clear f1 f2 h1 h2
  go_enter Try.func16, Try.ntmps16
  go_wp2
  go_loopw [5] (fun i wr => i = .int .i64 0 ∧ Below w.heap.size w wr) (fun i _ => 0)
  case atStart => exact ⟨rfl, Below.refl _ _⟩
  case round =>
    obtain ⟨rfl, hb⟩ := hrel
    go_wp2
    go_ret
    exact ⟨rfl, hb⟩

theorem below_drew {B B' : Nat} {w w' : World} (h : Below B' w.drew w') (hB : B ≤ B') : Below B w w' := ((Below.refl B w).drew).trans (h.mono hB)

set_option maxHeartbeats 1600000 in
theorem eqArcs_some (b1 o1 c1 b2 o2 c2 k : Nat) (fs : List Int) (w : World) (hk : fs.length = 3 * k) (hb1 : b1 < w.heap.size) (hc1 : Cells w b1 o1 fs) (hb2 : b2 < w.heap.size) (hc2 : Cells w b2 o2 fs) (hl : k ≤ 9223372036854775807) :
    Calls Try.prog 16 #[.slice (some ⟨b1, o1, none⟩) k c1, .slice (some ⟨b2, o2, none⟩) k c2] w fun e w' => e = .returned (.bool true) ∧ Below w.heap.size w w' := by
  have HC1 := Lib.hid hc1; clear hc1
  have HC2 := Lib.hid hc2; clear hc2
  have HK := Lib.hid hk; clear hk
  go_enter Try.func16, Try.ntmps16
  go_wp2
  go_loopw [5] (fun i wr => ∃ j : Nat, j ≤ k ∧ i = .int .i64 j ∧ Below w.heap.size w wr) (fun i _ => k - (intOf i).toNat)
  case atStart => exact ⟨0, Nat.zero_le _, rfl, Below.refl _ _⟩
  case round =>
    obtain ⟨j, hj, rfl, hb⟩ := hrel
    by_cases hlt : (j : Int) < k
    · have hj0 : (0 : Int) ≤ j := by omega
      have hkl := HK.out
      have HZ : Hid (∀ W, Below w.heap.size w W → (W.cell? ⟨b1, o1 + j * 3, none⟩ = some (.int .i64 (el fs (j * 3))) ∧ W.cell? ⟨b1, o1 + j * 3 + 1, none⟩ = some (.int .i64 (el fs (j * 3 + 1))) ∧ W.cell? ⟨b1, o1 + j * 3 + 2, none⟩ = some (.int .i64 (el fs (j * 3 + 2)))) ∧ (W.cell? ⟨b2, o2 + j * 3, none⟩ = some (.int .i64 (el fs (j * 3))) ∧ W.cell? ⟨b2, o2 + j * 3 + 1, none⟩ = some (.int .i64 (el fs (j * 3 + 1))) ∧ W.cell? ⟨b2, o2 + j * 3 + 2, none⟩ = some (.int .i64 (el fs (j * 3 + 2))))) := fun W hW =>
        ⟨⟨(hW.cell (p := ⟨b1, o1 + j * 3, none⟩) hb1).trans (HC1.out (j * 3) (by omega)), (hW.cell (p := ⟨b1, o1 + j * 3 + 1, none⟩) hb1).trans (by rw [Nat.add_assoc]; exact HC1.out (j * 3 + 1) (by omega)), (hW.cell (p := ⟨b1, o1 + j * 3 + 2, none⟩) hb1).trans (by rw [Nat.add_assoc]; exact HC1.out (j * 3 + 2) (by omega))⟩,
         ⟨(hW.cell (p := ⟨b2, o2 + j * 3, none⟩) hb2).trans (HC2.out (j * 3) (by omega)), (hW.cell (p := ⟨b2, o2 + j * 3 + 1, none⟩) hb2).trans (by rw [Nat.add_assoc]; exact HC2.out (j * 3 + 1) (by omega)), (hW.cell (p := ⟨b2, o2 + j * 3 + 2, none⟩) hb2).trans (by rw [Nat.add_assoc]; exact HC2.out (j * 3 + 2) (by omega))⟩⟩
      obtain ⟨⟨z0, z1, z2⟩, y0, y1, y2⟩ := HZ.out wr hb
      have hwl := hb.size
      have HEQ : Hid (∀ (W : World), Calls Try.prog 25 #[.agg #[.int .i64 (el fs (j * 3)), .int .i64 (el fs (j * 3 + 1)), .int .i64 (el fs (j * 3 + 2))], .agg #[.int .i64 (el fs (j * 3)), .int .i64 (el fs (j * 3 + 1)), .int .i64 (el fs (j * 3 + 2))]] W fun e w' => e = .returned (.bool true) ∧ Below W.heap.size W w') := fun W => by
        have := eqArc_any (el fs (j * 3)) (el fs (j * 3 + 1)) (el fs (j * 3 + 2)) (el fs (j * 3)) (el fs (j * 3 + 1)) (el fs (j * 3 + 2)) W
        simpa using this
      clear hkl
      go_wp2_with fail
      go_region_held3 (fun w' => w'.cell? ⟨b1, o1 + j * 3, none⟩ = some (.int .i64 (el fs (j * 3))) ∧ w'.cell? ⟨b1, o1 + j * 3 + 1, none⟩ = some (.int .i64 (el fs (j * 3 + 1))) ∧ w'.cell? ⟨b1, o1 + j * 3 + 2, none⟩ = some (.int .i64 (el fs (j * 3 + 2))) ∧ w'.cell? ⟨b2, o2 + j * 3, none⟩ = some (.int .i64 (el fs (j * 3))) ∧ w'.cell? ⟨b2, o2 + j * 3 + 1, none⟩ = some (.int .i64 (el fs (j * 3 + 1))) ∧ w'.cell? ⟨b2, o2 + j * 3 + 2, none⟩ = some (.int .i64 (el fs (j * 3 + 2))))
        (go_keep)
        (first | (go_at_call 25; refine (HEQ.out _).mono ?_; rintro e w5 ⟨rfl, hb5⟩; have hb6 : Below wr.heap.size wr w5 := below_drew hb5 (by simp); obtain ⟨⟨z0, z1, z2⟩, y0, y1, y2⟩ := HZ.out w5 (hb.trans (hb6.mono hwl))))
      have hb7 := hb.trans (hb6.mono hwl)
      clear hb5 hb6 z0 z1 z2 y0 y1 y2
      go_wp2
      go_roundw
      case rel => exact ⟨j + 1, by omega, by go_num, hb7⟩
      case measure => simp [intOf]; omega
    · have hjk : j = k := by omega
      subst hjk
      go_wp2
      go_ret
      exact ⟨rfl, hb⟩

theorem eqArcs_same (v1 v2 : Value) (k : Nat) (fs : List Int) (w : World) (h1 : Sa w v1 k fs) (h2 : Sa w v2 k fs) (hl : k ≤ 9223372036854775807) :
    Calls Try.prog 16 #[v1, v2] w fun e w' => e = .returned (.bool true) ∧ Below w.heap.size w w' := by
  by_cases h0 : k = 0
  · subst h0; exact eqArcs_zero v1 v2 fs w h1 h2
  · rcases h1 with ⟨hk, ⟨_, _, _, e⟩ | ⟨b1, o1, c1, rfl, hb1, hc1⟩⟩
    · exact absurd e h0
    · rcases h2 with ⟨_, ⟨_, _, _, e⟩ | ⟨b2, o2, c2, rfl, hb2, hc2⟩⟩
      · exact absurd e h0
      · exact eqArcs_some b1 o1 c1 b2 o2 c2 k fs w hk hb1 hc1 hb2 hc2 hl
end Go.Proofs.Ythonkphjahomeaa
