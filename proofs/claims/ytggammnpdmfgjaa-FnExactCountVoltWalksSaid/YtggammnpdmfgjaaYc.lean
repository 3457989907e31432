/-
  spec.CountVoltWalks, whatever comes in. (A plain seat of bases.)
-/
import Derived.Test.YtggammnpdmfgjaaYb
namespace Go.Proofs.Ytggammnpdmfgjaa
open Go.RowKit

def cvOk (m K s : Int) : Bool := (decide (0 ≤ K) && decide (K ≤ 14)) && (decide (0 ≤ s) && decide (s ≤ m - 1))
/-- The number of closed walks, and the code. -/
def CvN (n m : Int) (k : Nat) (fs : List Int) (K s : Int) : Int := if isB n m k fs && cvOk m K s then wkV m.toNat fs k K.toNat s.toNat n.toNat else 0
def CvC (n m : Int) (k : Nat) (fs : List Int) (K s : Int) : Int := if isB n m k fs then (if cvOk m K s then 0 else 2) else 1

set_option maxHeartbeats 800000 in
theorem specCv_no (n m K s : Int) (v : Value) (k : Nat) (fs : List Int) (w : World) (hs : Sa w v k fs) (hl : k ≤ 9223372036854775807) (hg : isB n m k fs = false) :
    Calls Try.prog 20 #[.agg #[.int .i64 n, .int .i64 m, v], .int .i64 K, .int .i64 s] w fun e w' => e = .returned (.tuple #[.int .i64 0, .int .i64 1]) ∧ Below w.heap.size w w' := by
  have D0 : Below w.heap.size w (w.alloc (.cells #[.int .i64 n, .int .i64 m, v] 33)) := (Below.refl _ _).alloc (Nat.le_refl _) _
  have his := l03Is_any n m v k fs (w.alloc (.cells #[.int .i64 n, .int .i64 m, v] 33)) (hs.below D0) hl
  rw [hg] at his
  clear hs hg
  go_enter Try.func20, Try.ntmps20
  go_wp2_with (go_at_call 23; refine his.mono ?_; rintro e w1 ⟨rfl, hb1⟩)
  go_ret2
  exact ⟨rfl, D0.trans (hb1.mono (by simp))⟩

set_option maxHeartbeats 1600000 in
theorem specCv_out (n m k : Nat) (K s : Int) (v : Value) (fs : List Int) (w : World) (hs : Sa w v k fs) (hl : k ≤ 9223372036854775807) (hg : isB n m k fs = true) (hm : 1 ≤ m ∧ m ≤ 62) (hc : cvOk m K s = false) :
    Calls Try.prog 20 #[.agg #[.int .i64 n, .int .i64 m, v], .int .i64 K, .int .i64 s] w fun e w' => e = .returned (.tuple #[.int .i64 0, .int .i64 2]) ∧ Below w.heap.size w w' := by
  have D0 : Below w.heap.size w (w.alloc (.cells #[.int .i64 n, .int .i64 m, v] 33)) := (Below.refl _ _).alloc (Nat.le_refl _) _
  have HG0 := Lib.hid (World.alloc_heap_new w (.cells #[.int .i64 n, .int .i64 m, v] 33))
  have his := l03Is_any n m v k fs (w.alloc (.cells #[.int .i64 n, .int .i64 m, v] 33)) (hs.below D0) hl
  rw [hg] at his
  have wm1 : IntKind.i64.wrap ((m : Int) - 1) = (m : Int) - 1 := IntWalk.i64_in _ (by omega)
  obtain ⟨r1, h1⟩ : ∃ r, r = (decide (0 ≤ K) && decide (K ≤ 14)) := ⟨_, rfl⟩
  obtain ⟨r2, h2⟩ : ∃ r, r = (decide (0 ≤ s) && decide (s ≤ (m : Int) - 1)) := ⟨_, rfl⟩
  have HI1 := Lib.hid fun W : World => in_val K 0 14 W r1 h1.symm
  have HI2 := Lib.hid fun W : World => in_val s 0 ((m : Int) - 1) W r2 h2.symm
  have hr : (r1 && r2) = false := by rw [h1, h2]; exact hc
  clear hs hg h1 h2 hc
  go_enter Try.func20, Try.ntmps20
  go_wp2_with (go_at_call 23; refine his.mono ?_; rintro e w1 ⟨rfl, hb1⟩; obtain ⟨⟨b0, b1, b2⟩, -⟩ := three_cells ((hb1.block w.heap.size (by simp)).trans HG0.out))
  refine (HI1.out w1).mono ?_
  rintro e w1' ⟨rfl, rfl⟩
  cases r1
  · go_wp2_with fail
    go_ret2
    exact ⟨rfl, D0.trans (hb1.mono (by simp))⟩
  · obtain rfl : r2 = false := by simpa using hr
    go_wp2_with fail
    refine (HI2.out w1).mono ?_
    rintro e w1' ⟨rfl, rfl⟩
    go_wp2_with fail
    go_ret2
    exact ⟨rfl, D0.trans (hb1.mono (by simp))⟩

theorem cvOk_nats {m : Nat} {K s : Int} (h : cvOk m K s = true) : ∃ a b : Nat, K = a ∧ s = b ∧ a ≤ 14 ∧ b < m := by
  unfold cvOk at h
  simp only [Bool.and_eq_true, decide_eq_true_eq] at h
  exact ⟨K.toNat, s.toNat, by omega, by omega, by omega, by omega⟩
theorem specCv_any (n m K s : Int) (v : Value) (k : Nat) (fs : List Int) (w : World) (hs : Sa w v k fs) (hl : k ≤ 9223372036854775807) :
    Calls Try.prog 20 #[.agg #[.int .i64 n, .int .i64 m, v], .int .i64 K, .int .i64 s] w fun e w' => e = .returned (.tuple #[.int .i64 (CvN n m k fs K s), .int .i64 (CvC n m k fs K s)]) ∧ Below w.heap.size w w' := by
  unfold CvN CvC
  cases hg : isB n m k fs
  · exact specCv_no n m K s v k fs w hs hl hg
  · obtain ⟨N, M, rfl, rfl, h1, h2, h3, h4, h5, h6, hav⟩ := isB_nats hg
    have hf := hs.form
    obtain ⟨sa, cap, rfl⟩ : ∃ sa cap, v = .slice sa k cap := ⟨_, _, hf⟩
    cases hc : cvOk M K s
    · exact specCv_out N M k K s _ fs w hs hl hg ⟨h3, h4⟩ hc
    · obtain ⟨a, b, rfl, rfl, ha, hb⟩ := cvOk_nats hc
      simp only [if_true, Int.toNat_natCast, Bool.true_and]
      exact specCv_yes N M k cap a b sa fs w hs hg hav ⟨h1, h2, h3, h4, h5, h6⟩ ha hb
end Go.Proofs.Ytggammnpdmfgjaa
