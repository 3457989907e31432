/-
  laws.FnExactOrderOf: the walk: for all arguments that come in the law returns true and leaves what was there. (A plain seat.)
-/
import Derived.Test.YtpknelbgooebcaaGr2
namespace Go.Proofs.Ytpknelbgooebcaa.fnExactOrderOf
open Go.RowKit

set_option maxHeartbeats 800000 in
theorem law (a b : Int) (x0 : Int) (w : World) :
    Calls Try.prog 7 #[.agg #[.int .i64 a, .int .i64 b], .int .i64 x0] w fun e w' => e = .returned (.bool true) ∧ Below w.heap.size w w' := by
  have D0 : Below w.heap.size w (w.alloc (.cells #[.int .i64 a, .int .i64 b] 23)) := (Below.refl _ _).alloc (Nat.le_refl _) _
  have HB0 := Lib.hid (World.alloc_heap_new w (.cells #[.int .i64 a, .int .i64 b] 23))
  have ht := fun W => toGroup_any a b W
  have hs := fun W => specOrderOf_any a b x0 W
  have hi := fun W => implOrderOf_any a b x0 W
  simp only [gv] at ht hs hi
  generalize orV a b x0 = r0 at hs hi
  generalize elC a b [x0] = r1 at hs hi
  have e0 : (r0 != r0) = false := by simp
  have e1 : (r1 != r1) = false := by simp
  go_enter Try.func7, Try.ntmps7
  go_wp2_with fail
  refine (ht _).mono ?_
  rintro e w1 ⟨rfl, hb1⟩
  have s1 := hb1.size
  rw [World.size_alloc] at hb1 s1
  go_wp2_with fail
  refine (hs w1).mono ?_
  rintro e w2 ⟨rfl, hb2⟩
  have s2 := hb2.size
  have E2 := hb1.trans (hb2.mono s1)
  obtain ⟨a0, a1, g0, g1⟩ := two_cells ((E2.block w.heap.size (by omega)).trans HB0.out)
  clear hb1 hb2 g0 g1
  go_wp2_with fail
  refine (ht _).mono ?_
  rintro e w3 ⟨rfl, hb3⟩
  have s3 := hb3.size
  have E3 := E2.trans (hb3.mono (by omega))
  clear hb3 E2 a0 a1
  go_wp2_with fail
  refine (hi w3).mono ?_
  rintro e w4 ⟨rfl, hb4⟩
  have E4 := E3.trans (hb4.mono (by omega))
  clear hb4 E3
  go_wp2
  go_ret
  exact ⟨rfl, D0.trans (E4.mono (by omega))⟩
end Go.Proofs.Ytpknelbgooebcaa.fnExactOrderOf
