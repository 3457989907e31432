/-
  spec.IsFaithful. (A plain seat of bases and graphs of pairs.)
-/
import Derived.Test.YtggammnpdmfgjaaFc
namespace Go.Proofs.Ytggammnpdmfgjaa
open Go.RowKit

set_option maxHeartbeats 800000 in
theorem specFa_no (n m : Int) (v : Value) (k : Nat) (fs : List Int) (w : World) (hs : Sa w v k fs) (hl : k ≤ 9223372036854775807) (hg : isB n m k fs = false) :
    Calls Try.prog 16 #[.agg #[.int .i64 n, .int .i64 m, v]] w fun e w' => e = .returned (.tuple #[.bool false, .int .i64 1]) ∧ Below w.heap.size w w' := by
  have D0 : Below w.heap.size w (w.alloc (.cells #[.int .i64 n, .int .i64 m, v] 33)) := (Below.refl _ _).alloc (Nat.le_refl _) _
  have his := l03Is_any n m v k fs (w.alloc (.cells #[.int .i64 n, .int .i64 m, v] 33)) (hs.below D0) hl
  rw [hg] at his
  clear hs hg
  go_enter Try.func16, Try.ntmps16
  go_wp2_with (go_at_call 23; refine his.mono ?_; rintro e w1 ⟨rfl, hb1⟩)
  go_ret2
  exact ⟨rfl, D0.trans (hb1.mono (by simp))⟩

set_option maxHeartbeats 1600000 in
theorem specFa_yes (n m k cap : Nat) (sa : Option Addr) (fs : List Int) (w : World) (hs : Sa w (.slice sa k cap) k fs) (hg : isB n m k fs = true) (hav : AvOk n m k fs) (h1 : 1 ≤ n ∧ n ≤ 10 ∧ 1 ≤ m ∧ m ≤ 62 ∧ n * m ≤ 62 ∧ k ≤ 16) :
    Calls Try.prog 16 #[.agg #[.int .i64 n, .int .i64 m, .slice sa k cap]] w fun e w' => e = .returned (.tuple #[.bool (fthO m fs k), .int .i64 0]) ∧ Below w.heap.size w w' := by
  have D0 : Below w.heap.size w (w.alloc (.cells #[.int .i64 n, .int .i64 m, .slice sa k cap] 33)) := (Below.refl _ _).alloc (Nat.le_refl _) _
  have his := l03Is_any n m (.slice sa k cap) k fs (w.alloc (.cells #[.int .i64 n, .int .i64 m, .slice sa k cap] 33)) (hs.below D0) (by omega)
  rw [hg] at his
  have HG0 := Lib.hid (World.alloc_heap_new w (.cells #[.int .i64 n, .int .i64 m, .slice sa k cap] 33))
  obtain ⟨W0, hW0⟩ : ∃ W0, W0 = w.alloc (.cells #[.int .i64 n, .int .i64 m, .slice sa k cap] 33) := ⟨_, rfl⟩
  have sz0 : w.heap.size + 1 ≤ W0.heap.size := by rw [hW0]; simp
  rw [← hW0] at HG0 D0 his
  have HIS := Lib.hid his
  have HLI : Hid (∀ W1 : World, Below W0.heap.size W0 W1 → Calls Try.prog 24 #[.agg #[.int .i64 n, .int .i64 m, .slice sa k cap]] W1 fun e w' => (∃ g, e = .returned (.tuple #[.agg #[.int .i64 (n * m : Nat), .slice (some ⟨g, 0, none⟩) (n * m) (n * m)], .bool (fthO m fs k)]) ∧ Blk w' g (rowsF (n * m) (adjS (lfS m fs k))) ∧ W1.heap.size ≤ g) ∧ Below W1.heap.size W1 w') := fun W1 h1' =>
    l03Lift_any n m k cap sa fs W1 (hs.below (D0.trans (h1'.mono (by omega)))) hav h1
  obtain ⟨NM, hNM⟩ : ∃ NM, NM = n * m := ⟨_, rfl⟩
  obtain ⟨F, hF⟩ : ∃ F, F = fthO m fs k := ⟨_, rfl⟩
  rw [← hNM, ← hF] at HLI
  rw [← hF]
  obtain ⟨⟨b0, b1, b2⟩, -⟩ := three_cells HG0.out
  clear hs hg hav his hNM hF h1
  go_enter Try.func16, Try.ntmps16
  go_upto_region 1 with fail
  rw [← hW0]
  clear hW0
  go_wp2_with fail
  refine HIS.out.mono ?_
  rintro e w1 ⟨rfl, hb1⟩
  have hli := Lib.hid (HLI.out w1 hb1)
  have s1 := hb1.size
  obtain ⟨⟨b0, b1, b2⟩, -⟩ := three_cells ((hb1.block w.heap.size (by omega)).trans HG0.out)
  have E1 := D0.trans (hb1.mono (by omega))
  clear HIS HLI hb1
  go_wp2_with fail
  refine hli.out.mono ?_
  rintro e w2 ⟨⟨g, rfl, -, -⟩, hb2⟩
  have E2 := E1.trans (hb2.mono (by omega))
  have s2 := hb2.size
  clear hli hb2 E1 b0 b1 b2
  go_wp2_with fail
  go_ret2
  exact ⟨rfl, E2.alloc (by omega) _⟩

theorem specFa_any (n m : Int) (v : Value) (k : Nat) (fs : List Int) (w : World) (hs : Sa w v k fs) (hl : k ≤ 9223372036854775807) :
    Calls Try.prog 16 #[.agg #[.int .i64 n, .int .i64 m, v]] w fun e w' => e = .returned (.tuple #[.bool (FaB n m k fs), .int .i64 (FaC n m k fs)]) ∧ Below w.heap.size w w' := by
  unfold FaB FaC
  cases hg : isB n m k fs
  · exact specFa_no n m v k fs w hs hl hg
  · obtain ⟨N, M, rfl, rfl, h1, h2, h3, h4, h5, h6, hav⟩ := isB_nats hg
    simp only [if_true, Int.toNat_natCast, Bool.true_and]
    have hf := hs.form
    obtain ⟨sa, cap, rfl⟩ : ∃ sa cap, v = .slice sa k cap := ⟨_, _, hf⟩
    exact specFa_yes N M k cap sa fs w hs hg hav ⟨h1, h2, h3, h4, h5, h6⟩
end Go.Proofs.Ytggammnpdmfgjaa
