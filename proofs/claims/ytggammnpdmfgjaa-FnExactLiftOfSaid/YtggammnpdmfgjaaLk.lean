/-
  spec.LiftOf. (A plain seat of bases and graphs of pairs.)
-/
import Derived.Test.YtggammnpdmfgjaaLj
namespace Go.Proofs.Ytggammnpdmfgjaa
open Go.RowKit

set_option maxHeartbeats 800000 in
theorem specLf_no (n m : Int) (v : Value) (k : Nat) (fs : List Int) (w : World) (hs : Sa w v k fs) (hl : k ≤ 9223372036854775807) (hg : isB n m k fs = false) :
    Calls Try.prog 8 #[.agg #[.int .i64 n, .int .i64 m, v]] w fun e w' => GRes w.heap.size 0 [] 1 e w' ∧ Below w.heap.size w w' := by
  have D0 : Below w.heap.size w ((w.alloc (.cells #[.int .i64 n, .int .i64 m, v] 33)).alloc (.cells #[.int .i64 0, .slice none 0 0] 28)) := ((Below.refl _ _).alloc (Nat.le_refl _) _).alloc (by simp) _
  have his := l03Is_any n m v k fs ((w.alloc (.cells #[.int .i64 n, .int .i64 m, v] 33)).alloc (.cells #[.int .i64 0, .slice none 0 0] 28)) (hs.below D0) hl
  rw [hg] at his
  simp only [World.size_alloc] at his
  have HH1 := Lib.hid (heap_new_at (w.alloc (.cells #[.int .i64 n, .int .i64 m, v] 33)) (.cells #[.int .i64 0, .slice none 0 0] 28) (w.heap.size + 1) (by simp))
  clear hs hg
  go_enter Try.func8, Try.ntmps8
  go_wp2_with (go_at_call 23; refine his.mono ?_; rintro e w1 ⟨rfl, hb1⟩; have RB := Lib.hid ((hb1.block (w.heap.size + 1) (by omega)).trans HH1.out); obtain ⟨r0, r1, g0, g1⟩ := two_cells RB.out)
  have hfin := two_set (a := .int .i64 0) (b := .slice none 0 0) RB.out
  refine bodyPost_ret (v := .tuple #[.agg #[.int .i64 0, .slice none 0 0], .int .i64 1]) (results_cell2 (p := 2) (u := 3) (ty := 28) rfl _ _ (w.heap.size + 1) 28 _ (0, 0) _ rfl hfin Try.underlying28 rfl (by exact info27)) rfl ⟨⟨_, rfl, Own.nil _ _⟩, ?_⟩
  exact ((D0.trans (hb1.mono (by omega))).setCell (p := ⟨w.heap.size + 1, 0, none⟩) (by simp) _).setCell (p := ⟨w.heap.size + 1, 1, none⟩) (by simp) _

set_option maxHeartbeats 1600000 in
theorem specLf_yes (n m k cap : Nat) (sa : Option Addr) (fs : List Int) (w : World) (hs : Sa w (.slice sa k cap) k fs) (hg : isB n m k fs = true) (hav : AvOk n m k fs) (h1 : 1 ≤ n ∧ n ≤ 10 ∧ 1 ≤ m ∧ m ≤ 62 ∧ n * m ≤ 62 ∧ k ≤ 16) :
    Calls Try.prog 8 #[.agg #[.int .i64 n, .int .i64 m, .slice sa k cap]] w fun e w' => GRes w.heap.size (n * m : Nat) (rowsF (n * m) (adjS (lfS m fs k))) 0 e w' ∧ Below w.heap.size w w' := by
  have D0 : Below w.heap.size w ((w.alloc (.cells #[.int .i64 n, .int .i64 m, .slice sa k cap] 33)).alloc (.cells #[.int .i64 0, .slice none 0 0] 28)) := ((Below.refl _ _).alloc (Nat.le_refl _) _).alloc (by simp) _
  have his := l03Is_any n m (.slice sa k cap) k fs ((w.alloc (.cells #[.int .i64 n, .int .i64 m, .slice sa k cap] 33)).alloc (.cells #[.int .i64 0, .slice none 0 0] 28)) (hs.below D0) (by omega)
  rw [hg] at his
  have HG0 := Lib.hid (heap_old_at (World.alloc_heap_new w (.cells #[.int .i64 n, .int .i64 m, .slice sa k cap] 33)) (.cells #[.int .i64 0, .slice none 0 0] 28))
  have HH1 := Lib.hid (heap_new_at (w.alloc (.cells #[.int .i64 n, .int .i64 m, .slice sa k cap] 33)) (.cells #[.int .i64 0, .slice none 0 0] 28) (w.heap.size + 1) (by simp))
  obtain ⟨W0, hW0⟩ : ∃ W0, W0 = (w.alloc (.cells #[.int .i64 n, .int .i64 m, .slice sa k cap] 33)).alloc (.cells #[.int .i64 0, .slice none 0 0] 28) := ⟨_, rfl⟩
  have sz0 : w.heap.size + 2 ≤ W0.heap.size := by rw [hW0]; simp
  rw [← hW0] at his HG0 HH1 D0
  have HIS := Lib.hid his
  have HLI : Hid (∀ W1 : World, Below W0.heap.size W0 W1 → Calls Try.prog 24 #[.agg #[.int .i64 n, .int .i64 m, .slice sa k cap]] W1 fun e w' => (∃ g, e = .returned (.tuple #[.agg #[.int .i64 (n * m : Nat), .slice (some ⟨g, 0, none⟩) (n * m) (n * m)], .bool (fthO m fs k)]) ∧ Blk w' g (rowsF (n * m) (adjS (lfS m fs k))) ∧ W1.heap.size ≤ g) ∧ Below W1.heap.size W1 w') := fun W1 h1' =>
    l03Lift_any n m k cap sa fs W1 (hs.below (D0.trans (h1'.mono (by omega)))) hav h1
  obtain ⟨NM, hNM⟩ : ∃ NM, NM = n * m := ⟨_, rfl⟩
  obtain ⟨L, hL⟩ : ∃ L, L = rowsF (n * m) (adjS (lfS m fs k)) := ⟨_, rfl⟩
  have hLl : L.length = NM := by rw [hL, rowsF_length, hNM]
  have hNM62 : NM ≤ 62 := by rw [hNM]; exact h1.2.2.2.2.1
  obtain ⟨A, hA⟩ : ∃ A, A = fthO m fs k := ⟨_, rfl⟩
  rw [← hL, ← hNM, ← hA] at HLI
  rw [← hL, ← hNM]
  have HLL := Lib.hid hLl
  obtain ⟨⟨b0, b1, b2⟩, -⟩ := three_cells HG0.out
  clear hs hg hav his hNM hL hLl hA h1
  go_enter Try.func8, Try.ntmps8
  go_upto_region 1 with fail
  rw [← hW0]
  clear hW0
  go_wp2_with fail
  refine HIS.out.mono ?_
  rintro e w1 ⟨rfl, hb1⟩
  have hli := Lib.hid (HLI.out w1 hb1)
  have s1 := hb1.size
  obtain ⟨⟨b0, b1, b2⟩, -⟩ := three_cells ((hb1.block w.heap.size (by omega)).trans HG0.out)
  have RB1 := Lib.hid ((hb1.block (w.heap.size + 1) (by omega)).trans HH1.out)
  have E1 := D0.trans (hb1.mono (by omega))
  clear HIS HLI hb1
  go_wp2_with fail
  refine hli.out.mono ?_
  rintro e w2 ⟨⟨g, rfl, hB2, hg2⟩, hb2⟩
  have s2 := hb2.size
  have RB2 := Lib.hid ((hb2.block (w.heap.size + 1) (by omega)).trans RB1.out)
  have E2 := E1.trans (hb2.mono (by omega))
  have HB2 := Lib.hid hB2
  have hgl := hB2.lt
  have RB3 := Lib.hid (heap_old_at RB2.out (.cells #[.int .i64 NM, .slice (some ⟨g, 0, none⟩) NM NM] 28))
  have HB3 := Lib.hid (HB2.out.alloc (.cells #[.int .i64 NM, .slice (some ⟨g, 0, none⟩) NM NM] 28))
  have E3 := E2.alloc (by omega) (.cells #[.int .i64 NM, .slice (some ⟨g, 0, none⟩) NM NM] 28)
  obtain ⟨r0, r1, g0, g1⟩ := two_cells RB3.out
  have q2 : ¬ w.heap.size + 1 = w2.heap.size := by omega
  have q3 : ¬ w2.heap.size = w.heap.size + 1 := by omega
  clear hB2 hb2 hli b0 b1 b2 RB1 RB2 HB2 E1 E2
  go_wp2_with fail
  have hfin := two_set (a := .int .i64 NM) (b := .slice (some ⟨g, 0, none⟩) NM NM) RB3.out
  refine bodyPost_ret (v := .tuple #[.agg #[.int .i64 NM, .slice (some ⟨g, 0, none⟩) NM NM], .int .i64 0]) (results_cell2 (p := 2) (u := 3) (ty := 28) rfl _ _ (w.heap.size + 1) 28 _ (0, 0) _ rfl hfin Try.underlying28 rfl (by exact info27)) rfl ⟨⟨_, rfl, ?_⟩, ?_⟩
  · have h := Own.of_blk ((HB3.out.other (a := ⟨w.heap.size + 1, 0, none⟩) (by simp; omega) (.int .i64 NM)).other (a := ⟨w.heap.size + 1, 1, none⟩) (by simp; omega) (.slice (some ⟨g, 0, none⟩) NM NM)) (B := w.heap.size) (by omega) (by rw [HLL.out]; unfold maxLen; omega)
    rw [HLL.out] at h
    exact h
  · exact (E3.setCell (p := ⟨w.heap.size + 1, 0, none⟩) (by simp) _).setCell (p := ⟨w.heap.size + 1, 1, none⟩) (by simp) _

theorem specLf_any (n m : Int) (v : Value) (k : Nat) (fs : List Int) (w : World) (hs : Sa w v k fs) (hl : k ≤ 9223372036854775807) :
    Calls Try.prog 8 #[.agg #[.int .i64 n, .int .i64 m, v]] w fun e w' => GRes w.heap.size (LfN n m k fs) (LfL n m k fs) (LfC n m k fs) e w' ∧ Below w.heap.size w w' := by
  unfold LfN LfL LfC
  cases hg : isB n m k fs
  · exact specLf_no n m v k fs w hs hl hg
  · obtain ⟨N, M, rfl, rfl, h1, h2, h3, h4, h5, h6, hav⟩ := isB_nats hg
    simp only [if_true, Int.toNat_natCast]
    have hf := hs.form
    obtain ⟨sa, cap, rfl⟩ : ∃ sa cap, v = .slice sa k cap := ⟨_, _, hf⟩
    exact specLf_yes N M k cap sa fs w hs hg hav ⟨h1, h2, h3, h4, h5, h6⟩
end Go.Proofs.Ytggammnpdmfgjaa
