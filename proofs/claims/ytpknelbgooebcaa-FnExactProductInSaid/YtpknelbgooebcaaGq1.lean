/-
  ProductIn: both programs. (A plain seat.)
-/
import Derived.Test.YtpknelbgooebcaaGh
namespace Go.Proofs.Ytpknelbgooebcaa
open Go.RowKit

set_option maxHeartbeats 800000 in
theorem specProductIn_no (a b x y : Int) (w : World) (h : elC a b [x, y] ≠ 0) :
    Calls Try.prog 16 #[gv a b, .int .i64 x, .int .i64 y] w fun e w' => e = .returned (.tuple #[.int .i64 0, .int .i64 (elC a b [x, y])]) ∧ Below w.heap.size w w' := by
  have D0 : Below w.heap.size w ((w.alloc (.cells #[.int .i64 a, .int .i64 b] 25)).alloc (.cells #[.int .i64 x, .int .i64 y] 2)) := ((Below.refl _ _).alloc (Nat.le_refl _) _).alloc (by simp) _
  have hc := l05Elements_any a b (.slice (some ⟨w.heap.size + 1, 0, none⟩) 2 2) [x, y] ((w.alloc (.cells #[.int .i64 a, .int .i64 b] 25)).alloc (.cells #[.int .i64 x, .int .i64 y] 2)) (sl_two (w.alloc (.cells #[.int .i64 a, .int .i64 b] 25)) (w.heap.size + 1) x y (by simp)) (by simp)
  obtain ⟨c, hcc⟩ : ∃ c, c = elC a b [x, y] := ⟨_, rfl⟩
  rw [← hcc] at hc h ⊢
  have e0 : (c == 0) = false := by simpa using h
  clear hcc h
  unfold gv at *
  go_enter Try.func16, Try.ntmps16
  go_wp2_with (go_at_call 38; with_reducible refine hc.mono ?_; rintro e w1 ⟨rfl, hb⟩)
  go_ret2
  exact ⟨rfl, D0.trans (hb.mono D0.size)⟩

set_option maxHeartbeats 800000 in
theorem implProductIn_no (a b x y : Int) (w : World) (h : elC a b [x, y] ≠ 0) :
    Calls Try.prog 17 #[gv a b, .int .i64 x, .int .i64 y] w fun e w' => e = .returned (.tuple #[.int .i64 0, .int .i64 (elC a b [x, y])]) ∧ Below w.heap.size w w' := by
  have D0 : Below w.heap.size w ((w.alloc (.cells #[.int .i64 a, .int .i64 b] 25)).alloc (.cells #[.int .i64 x, .int .i64 y] 2)) := ((Below.refl _ _).alloc (Nat.le_refl _) _).alloc (by simp) _
  have hc := groupWith_no a b (.slice (some ⟨w.heap.size + 1, 0, none⟩) 2 2) [x, y] ((w.alloc (.cells #[.int .i64 a, .int .i64 b] 25)).alloc (.cells #[.int .i64 x, .int .i64 y] 2)) (sl_two (w.alloc (.cells #[.int .i64 a, .int .i64 b] 25)) (w.heap.size + 1) x y (by simp)) (by simp) h
  obtain ⟨c, hcc⟩ : ∃ c, c = elC a b [x, y] := ⟨_, rfl⟩
  rw [← hcc] at hc h ⊢
  have e0 : (c == 0) = false := by simpa using h
  clear hcc h
  unfold gv at *
  go_enter Try.func17, Try.ntmps17
  go_wp2_with (go_at_call 37; with_reducible refine hc.mono ?_; rintro e w1 ⟨rfl, hb⟩)
  go_ret2
  exact ⟨rfl, D0.trans (hb.mono D0.size)⟩

set_option maxHeartbeats 800000 in
theorem specProductIn_yes (k p i j : Nat) (w : World) (h : gOk k p = true) (hi : i < gOrd k p) (hj : j < gOrd k p) :
    Calls Try.prog 16 #[gv k p, .int .i64 i, .int .i64 j] w fun e w' => e = .returned (.tuple #[.int .i64 (gMul k p i j : Nat), .int .i64 0]) ∧ Below w.heap.size w w' := by
  have D0 : Below w.heap.size w ((w.alloc (.cells #[.int .i64 k, .int .i64 p] 25)).alloc (.cells #[.int .i64 i, .int .i64 j] 2)) := ((Below.refl _ _).alloc (Nat.le_refl _) _).alloc (by simp) _
  have HB0 := Lib.hid (heap_old_at (World.alloc_heap_new w (.cells #[.int .i64 k, .int .i64 p] 25)) (.cells #[.int .i64 i, .int .i64 j] 2))
  have hc := l05Elements_any k p (.slice (some ⟨w.heap.size + 1, 0, none⟩) 2 2) [(i : Int), (j : Int)] ((w.alloc (.cells #[.int .i64 k, .int .i64 p] 25)).alloc (.cells #[.int .i64 i, .int .i64 j] 2)) (sl_two (w.alloc (.cells #[.int .i64 k, .int .i64 p] 25)) (w.heap.size + 1) i j (by simp)) (by simp)
  rw [elC_yes h (elOk_two hi hj)] at hc
  have HO := Lib.hid (fun W => l05Times_any k p i j W h hi hj)
  simp only [gv] at *
  go_enter Try.func16, Try.ntmps16
  go_wp2_with fail
  with_reducible refine hc.mono ?_
  rintro e w1 ⟨rfl, hb⟩
  have s1 := hb.size
  simp only [World.size_alloc] at hb s1
  obtain ⟨r0, r1, -, -⟩ := two_cells ((hb.block w.heap.size (by omega)).trans HB0.out)
  go_wp2_with fail
  with_reducible refine (HO.out _).mono ?_
  rintro e w2 ⟨rfl, hb2⟩
  have E2 := D0.trans ((hb.trans (hb2.mono s1)).mono (by omega))
  clear hb hb2
  go_wp2
  go_ret2
  exact ⟨rfl, E2⟩

set_option maxHeartbeats 800000 in
theorem implProductIn_0 (p i j : Nat) (w : World) (h : gOk 0 p = true) (hi : i < gOrd 0 p) (hj : j < gOrd 0 p) :
    Calls Try.prog 17 #[gv 0 p, .int .i64 i, .int .i64 j] w fun e w' => e = .returned (.tuple #[.int .i64 (gMul 0 p i j : Nat), .int .i64 0]) ∧ Below w.heap.size w w' := by
  have D0 : Below w.heap.size w ((w.alloc (.cells #[.int .i64 0, .int .i64 p] 25)).alloc (.cells #[.int .i64 i, .int .i64 j] 2)) := ((Below.refl _ _).alloc (Nat.le_refl _) _).alloc (by simp) _
  have hgw := groupWith_0 p (.slice (some ⟨w.heap.size + 1, 0, none⟩) 2 2) [(i : Int), (j : Int)] ((w.alloc (.cells #[.int .i64 0, .int .i64 p] 25)).alloc (.cells #[.int .i64 i, .int .i64 j] 2)) h (sl_two (w.alloc (.cells #[.int .i64 0, .int .i64 p] 25)) (w.heap.size + 1) i j (by simp)) (by simp) (elOk_two hi hj)
  have HO := Lib.hid (fun W => product_0 p i j W h hi hj)
  simp only [gv, gIf] at *
  go_enter Try.func17, Try.ntmps17
  go_wp2_with (first | (go_at_call 37; with_reducible refine hgw.mono ?_; rintro e w1 ⟨rfl, hb⟩) | (go_at_call 86; with_reducible refine (HO.out _).mono ?_; rintro e w2 ⟨rfl, hb2⟩))
  go_ret2
  exact ⟨rfl, D0.trans ((hb.trans (hb2.mono hb.size)).mono D0.size)⟩

set_option maxHeartbeats 800000 in
theorem implProductIn_1 (p i j : Nat) (w : World) (h : gOk 1 p = true) (hi : i < gOrd 1 p) (hj : j < gOrd 1 p) :
    Calls Try.prog 17 #[gv 1 p, .int .i64 i, .int .i64 j] w fun e w' => e = .returned (.tuple #[.int .i64 (gMul 1 p i j : Nat), .int .i64 0]) ∧ Below w.heap.size w w' := by
  have D0 : Below w.heap.size w ((w.alloc (.cells #[.int .i64 1, .int .i64 p] 25)).alloc (.cells #[.int .i64 i, .int .i64 j] 2)) := ((Below.refl _ _).alloc (Nat.le_refl _) _).alloc (by simp) _
  have hgw := groupWith_1 p (.slice (some ⟨w.heap.size + 1, 0, none⟩) 2 2) [(i : Int), (j : Int)] ((w.alloc (.cells #[.int .i64 1, .int .i64 p] 25)).alloc (.cells #[.int .i64 i, .int .i64 j] 2)) h (sl_two (w.alloc (.cells #[.int .i64 1, .int .i64 p] 25)) (w.heap.size + 1) i j (by simp)) (by simp) (elOk_two hi hj)
  have HO := Lib.hid (fun W => product_1 p i j W h hi hj)
  simp only [gv, gIf] at *
  go_enter Try.func17, Try.ntmps17
  go_wp2_with (first | (go_at_call 37; with_reducible refine hgw.mono ?_; rintro e w1 ⟨rfl, hb⟩) | (go_at_call 89; with_reducible refine (HO.out _).mono ?_; rintro e w2 ⟨rfl, hb2⟩))
  go_ret2
  exact ⟨rfl, D0.trans ((hb.trans (hb2.mono hb.size)).mono D0.size)⟩

set_option maxHeartbeats 800000 in
theorem implProductIn_2 (p i j : Nat) (w : World) (h : gOk 2 p = true) (hi : i < gOrd 2 p) (hj : j < gOrd 2 p) :
    Calls Try.prog 17 #[gv 2 p, .int .i64 i, .int .i64 j] w fun e w' => e = .returned (.tuple #[.int .i64 (gMul 2 p i j : Nat), .int .i64 0]) ∧ Below w.heap.size w w' := by
  have D0 : Below w.heap.size w ((w.alloc (.cells #[.int .i64 2, .int .i64 p] 25)).alloc (.cells #[.int .i64 i, .int .i64 j] 2)) := ((Below.refl _ _).alloc (Nat.le_refl _) _).alloc (by simp) _
  have hgw := groupWith_2 p (.slice (some ⟨w.heap.size + 1, 0, none⟩) 2 2) [(i : Int), (j : Int)] ((w.alloc (.cells #[.int .i64 2, .int .i64 p] 25)).alloc (.cells #[.int .i64 i, .int .i64 j] 2)) h (sl_two (w.alloc (.cells #[.int .i64 2, .int .i64 p] 25)) (w.heap.size + 1) i j (by simp)) (by simp) (elOk_two hi hj)
  have HO := Lib.hid (fun W => product_2 p i j W h hi hj)
  simp only [gv, gIf] at *
  go_enter Try.func17, Try.ntmps17
  go_wp2_with (first | (go_at_call 37; with_reducible refine hgw.mono ?_; rintro e w1 ⟨rfl, hb⟩) | (go_at_call 92; with_reducible refine (HO.out _).mono ?_; rintro e w2 ⟨rfl, hb2⟩))
  go_ret2
  exact ⟨rfl, D0.trans ((hb.trans (hb2.mono hb.size)).mono D0.size)⟩

theorem specProductIn_any (a b x y : Int) (w : World) :
    Calls Try.prog 16 #[gv a b, .int .i64 x, .int .i64 y] w fun e w' => e = .returned (.tuple #[.int .i64 (prV a b x y), .int .i64 (elC a b [x, y])]) ∧ Below w.heap.size w w' := by
  unfold prV
  by_cases h : elC a b [x, y] = 0
  · rw [if_pos h, h]
    obtain ⟨k, p, i, j, rfl, rfl, rfl, rfl, hg, hi, hj⟩ := elC_two h
    simp only [Int.toNat_natCast]
    exact specProductIn_yes k p i j w hg hi hj
  · rw [if_neg h]
    exact specProductIn_no a b x y w h

theorem implProductIn_any (a b x y : Int) (w : World) :
    Calls Try.prog 17 #[gv a b, .int .i64 x, .int .i64 y] w fun e w' => e = .returned (.tuple #[.int .i64 (prV a b x y), .int .i64 (elC a b [x, y])]) ∧ Below w.heap.size w w' := by
  unfold prV
  by_cases h : elC a b [x, y] = 0
  · rw [if_pos h, h]
    obtain ⟨k, p, i, j, rfl, rfl, rfl, rfl, hg, hi, hj⟩ := elC_two h
    simp only [Int.toNat_natCast]
    match k, hg, hi, hj with
    | 0, hg, hi, hj => exact implProductIn_0 p i j w hg hi hj
    | 1, hg, hi, hj => exact implProductIn_1 p i j w hg hi hj
    | 2, hg, hi, hj => exact implProductIn_2 p i j w hg hi hj
    | k + 3, hg, _, _ => simp [gOk] at hg
  · rw [if_neg h]
    exact implProductIn_no a b x y w h

end Go.Proofs.Ytpknelbgooebcaa
