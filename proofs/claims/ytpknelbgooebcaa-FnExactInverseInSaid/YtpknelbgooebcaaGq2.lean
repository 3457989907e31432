/-
  spec.l05Inverse; InverseIn: both programs. (A plain seat.)
-/
import Derived.Test.YtpknelbgooebcaaGh
namespace Go.Proofs.Ytpknelbgooebcaa
open Go.RowKit

set_option maxHeartbeats 1600000 in
theorem l05Inverse_any (k p x : Nat) (w : World) (h : gOk k p = true) (hx : x < gOrd k p) :
    Calls Try.prog 40 #[gv k p, .int .i64 x] w fun e w' => e = .returned (.int .i64 (gQuo k p 0 x : Nat)) ∧ Below w.heap.size w w' := by
  have D0 : Below w.heap.size w (w.alloc (.cells #[.int .i64 k, .int .i64 p] 25)) := (Below.refl _ _).alloc (Nat.le_refl _) _
  have HB0 := Lib.hid (World.alloc_heap_new w (.cells #[.int .i64 k, .int .i64 p] 25))
  have hq := gInv_lt h hx
  have ho := gOrd_le h
  have HT := Lib.hid (fun y W (hy : y < gOrd k p) => l05Times_any k p x y W h hx hy)
  have HM := Lib.hid (gInv_mul h hx)
  have HL := Lib.hid (fun y (hy : y < gQuo k p 0 x) => gInv_least h hx hy)
  obtain ⟨q, hqq⟩ : ∃ q, q = gQuo k p 0 x := ⟨_, rfl⟩
  obtain ⟨m, hm⟩ : ∃ m, m = gOrd k p := ⟨_, rfl⟩
  rw [← hqq] at hq HM HL ⊢
  rw [← hm] at hq ho HT
  clear hqq hm h hx
  simp only [gv] at *
  go_enter Try.func40, Try.ntmps40
  go_wp2_with fail
  go_loopw [5] (fun i wr => ∃ y : Nat, y ≤ q ∧ i = .int .i64 y ∧ Below (w.heap.size + 1) (w.alloc (.cells #[.int .i64 k, .int .i64 p] 25)) wr ∧ w.heap.size + 1 ≤ wr.heap.size) (fun i _ => q - (intOf i).toNat)
  case atStart => exact ⟨0, Nat.zero_le _, rfl, Below.refl _ _, by simp⟩
  case round =>
    obtain ⟨y, hy, rfl, hE, hs⟩ := hrel
    obtain ⟨r0, r1, -, -⟩ := two_cells ((hE.block w.heap.size (by omega)).trans HB0.out)
    have hT := HT.out y wr (by omega)
    by_cases hlt : y < q
    · have e0 : (((gMul k p x y : Nat) : Int) == 0) = false := by
        rw [beq_eq_false_iff_ne]
        intro e
        exact HL.out y hlt (by omega)
      go_wp2_with fail
      refine hT.mono ?_
      rintro e w1 ⟨rfl, hb⟩
      have hE1 := hE.trans (hb.mono (by omega))
      have s1 := Nat.le_trans hs hb.size
      clear hE hb hT r0 r1
      go_wp2_with fail
      go_roundw
      case rel => exact ⟨y + 1, by omega, by go_num, hE1, s1⟩
      case measure => simp [intOf]; omega
    · obtain rfl : y = q := by omega
      rw [HM.out] at hT
      go_wp2_with fail
      refine hT.mono ?_
      rintro e w1 ⟨rfl, hb⟩
      have hE1 := hE.trans (hb.mono (by omega))
      clear hE hb hT r0 r1
      go_wp2_with fail
      go_ret
      exact ⟨rfl, D0.trans (hE1.mono (by omega))⟩

set_option maxHeartbeats 800000 in
theorem specInverseIn_no (a b x : Int) (w : World) (h : elC a b [x] ≠ 0) :
    Calls Try.prog 18 #[gv a b, .int .i64 x] w fun e w' => e = .returned (.tuple #[.int .i64 0, .int .i64 (elC a b [x])]) ∧ Below w.heap.size w w' := by
  have D0 : Below w.heap.size w ((w.alloc (.cells #[.int .i64 a, .int .i64 b] 25)).alloc (.cells #[.int .i64 x] 2)) := ((Below.refl _ _).alloc (Nat.le_refl _) _).alloc (by simp) _
  have hc := l05Elements_any a b (.slice (some ⟨w.heap.size + 1, 0, none⟩) 1 1) [x] ((w.alloc (.cells #[.int .i64 a, .int .i64 b] 25)).alloc (.cells #[.int .i64 x] 2)) (sl_one (w.alloc (.cells #[.int .i64 a, .int .i64 b] 25)) (w.heap.size + 1) x (by simp)) (by simp)
  obtain ⟨c, hcc⟩ : ∃ c, c = elC a b [x] := ⟨_, rfl⟩
  rw [← hcc] at hc h ⊢
  have e0 : (c == 0) = false := by simpa using h
  clear hcc h
  unfold gv at *
  go_enter Try.func18, Try.ntmps18
  go_wp2_with (go_at_call 38; with_reducible refine hc.mono ?_; rintro e w1 ⟨rfl, hb⟩)
  go_ret2
  exact ⟨rfl, D0.trans (hb.mono D0.size)⟩

set_option maxHeartbeats 800000 in
theorem implInverseIn_no (a b x : Int) (w : World) (h : elC a b [x] ≠ 0) :
    Calls Try.prog 19 #[gv a b, .int .i64 x] w fun e w' => e = .returned (.tuple #[.int .i64 0, .int .i64 (elC a b [x])]) ∧ Below w.heap.size w w' := by
  have D0 : Below w.heap.size w ((w.alloc (.cells #[.int .i64 a, .int .i64 b] 25)).alloc (.cells #[.int .i64 x] 2)) := ((Below.refl _ _).alloc (Nat.le_refl _) _).alloc (by simp) _
  have hc := groupWith_no a b (.slice (some ⟨w.heap.size + 1, 0, none⟩) 1 1) [x] ((w.alloc (.cells #[.int .i64 a, .int .i64 b] 25)).alloc (.cells #[.int .i64 x] 2)) (sl_one (w.alloc (.cells #[.int .i64 a, .int .i64 b] 25)) (w.heap.size + 1) x (by simp)) (by simp) h
  obtain ⟨c, hcc⟩ : ∃ c, c = elC a b [x] := ⟨_, rfl⟩
  rw [← hcc] at hc h ⊢
  have e0 : (c == 0) = false := by simpa using h
  clear hcc h
  unfold gv at *
  go_enter Try.func19, Try.ntmps19
  go_wp2_with (go_at_call 37; with_reducible refine hc.mono ?_; rintro e w1 ⟨rfl, hb⟩)
  go_ret2
  exact ⟨rfl, D0.trans (hb.mono D0.size)⟩

set_option maxHeartbeats 800000 in
theorem specInverseIn_yes (k p i : Nat) (w : World) (h : gOk k p = true) (hi : i < gOrd k p) :
    Calls Try.prog 18 #[gv k p, .int .i64 i] w fun e w' => e = .returned (.tuple #[.int .i64 (gQuo k p 0 i : Nat), .int .i64 0]) ∧ Below w.heap.size w w' := by
  have D0 : Below w.heap.size w ((w.alloc (.cells #[.int .i64 k, .int .i64 p] 25)).alloc (.cells #[.int .i64 i] 2)) := ((Below.refl _ _).alloc (Nat.le_refl _) _).alloc (by simp) _
  have HB0 := Lib.hid (heap_old_at (World.alloc_heap_new w (.cells #[.int .i64 k, .int .i64 p] 25)) (.cells #[.int .i64 i] 2))
  have hc := l05Elements_any k p (.slice (some ⟨w.heap.size + 1, 0, none⟩) 1 1) [(i : Int)] ((w.alloc (.cells #[.int .i64 k, .int .i64 p] 25)).alloc (.cells #[.int .i64 i] 2)) (sl_one (w.alloc (.cells #[.int .i64 k, .int .i64 p] 25)) (w.heap.size + 1) i (by simp)) (by simp)
  rw [elC_yes h (elOk_one hi)] at hc
  have HO := Lib.hid (fun W => l05Inverse_any k p i W h hi)
  simp only [gv] at *
  go_enter Try.func18, Try.ntmps18
  go_wp2_with fail
  with_reducible refine hc.mono ?_
  rintro e w1 ⟨rfl, hb⟩
  have s1 := hb.size
  simp only [World.size_alloc] at hb s1
  obtain ⟨r0, r1, -, -⟩ := two_cells ((hb.block w.heap.size (by omega)).trans HB0.out)
  go_wp2_with fail
  with_reducible refine (HO.out _).mono ?_
  rintro e w2 ⟨rfl, hb2⟩
  have E2 := D0.trans ((hb.trans (hb2.mono s1)).mono (by omega))
  clear hb hb2
  go_wp2
  go_ret2
  exact ⟨rfl, E2⟩

set_option maxHeartbeats 800000 in
theorem implInverseIn_0 (p i : Nat) (w : World) (h : gOk 0 p = true) (hi : i < gOrd 0 p) :
    Calls Try.prog 19 #[gv 0 p, .int .i64 i] w fun e w' => e = .returned (.tuple #[.int .i64 (gQuo 0 p 0 i : Nat), .int .i64 0]) ∧ Below w.heap.size w w' := by
  have D0 : Below w.heap.size w ((w.alloc (.cells #[.int .i64 0, .int .i64 p] 25)).alloc (.cells #[.int .i64 i] 2)) := ((Below.refl _ _).alloc (Nat.le_refl _) _).alloc (by simp) _
  have hgw := groupWith_0 p (.slice (some ⟨w.heap.size + 1, 0, none⟩) 1 1) [(i : Int)] ((w.alloc (.cells #[.int .i64 0, .int .i64 p] 25)).alloc (.cells #[.int .i64 i] 2)) h (sl_one (w.alloc (.cells #[.int .i64 0, .int .i64 p] 25)) (w.heap.size + 1) i (by simp)) (by simp) (elOk_one hi)
  have HO := Lib.hid (fun W => quotient_0 p 0 i W h (gOrd_pos h) hi)
  simp only [gv, gIf, Int.natCast_zero] at *
  go_enter Try.func19, Try.ntmps19
  go_wp2_with (first | (go_at_call 37; with_reducible refine hgw.mono ?_; rintro e w1 ⟨rfl, hb⟩) | (go_at_call 87; with_reducible refine (HO.out _).mono ?_; rintro e w2 ⟨rfl, hb2⟩))
  go_ret2
  exact ⟨rfl, D0.trans ((hb.trans (hb2.mono hb.size)).mono D0.size)⟩

set_option maxHeartbeats 800000 in
theorem implInverseIn_1 (p i : Nat) (w : World) (h : gOk 1 p = true) (hi : i < gOrd 1 p) :
    Calls Try.prog 19 #[gv 1 p, .int .i64 i] w fun e w' => e = .returned (.tuple #[.int .i64 (gQuo 1 p 0 i : Nat), .int .i64 0]) ∧ Below w.heap.size w w' := by
  have D0 : Below w.heap.size w ((w.alloc (.cells #[.int .i64 1, .int .i64 p] 25)).alloc (.cells #[.int .i64 i] 2)) := ((Below.refl _ _).alloc (Nat.le_refl _) _).alloc (by simp) _
  have hgw := groupWith_1 p (.slice (some ⟨w.heap.size + 1, 0, none⟩) 1 1) [(i : Int)] ((w.alloc (.cells #[.int .i64 1, .int .i64 p] 25)).alloc (.cells #[.int .i64 i] 2)) h (sl_one (w.alloc (.cells #[.int .i64 1, .int .i64 p] 25)) (w.heap.size + 1) i (by simp)) (by simp) (elOk_one hi)
  have HO := Lib.hid (fun W => quotient_1 p 0 i W h (gOrd_pos h) hi)
  simp only [gv, gIf, Int.natCast_zero] at *
  go_enter Try.func19, Try.ntmps19
  go_wp2_with (first | (go_at_call 37; with_reducible refine hgw.mono ?_; rintro e w1 ⟨rfl, hb⟩) | (go_at_call 90; with_reducible refine (HO.out _).mono ?_; rintro e w2 ⟨rfl, hb2⟩))
  go_ret2
  exact ⟨rfl, D0.trans ((hb.trans (hb2.mono hb.size)).mono D0.size)⟩

set_option maxHeartbeats 800000 in
theorem implInverseIn_2 (p i : Nat) (w : World) (h : gOk 2 p = true) (hi : i < gOrd 2 p) :
    Calls Try.prog 19 #[gv 2 p, .int .i64 i] w fun e w' => e = .returned (.tuple #[.int .i64 (gQuo 2 p 0 i : Nat), .int .i64 0]) ∧ Below w.heap.size w w' := by
  have D0 : Below w.heap.size w ((w.alloc (.cells #[.int .i64 2, .int .i64 p] 25)).alloc (.cells #[.int .i64 i] 2)) := ((Below.refl _ _).alloc (Nat.le_refl _) _).alloc (by simp) _
  have hgw := groupWith_2 p (.slice (some ⟨w.heap.size + 1, 0, none⟩) 1 1) [(i : Int)] ((w.alloc (.cells #[.int .i64 2, .int .i64 p] 25)).alloc (.cells #[.int .i64 i] 2)) h (sl_one (w.alloc (.cells #[.int .i64 2, .int .i64 p] 25)) (w.heap.size + 1) i (by simp)) (by simp) (elOk_one hi)
  have HO := Lib.hid (fun W => quotient_2 p 0 i W h (gOrd_pos h) hi)
  simp only [gv, gIf, Int.natCast_zero] at *
  go_enter Try.func19, Try.ntmps19
  go_wp2_with (first | (go_at_call 37; with_reducible refine hgw.mono ?_; rintro e w1 ⟨rfl, hb⟩) | (go_at_call 93; with_reducible refine (HO.out _).mono ?_; rintro e w2 ⟨rfl, hb2⟩))
  go_ret2
  exact ⟨rfl, D0.trans ((hb.trans (hb2.mono hb.size)).mono D0.size)⟩

theorem specInverseIn_any (a b x : Int) (w : World) :
    Calls Try.prog 18 #[gv a b, .int .i64 x] w fun e w' => e = .returned (.tuple #[.int .i64 (ivV a b x), .int .i64 (elC a b [x])]) ∧ Below w.heap.size w w' := by
  unfold ivV
  by_cases h : elC a b [x] = 0
  · rw [if_pos h, h]
    obtain ⟨k, p, i, rfl, rfl, rfl, hg, hi⟩ := elC_one h
    simp only [Int.toNat_natCast]
    exact specInverseIn_yes k p i w hg hi
  · rw [if_neg h]
    exact specInverseIn_no a b x w h

theorem implInverseIn_any (a b x : Int) (w : World) :
    Calls Try.prog 19 #[gv a b, .int .i64 x] w fun e w' => e = .returned (.tuple #[.int .i64 (ivV a b x), .int .i64 (elC a b [x])]) ∧ Below w.heap.size w w' := by
  unfold ivV
  by_cases h : elC a b [x] = 0
  · rw [if_pos h, h]
    obtain ⟨k, p, i, rfl, rfl, rfl, hg, hi⟩ := elC_one h
    simp only [Int.toNat_natCast]
    match k, hg, hi with
    | 0, hg, hi => exact implInverseIn_0 p i w hg hi
    | 1, hg, hi => exact implInverseIn_1 p i w hg hi
    | 2, hg, hi => exact implInverseIn_2 p i w hg hi
    | k + 3, hg, _ => simp [gOk] at hg
  · rw [if_neg h]
    exact implInverseIn_no a b x w h

end Go.Proofs.Ytpknelbgooebcaa
