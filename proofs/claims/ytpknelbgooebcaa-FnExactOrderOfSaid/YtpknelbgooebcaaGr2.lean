/-
  OrderOf: both programs. (A plain seat.)
-/
import Derived.Test.YtpknelbgooebcaaGh
namespace Go.Proofs.Ytpknelbgooebcaa
open Go.RowKit

theorem gOf_ge (k p x : Nat) : ∀ n y s, s ≤ gOf k p x n y s
  | 0, y, s => Nat.le_refl _
  | n + 1, y, s => by
    simp only [gOf]
    split
    · exact Nat.le_refl _
    · exact Nat.le_trans (Nat.le_succ s) (gOf_ge k p x n _ (s + 1))
theorem gOrder_ge (k p x : Nat) : 1 ≤ gOrder k p x := gOf_ge k p x 62 x 1
/-- The order of an element, or 0. -/
def orV (a b x : Int) : Int := if elC a b [x] = 0 then (gOrder a.toNat b.toNat x.toNat : Nat) else 0

set_option maxHeartbeats 800000 in
theorem specOrderOf_no (a b x : Int) (w : World) (h : elC a b [x] ≠ 0) :
    Calls Try.prog 20 #[gv a b, .int .i64 x] w fun e w' => e = .returned (.tuple #[.int .i64 0, .int .i64 (elC a b [x])]) ∧ Below w.heap.size w w' := by
  have D0 : Below w.heap.size w ((w.alloc (.cells #[.int .i64 a, .int .i64 b] 25)).alloc (.cells #[.int .i64 x] 2)) := ((Below.refl _ _).alloc (Nat.le_refl _) _).alloc (by simp) _
  have hc := l05Elements_any a b (.slice (some ⟨w.heap.size + 1, 0, none⟩) 1 1) [x] ((w.alloc (.cells #[.int .i64 a, .int .i64 b] 25)).alloc (.cells #[.int .i64 x] 2)) (sl_one (w.alloc (.cells #[.int .i64 a, .int .i64 b] 25)) (w.heap.size + 1) x (by simp)) (by simp)
  obtain ⟨c, hcc⟩ : ∃ c, c = elC a b [x] := ⟨_, rfl⟩
  rw [← hcc] at hc h ⊢
  have e0 : (c == 0) = false := by simpa using h
  clear hcc h
  unfold gv at *
  go_enter Try.func20, Try.ntmps20
  go_wp2_with (go_at_call 38; with_reducible refine hc.mono ?_; rintro e w1 ⟨rfl, hb⟩)
  go_ret2
  exact ⟨rfl, D0.trans (hb.mono D0.size)⟩

set_option maxHeartbeats 800000 in
theorem implOrderOf_no (a b x : Int) (w : World) (h : elC a b [x] ≠ 0) :
    Calls Try.prog 21 #[gv a b, .int .i64 x] w fun e w' => e = .returned (.tuple #[.int .i64 0, .int .i64 (elC a b [x])]) ∧ Below w.heap.size w w' := by
  have D0 : Below w.heap.size w ((w.alloc (.cells #[.int .i64 a, .int .i64 b] 25)).alloc (.cells #[.int .i64 x] 2)) := ((Below.refl _ _).alloc (Nat.le_refl _) _).alloc (by simp) _
  have hc := groupWith_no a b (.slice (some ⟨w.heap.size + 1, 0, none⟩) 1 1) [x] ((w.alloc (.cells #[.int .i64 a, .int .i64 b] 25)).alloc (.cells #[.int .i64 x] 2)) (sl_one (w.alloc (.cells #[.int .i64 a, .int .i64 b] 25)) (w.heap.size + 1) x (by simp)) (by simp) h
  obtain ⟨c, hcc⟩ : ∃ c, c = elC a b [x] := ⟨_, rfl⟩
  rw [← hcc] at hc h ⊢
  have e0 : (c == 0) = false := by simpa using h
  clear hcc h
  unfold gv at *
  go_enter Try.func21, Try.ntmps21
  go_wp2_with (go_at_call 37; with_reducible refine hc.mono ?_; rintro e w1 ⟨rfl, hb⟩)
  go_ret2
  exact ⟨rfl, D0.trans (hb.mono D0.size)⟩

set_option maxHeartbeats 1600000 in
theorem specOrderOf_yes (k p i : Nat) (w : World) (h : gOk k p = true) (hi : i < gOrd k p) :
    Calls Try.prog 20 #[gv k p, .int .i64 i] w fun e w' => e = .returned (.tuple #[.int .i64 (gOrder k p i : Nat), .int .i64 0]) ∧ Below w.heap.size w w' := by
  have D0 : Below w.heap.size w ((w.alloc (.cells #[.int .i64 k, .int .i64 p] 25)).alloc (.cells #[.int .i64 i] 2)) := ((Below.refl _ _).alloc (Nat.le_refl _) _).alloc (by simp) _
  have HB0 := Lib.hid (heap_old_at (World.alloc_heap_new w (.cells #[.int .i64 k, .int .i64 p] 25)) (.cells #[.int .i64 i] 2))
  have hc := l05Elements_any k p (.slice (some ⟨w.heap.size + 1, 0, none⟩) 1 1) [(i : Int)] ((w.alloc (.cells #[.int .i64 k, .int .i64 p] 25)).alloc (.cells #[.int .i64 i] 2)) (sl_one (w.alloc (.cells #[.int .i64 k, .int .i64 p] 25)) (w.heap.size + 1) i (by simp)) (by simp)
  rw [elC_yes h (elOk_one hi)] at hc
  have HT := Lib.hid (fun y W (hy : y < gOrd k p) => l05Times_any k p y i W h hy hi)
  have HP := Lib.hid (gOrder_pow h hi)
  have HL := Lib.hid (fun j => @gOrder_least k p i j h hi)
  have HB := Lib.hid (fun j => @gPow_lt k p i h j)
  have H1 := Lib.hid (gPow_one h hi)
  have hle := gOrder_le h hi
  have hge := gOrder_ge k p i
  obtain ⟨q, hq⟩ : ∃ q, q = gOrder k p i := ⟨_, rfl⟩
  rw [← hq] at HP HL hle hge ⊢
  clear hq h hi
  simp only [gv] at *
  go_enter Try.func20, Try.ntmps20
  go_wp2_with fail
  with_reducible refine hc.mono ?_
  rintro e w1 ⟨rfl, hb⟩
  have s1 := hb.size
  simp only [World.size_alloc] at hb s1
  clear hc
  go_wp2_with fail
  go_loopw [7, 8] (fun c y wr => ∃ s : Nat, 1 ≤ s ∧ s ≤ q ∧ c = .int .i64 s ∧ y = .int .i64 (gPow k p i s : Nat) ∧ Below (w.heap.size + 1 + 1) ((w.alloc (.cells #[.int .i64 k, .int .i64 p] 25)).alloc (.cells #[.int .i64 i] 2)) wr ∧ w.heap.size + 1 + 1 ≤ wr.heap.size) (fun c _ _ => q - (intOf c).toNat)
  case atStart => exact ⟨1, Nat.le_refl _, hge, rfl, by rw [H1.out], hb, s1⟩
  case round =>
    obtain ⟨s, hs1, hsq, rfl, rfl, hE, hs⟩ := hrel
    obtain ⟨r0, r1, -, -⟩ := two_cells ((hE.block w.heap.size (by omega)).trans HB0.out)
    by_cases hlt : s < q
    · have e0 : (((gPow k p i s : Nat) : Int) == 0) = false := by
        rw [beq_eq_false_iff_ne]
        intro e
        exact HL.out s hlt hs1 (by omega)
      have hT := HT.out (gPow k p i s) wr (HB.out s)
      go_wp2_with fail
      with_reducible refine hT.mono ?_
      rintro e w2 ⟨rfl, hb2⟩
      have hE1 := hE.trans (hb2.mono hs)
      have s2 := Nat.le_trans hs hb2.size
      clear hE hb2 hT r0 r1
      go_wp2_with fail
      go_roundw
      case rel => exact ⟨s + 1, by omega, by omega, by go_num, rfl, hE1, s2⟩
      case measure => simp [intOf]; omega
    · obtain rfl : s = q := by omega
      have e0 : ((gPow k p i s : Nat) : Int) = 0 := by rw [HP.out]; rfl
      go_wp2_with fail
      go_ret2
      exact ⟨rfl, D0.trans (hE.mono (by omega))⟩

set_option maxHeartbeats 1600000 in
theorem implOrderOf_0 (p i : Nat) (w : World) (h : gOk 0 p = true) (hi : i < gOrd 0 p) :
    Calls Try.prog 21 #[gv 0 p, .int .i64 i] w fun e w' => e = .returned (.tuple #[.int .i64 (gOrder 0 p i : Nat), .int .i64 0]) ∧ Below w.heap.size w w' := by
  have D0 : Below w.heap.size w ((w.alloc (.cells #[.int .i64 0, .int .i64 p] 25)).alloc (.cells #[.int .i64 i] 2)) := ((Below.refl _ _).alloc (Nat.le_refl _) _).alloc (by simp) _
  have hc := groupWith_0 p (.slice (some ⟨w.heap.size + 1, 0, none⟩) 1 1) [(i : Int)] ((w.alloc (.cells #[.int .i64 0, .int .i64 p] 25)).alloc (.cells #[.int .i64 i] 2)) h (sl_one (w.alloc (.cells #[.int .i64 0, .int .i64 p] 25)) (w.heap.size + 1) i (by simp)) (by simp) (elOk_one hi)
  have HT := Lib.hid (fun y W (hy : y < gOrd 0 p) => product_0 p y i W h hy hi)
  have HP := Lib.hid (gOrder_pow h hi)
  have HL := Lib.hid (fun j => @gOrder_least 0 p i j h hi)
  have HB := Lib.hid (fun j => @gPow_lt 0 p i h j)
  have H1 := Lib.hid (gPow_one h hi)
  have hle := gOrder_le h hi
  have hge := gOrder_ge 0 p i
  obtain ⟨q, hq⟩ : ∃ q, q = gOrder 0 p i := ⟨_, rfl⟩
  rw [← hq] at HP HL hle hge ⊢
  clear hq h hi
  simp only [gv, gIf] at *
  go_enter Try.func21, Try.ntmps21
  go_wp2_with fail
  with_reducible refine hc.mono ?_
  rintro e w1 ⟨rfl, hb⟩
  have s1 := hb.size
  simp only [World.size_alloc] at hb s1
  clear hc
  go_wp2_with fail
  go_loopw [8, 9] (fun c y wr => ∃ s : Nat, 1 ≤ s ∧ s ≤ q ∧ c = .int .i64 s ∧ y = .int .i64 (gPow 0 p i s : Nat) ∧ Below (w.heap.size + 1 + 1) ((w.alloc (.cells #[.int .i64 0, .int .i64 p] 25)).alloc (.cells #[.int .i64 i] 2)) wr ∧ w.heap.size + 1 + 1 ≤ wr.heap.size) (fun c _ _ => q - (intOf c).toNat)
  case atStart => exact ⟨1, Nat.le_refl _, hge, rfl, by rw [H1.out], hb, s1⟩
  case round =>
    obtain ⟨s, hs1, hsq, rfl, rfl, hE, hs⟩ := hrel
    by_cases hlt : s < q
    · have e0 : (((gPow 0 p i s : Nat) : Int) == 0) = false := by
        rw [beq_eq_false_iff_ne]
        intro e
        exact HL.out s hlt hs1 (by omega)
      have hT := HT.out (gPow 0 p i s) wr (HB.out s)
      go_wp2_with fail
      with_reducible refine hT.mono ?_
      rintro e w2 ⟨rfl, hb2⟩
      have hE1 := hE.trans (hb2.mono hs)
      have s2 := Nat.le_trans hs hb2.size
      clear hE hb2 hT
      go_wp2_with fail
      go_roundw
      case rel => exact ⟨s + 1, by omega, by omega, by go_num, rfl, hE1, s2⟩
      case measure => simp [intOf]; omega
    · obtain rfl : s = q := by omega
      have e0 : ((gPow 0 p i s : Nat) : Int) = 0 := by rw [HP.out]; rfl
      go_wp2_with fail
      go_ret2
      exact ⟨rfl, D0.trans (hE.mono (by omega))⟩

set_option maxHeartbeats 1600000 in
theorem implOrderOf_1 (p i : Nat) (w : World) (h : gOk 1 p = true) (hi : i < gOrd 1 p) :
    Calls Try.prog 21 #[gv 1 p, .int .i64 i] w fun e w' => e = .returned (.tuple #[.int .i64 (gOrder 1 p i : Nat), .int .i64 0]) ∧ Below w.heap.size w w' := by
  have D0 : Below w.heap.size w ((w.alloc (.cells #[.int .i64 1, .int .i64 p] 25)).alloc (.cells #[.int .i64 i] 2)) := ((Below.refl _ _).alloc (Nat.le_refl _) _).alloc (by simp) _
  have hc := groupWith_1 p (.slice (some ⟨w.heap.size + 1, 0, none⟩) 1 1) [(i : Int)] ((w.alloc (.cells #[.int .i64 1, .int .i64 p] 25)).alloc (.cells #[.int .i64 i] 2)) h (sl_one (w.alloc (.cells #[.int .i64 1, .int .i64 p] 25)) (w.heap.size + 1) i (by simp)) (by simp) (elOk_one hi)
  have HT := Lib.hid (fun y W (hy : y < gOrd 1 p) => product_1 p y i W h hy hi)
  have HP := Lib.hid (gOrder_pow h hi)
  have HL := Lib.hid (fun j => @gOrder_least 1 p i j h hi)
  have HB := Lib.hid (fun j => @gPow_lt 1 p i h j)
  have H1 := Lib.hid (gPow_one h hi)
  have hle := gOrder_le h hi
  have hge := gOrder_ge 1 p i
  obtain ⟨q, hq⟩ : ∃ q, q = gOrder 1 p i := ⟨_, rfl⟩
  rw [← hq] at HP HL hle hge ⊢
  clear hq h hi
  simp only [gv, gIf] at *
  go_enter Try.func21, Try.ntmps21
  go_wp2_with fail
  with_reducible refine hc.mono ?_
  rintro e w1 ⟨rfl, hb⟩
  have s1 := hb.size
  simp only [World.size_alloc] at hb s1
  clear hc
  go_wp2_with fail
  go_loopw [8, 9] (fun c y wr => ∃ s : Nat, 1 ≤ s ∧ s ≤ q ∧ c = .int .i64 s ∧ y = .int .i64 (gPow 1 p i s : Nat) ∧ Below (w.heap.size + 1 + 1) ((w.alloc (.cells #[.int .i64 1, .int .i64 p] 25)).alloc (.cells #[.int .i64 i] 2)) wr ∧ w.heap.size + 1 + 1 ≤ wr.heap.size) (fun c _ _ => q - (intOf c).toNat)
  case atStart => exact ⟨1, Nat.le_refl _, hge, rfl, by rw [H1.out], hb, s1⟩
  case round =>
    obtain ⟨s, hs1, hsq, rfl, rfl, hE, hs⟩ := hrel
    by_cases hlt : s < q
    · have e0 : (((gPow 1 p i s : Nat) : Int) == 0) = false := by
        rw [beq_eq_false_iff_ne]
        intro e
        exact HL.out s hlt hs1 (by omega)
      have hT := HT.out (gPow 1 p i s) wr (HB.out s)
      go_wp2_with fail
      with_reducible refine hT.mono ?_
      rintro e w2 ⟨rfl, hb2⟩
      have hE1 := hE.trans (hb2.mono hs)
      have s2 := Nat.le_trans hs hb2.size
      clear hE hb2 hT
      go_wp2_with fail
      go_roundw
      case rel => exact ⟨s + 1, by omega, by omega, by go_num, rfl, hE1, s2⟩
      case measure => simp [intOf]; omega
    · obtain rfl : s = q := by omega
      have e0 : ((gPow 1 p i s : Nat) : Int) = 0 := by rw [HP.out]; rfl
      go_wp2_with fail
      go_ret2
      exact ⟨rfl, D0.trans (hE.mono (by omega))⟩

set_option maxHeartbeats 1600000 in
theorem implOrderOf_2 (p i : Nat) (w : World) (h : gOk 2 p = true) (hi : i < gOrd 2 p) :
    Calls Try.prog 21 #[gv 2 p, .int .i64 i] w fun e w' => e = .returned (.tuple #[.int .i64 (gOrder 2 p i : Nat), .int .i64 0]) ∧ Below w.heap.size w w' := by
  have D0 : Below w.heap.size w ((w.alloc (.cells #[.int .i64 2, .int .i64 p] 25)).alloc (.cells #[.int .i64 i] 2)) := ((Below.refl _ _).alloc (Nat.le_refl _) _).alloc (by simp) _
  have hc := groupWith_2 p (.slice (some ⟨w.heap.size + 1, 0, none⟩) 1 1) [(i : Int)] ((w.alloc (.cells #[.int .i64 2, .int .i64 p] 25)).alloc (.cells #[.int .i64 i] 2)) h (sl_one (w.alloc (.cells #[.int .i64 2, .int .i64 p] 25)) (w.heap.size + 1) i (by simp)) (by simp) (elOk_one hi)
  have HT := Lib.hid (fun y W (hy : y < gOrd 2 p) => product_2 p y i W h hy hi)
  have HP := Lib.hid (gOrder_pow h hi)
  have HL := Lib.hid (fun j => @gOrder_least 2 p i j h hi)
  have HB := Lib.hid (fun j => @gPow_lt 2 p i h j)
  have H1 := Lib.hid (gPow_one h hi)
  have hle := gOrder_le h hi
  have hge := gOrder_ge 2 p i
  obtain ⟨q, hq⟩ : ∃ q, q = gOrder 2 p i := ⟨_, rfl⟩
  rw [← hq] at HP HL hle hge ⊢
  clear hq h hi
  simp only [gv, gIf] at *
  go_enter Try.func21, Try.ntmps21
  go_wp2_with fail
  with_reducible refine hc.mono ?_
  rintro e w1 ⟨rfl, hb⟩
  have s1 := hb.size
  simp only [World.size_alloc] at hb s1
  clear hc
  go_wp2_with fail
  go_loopw [8, 9] (fun c y wr => ∃ s : Nat, 1 ≤ s ∧ s ≤ q ∧ c = .int .i64 s ∧ y = .int .i64 (gPow 2 p i s : Nat) ∧ Below (w.heap.size + 1 + 1) ((w.alloc (.cells #[.int .i64 2, .int .i64 p] 25)).alloc (.cells #[.int .i64 i] 2)) wr ∧ w.heap.size + 1 + 1 ≤ wr.heap.size) (fun c _ _ => q - (intOf c).toNat)
  case atStart => exact ⟨1, Nat.le_refl _, hge, rfl, by rw [H1.out], hb, s1⟩
  case round =>
    obtain ⟨s, hs1, hsq, rfl, rfl, hE, hs⟩ := hrel
    by_cases hlt : s < q
    · have e0 : (((gPow 2 p i s : Nat) : Int) == 0) = false := by
        rw [beq_eq_false_iff_ne]
        intro e
        exact HL.out s hlt hs1 (by omega)
      have hT := HT.out (gPow 2 p i s) wr (HB.out s)
      go_wp2_with fail
      with_reducible refine hT.mono ?_
      rintro e w2 ⟨rfl, hb2⟩
      have hE1 := hE.trans (hb2.mono hs)
      have s2 := Nat.le_trans hs hb2.size
      clear hE hb2 hT
      go_wp2_with fail
      go_roundw
      case rel => exact ⟨s + 1, by omega, by omega, by go_num, rfl, hE1, s2⟩
      case measure => simp [intOf]; omega
    · obtain rfl : s = q := by omega
      have e0 : ((gPow 2 p i s : Nat) : Int) = 0 := by rw [HP.out]; rfl
      go_wp2_with fail
      go_ret2
      exact ⟨rfl, D0.trans (hE.mono (by omega))⟩

theorem specOrderOf_any (a b x : Int) (w : World) :
    Calls Try.prog 20 #[gv a b, .int .i64 x] w fun e w' => e = .returned (.tuple #[.int .i64 (orV a b x), .int .i64 (elC a b [x])]) ∧ Below w.heap.size w w' := by
  unfold orV
  by_cases h : elC a b [x] = 0
  · rw [if_pos h, h]
    obtain ⟨k, p, i, rfl, rfl, rfl, hg, hi⟩ := elC_one h
    simp only [Int.toNat_natCast]
    exact specOrderOf_yes k p i w hg hi
  · rw [if_neg h]
    exact specOrderOf_no a b x w h

theorem implOrderOf_any (a b x : Int) (w : World) :
    Calls Try.prog 21 #[gv a b, .int .i64 x] w fun e w' => e = .returned (.tuple #[.int .i64 (orV a b x), .int .i64 (elC a b [x])]) ∧ Below w.heap.size w w' := by
  unfold orV
  by_cases h : elC a b [x] = 0
  · rw [if_pos h, h]
    obtain ⟨k, p, i, rfl, rfl, rfl, hg, hi⟩ := elC_one h
    simp only [Int.toNat_natCast]
    match k, hg, hi with
    | 0, hg, hi => exact implOrderOf_0 p i w hg hi
    | 1, hg, hi => exact implOrderOf_1 p i w hg hi
    | 2, hg, hi => exact implOrderOf_2 p i w hg hi
    | k + 3, hg, _ => simp [gOk] at hg
  · rw [if_neg h]
    exact implOrderOf_no a b x w h

end Go.Proofs.Ytpknelbgooebcaa

