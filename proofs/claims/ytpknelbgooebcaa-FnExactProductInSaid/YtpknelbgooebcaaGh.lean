/-
  OrderOfGroup, ProductIn, InverseIn: both programs. (A plain seat.)
-/
import Derived.Test.YtpknelbgooebcaaGg
namespace Go.Proofs.Ytpknelbgooebcaa
open Go.RowKit

theorem sl_one (w : World) (n : Nat) (x : Int) (e : n = w.heap.size) : Sl (w.alloc (.cells #[.int .i64 x] 2)) (.slice (some ⟨n, 0, none⟩) 1 1) [x] := by subst e; exact (Blk.new w [x]).sl 1
theorem sl_two (w : World) (n : Nat) (x y : Int) (e : n = w.heap.size) : Sl (w.alloc (.cells #[.int .i64 x, .int .i64 y] 2)) (.slice (some ⟨n, 0, none⟩) 2 2) [x, y] := by subst e; exact (Blk.new w [x, y]).sl 2

theorem elC_zero {a b : Int} {zs : List Int} (h : elC a b zs = 0) : ∃ k p : Nat, a = k ∧ b = p ∧ gOk k p = true ∧ elOk (gOrd k p) zs zs.length = true := by
  cases hi : isGr a b
  · rw [elC_no zs hi] at h; cases h
  · obtain ⟨k, p, rfl, rfl, hg⟩ := isGr_nat hi
    cases he : elOk (gOrd k p) zs zs.length
    · rw [elC_bad hg he] at h; cases h
    · exact ⟨k, p, rfl, rfl, hg, he⟩
theorem elC_one {a b x : Int} (h : elC a b [x] = 0) : ∃ k p i : Nat, a = k ∧ b = p ∧ x = i ∧ gOk k p = true ∧ i < gOrd k p := by
  obtain ⟨k, p, rfl, rfl, hg, he⟩ := elC_zero h
  have h0 := elOk_at he (i := 0) (by simp)
  simp [el] at h0
  exact ⟨k, p, x.toNat, rfl, rfl, by omega, hg, by omega⟩
theorem elC_two {a b x y : Int} (h : elC a b [x, y] = 0) : ∃ k p i j : Nat, a = k ∧ b = p ∧ x = i ∧ y = j ∧ gOk k p = true ∧ i < gOrd k p ∧ j < gOrd k p := by
  obtain ⟨k, p, rfl, rfl, hg, he⟩ := elC_zero h
  have h0 := elOk_at he (i := 0) (by simp)
  have h1 := elOk_at he (i := 1) (by simp)
  simp [el] at h0 h1
  exact ⟨k, p, x.toNat, y.toNat, rfl, rfl, by omega, by omega, hg, by omega, by omega⟩
theorem elOk_one {k p i : Nat} (h : i < gOrd k p) : elOk (gOrd k p) [(i : Int)] 1 = true := by
  unfold elOk; simp [List.range_succ, inE, el]; omega
theorem elOk_two {k p i j : Nat} (h : i < gOrd k p) (hj : j < gOrd k p) : elOk (gOrd k p) [(i : Int), (j : Int)] 2 = true := by
  unfold elOk; simp [List.range_succ, inE, el]; omega

/-- The number of elements, and its code. -/
def ogV (a b : Int) : Int := if isGr a b then (gOrd a.toNat b.toNat : Nat) else 0
def ogC (a b : Int) : Int := if isGr a b then 0 else 1
def prV (a b x y : Int) : Int := if elC a b [x, y] = 0 then (gMul a.toNat b.toNat x.toNat y.toNat : Nat) else 0
def ivV (a b x : Int) : Int := if elC a b [x] = 0 then (gQuo a.toNat b.toNat 0 x.toNat : Nat) else 0

set_option maxHeartbeats 800000 in
theorem specOg_any (a b : Int) (w : World) :
    Calls Try.prog 14 #[gv a b] w fun e w' => e = .returned (.tuple #[.int .i64 (ogV a b), .int .i64 (ogC a b)]) ∧ Below w.heap.size w w' := by
  have D0 : Below w.heap.size w (w.alloc (.cells #[.int .i64 a, .int .i64 b] 25)) := (Below.refl _ _).alloc (Nat.le_refl _) _
  have HB0 := Lib.hid (World.alloc_heap_new w (.cells #[.int .i64 a, .int .i64 b] 25))
  have hi := l05Is_any a b (w.alloc (.cells #[.int .i64 a, .int .i64 b] 25))
  unfold ogV ogC
  cases h : isGr a b
  · rw [h] at hi
    unfold gv at *
    go_enter Try.func14, Try.ntmps14
    go_wp2_with (go_at_call 34; refine hi.mono ?_; rintro e w1 ⟨rfl, hb⟩)
    go_ret2
    exact ⟨rfl, D0.trans (hb.mono D0.size)⟩
  · rw [h] at hi
    obtain ⟨k, p, rfl, rfl, hg⟩ := isGr_nat h
    have HO := Lib.hid (fun W => l05Order_any k p W hg)
    simp only [gv] at *
    go_enter Try.func14, Try.ntmps14
    go_wp2_with fail
    refine hi.mono ?_
    rintro e w1 ⟨rfl, hb⟩
    have s1 := hb.size
    rw [World.size_alloc] at hb s1
    obtain ⟨r0, r1, -, -⟩ := two_cells ((hb.block w.heap.size (by omega)).trans HB0.out)
    go_wp2_with fail
    with_reducible refine (HO.out _).mono ?_
    rintro e w2 ⟨rfl, hb2⟩
    have E2 := D0.trans ((hb.trans (hb2.mono s1)).mono (by omega))
    clear hb hb2
    go_wp2
    go_ret2
    exact ⟨by simp, E2⟩

set_option maxHeartbeats 800000 in
theorem implOg_no (a b : Int) (w : World) (h : isGr a b = false) :
    Calls Try.prog 15 #[gv a b] w fun e w' => e = .returned (.tuple #[.int .i64 0, .int .i64 1]) ∧ Below w.heap.size w w' := by
  have D0 : Below w.heap.size w (w.alloc (.cells #[.int .i64 a, .int .i64 b] 25)) := (Below.refl _ _).alloc (Nat.le_refl _) _
  have hi := groupWith_inv a b (.slice none 0 0) (w.alloc (.cells #[.int .i64 a, .int .i64 b] 25)) h
  unfold gv at *
  go_enter Try.func15, Try.ntmps15
  go_wp2_with (go_at_call 37; refine hi.mono ?_; rintro e w1 ⟨rfl, hb⟩)
  go_ret2
  exact ⟨rfl, D0.trans (hb.mono D0.size)⟩

set_option maxHeartbeats 800000 in
theorem implOg_0 (p : Nat) (w : World) (h : gOk 0 p = true) :
    Calls Try.prog 15 #[gv 0 p] w fun e w' => e = .returned (.tuple #[.int .i64 (gOrd 0 p : Nat), .int .i64 0]) ∧ Below w.heap.size w w' := by
  have D0 : Below w.heap.size w (w.alloc (.cells #[.int .i64 0, .int .i64 p] 25)) := (Below.refl _ _).alloc (Nat.le_refl _) _
  have hi := groupWith_0 p (.slice none 0 0) [] (w.alloc (.cells #[.int .i64 0, .int .i64 p] 25)) h (.inl ⟨_, _, rfl, rfl⟩) (by simp) rfl
  have HO := Lib.hid (fun W => order_0 p W h)
  unfold gv gIf at *
  go_enter Try.func15, Try.ntmps15
  go_wp2_with (first | (go_at_call 37; refine hi.mono ?_; rintro e w1 ⟨rfl, hb⟩) | (go_at_call 85; refine (HO.out _).mono ?_; rintro e w2 ⟨rfl, hb2⟩))
  go_ret2
  exact ⟨rfl, D0.trans ((hb.trans (hb2.mono hb.size)).mono D0.size)⟩

set_option maxHeartbeats 800000 in
theorem implOg_1 (p : Nat) (w : World) (h : gOk 1 p = true) :
    Calls Try.prog 15 #[gv 1 p] w fun e w' => e = .returned (.tuple #[.int .i64 (gOrd 1 p : Nat), .int .i64 0]) ∧ Below w.heap.size w w' := by
  have D0 : Below w.heap.size w (w.alloc (.cells #[.int .i64 1, .int .i64 p] 25)) := (Below.refl _ _).alloc (Nat.le_refl _) _
  have hi := groupWith_1 p (.slice none 0 0) [] (w.alloc (.cells #[.int .i64 1, .int .i64 p] 25)) h (.inl ⟨_, _, rfl, rfl⟩) (by simp) rfl
  have HO := Lib.hid (fun W => order_1 p W h)
  unfold gv gIf at *
  go_enter Try.func15, Try.ntmps15
  go_wp2_with (first | (go_at_call 37; refine hi.mono ?_; rintro e w1 ⟨rfl, hb⟩) | (go_at_call 88; refine (HO.out _).mono ?_; rintro e w2 ⟨rfl, hb2⟩))
  go_ret2
  exact ⟨rfl, D0.trans ((hb.trans (hb2.mono hb.size)).mono D0.size)⟩

set_option maxHeartbeats 800000 in
theorem implOg_2 (p : Nat) (w : World) (h : gOk 2 p = true) :
    Calls Try.prog 15 #[gv 2 p] w fun e w' => e = .returned (.tuple #[.int .i64 (gOrd 2 p : Nat), .int .i64 0]) ∧ Below w.heap.size w w' := by
  have D0 : Below w.heap.size w (w.alloc (.cells #[.int .i64 2, .int .i64 p] 25)) := (Below.refl _ _).alloc (Nat.le_refl _) _
  have hi := groupWith_2 p (.slice none 0 0) [] (w.alloc (.cells #[.int .i64 2, .int .i64 p] 25)) h (.inl ⟨_, _, rfl, rfl⟩) (by simp) rfl
  have HO := Lib.hid (fun W => order_2 p W h)
  unfold gv gIf at *
  go_enter Try.func15, Try.ntmps15
  go_wp2_with (first | (go_at_call 37; refine hi.mono ?_; rintro e w1 ⟨rfl, hb⟩) | (go_at_call 91; refine (HO.out _).mono ?_; rintro e w2 ⟨rfl, hb2⟩))
  go_ret2
  exact ⟨rfl, D0.trans ((hb.trans (hb2.mono hb.size)).mono D0.size)⟩

theorem implOg_any (a b : Int) (w : World) :
    Calls Try.prog 15 #[gv a b] w fun e w' => e = .returned (.tuple #[.int .i64 (ogV a b), .int .i64 (ogC a b)]) ∧ Below w.heap.size w w' := by
  unfold ogV ogC
  cases h : isGr a b
  · exact implOg_no a b w h
  · obtain ⟨k, p, rfl, rfl, hg⟩ := isGr_nat h
    simp only [Int.toNat_natCast, if_true]
    match k, hg with
    | 0, hg => exact implOg_0 p w hg
    | 1, hg => exact implOg_1 p w hg
    | 2, hg => exact implOg_2 p w hg
    | k + 3, hg => simp [gOk] at hg

end Go.Proofs.Ytpknelbgooebcaa
