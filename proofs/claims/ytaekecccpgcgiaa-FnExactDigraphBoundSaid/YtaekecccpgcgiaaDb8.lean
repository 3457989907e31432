/-
  The bound of a digraph: both programs, and the law.
-/
import Derived.Test.YtaekecccpgcgiaaBw8
namespace Go.Proofs.Ytaekecccpgcgiaa
open Go.RowKit

def gbOk (d k : Int) : Bool := decide (1 ≤ d) && decide (d ≤ 62) && (decide (1 ≤ k) && decide (k ≤ 60))
def gbN (d k : Int) : Nat := sumP d.toNat (k.toNat + 1)
def gbV (d k : Int) : Int := if gbOk d k then bdV (gbN d k) else 0
def gbC (d k : Int) : Int := if gbOk d k then bdC (gbN d k) else 2

theorem SumOk.same {b n r : Nat} (h : SumOk b n r) : bdV r = bdV (sumP b n) ∧ bdC r = bdC (sumP b n) := by
  rcases Nat.lt_or_ge 1000000000000 (sumP b n) with g | g
  rotate_left
  · rw [h.1 g]; exact ⟨rfl, rfl⟩
  · have h1 := h.2.1 g
    unfold bdV bdC
    rw [if_neg (by omega), if_neg (by omega), if_neg (by omega), if_neg (by omega)]
    exact ⟨rfl, rfl⟩

set_option maxHeartbeats 800000 in
theorem specGb_yes (d k : Nat) (w : World) (h1 : 1 ≤ d) (h2 : d ≤ 62) (h3 : 1 ≤ k) (h4 : k ≤ 60) :
    Calls Try.prog 9 #[.int .i64 d, .int .i64 k] w fun e w' => e = .returned (.tuple #[.int .i64 (bdV (sumP d (k + 1))), .int .i64 (bdC (sumP d (k + 1)))]) ∧ w = w' := by
  have i1 := fun W => in_yn (d : Int) 1 62 W true (by simp; omega)
  have i2 := fun W => in_yn (k : Int) 1 60 W true (by simp; omega)
  have hs := fun W => l02Sum_any d (k + 1) W (by omega) (by omega)
  rw [Int.natCast_add k 1, Int.natCast_one] at hs
  have ht := fun W => told_any (cap12 (sumP d (k + 1))) W
  have HE := Lib.hid ((SumOk.cap d (k + 1)).same)
  go_enter Try.func9, Try.ntmps9
  go_wp2_with (first | (go_at_call 28; with_reducible refine (i1 _).mono ?_; rintro e w' ⟨rfl, rfl⟩) | (go_at_call 28; with_reducible refine (i2 _).mono ?_; rintro e w' ⟨rfl, rfl⟩) | (go_at_call 30; refine (hs _).mono ?_; rintro e w' ⟨rfl, rfl⟩) | (go_at_call 29; refine (ht _).mono ?_; rintro e w' ⟨rfl, rfl⟩))
  go_ret2
  exact ⟨rint2 HE.out.1 HE.out.2, rfl⟩

set_option maxHeartbeats 800000 in
theorem specGb_no (d k : Int) (w : World) (h : gbOk d k = false) :
    Calls Try.prog 9 #[.int .i64 d, .int .i64 k] w fun e w' => e = .returned (.tuple #[.int .i64 0, .int .i64 2]) ∧ w = w' := by
  unfold gbOk at h
  cases hd : (decide (1 ≤ d) && decide (d ≤ 62))
  · have i1 := fun W => in_yn d 1 62 W false hd
    clear h hd
    go_enter Try.func9, Try.ntmps9
    go_wp2_with (go_at_call 28; refine (i1 _).mono ?_; rintro e w' ⟨rfl, rfl⟩)
    go_ret2
    exact ⟨rfl, rfl⟩
  · have i1 := fun W => in_yn d 1 62 W true hd
    rw [hd, Bool.true_and] at h
    have i2 := fun W => in_yn k 1 60 W false h
    clear h hd
    go_enter Try.func9, Try.ntmps9
    go_wp2_with (first | (go_at_call 28; with_reducible refine (i1 _).mono ?_; rintro e w' ⟨rfl, rfl⟩) | (go_at_call 28; with_reducible refine (i2 _).mono ?_; rintro e w' ⟨rfl, rfl⟩))
    go_ret2
    exact ⟨rfl, rfl⟩

set_option maxHeartbeats 800000 in
theorem digB_any (d k : Nat) (w : World) (h2 : d ≤ 62) (h4 : k ≤ 61) :
    Calls Try.prog 33 #[.int .i64 d, .int .i64 k] w fun e w' => SumRes d (k + 1) e ∧ w = w' := by
  have hs := fun W => sumOf_any d (k + 1) W (by omega) (by omega)
  rw [Int.natCast_add k 1, Int.natCast_one] at hs
  go_enter Try.func33, Try.ntmps33
  go_wp2_with (go_at_call 49; refine (hs _).mono ?_; rintro e w' ⟨⟨r, rfl, hr⟩, rfl⟩; have HR := Lib.hid hr; clear hr)
  go_ret
  exact ⟨⟨r, rfl, HR.out⟩, rfl⟩

set_option maxHeartbeats 800000 in
theorem implGb_yes (d k : Nat) (w : World) (h1 : 1 ≤ d) (h2 : d ≤ 62) (h3 : 1 ≤ k) (h4 : k ≤ 60) :
    Calls Try.prog 10 #[.int .i64 d, .int .i64 k] w fun e w' => e = .returned (.tuple #[.int .i64 (bdV (sumP d (k + 1))), .int .i64 (bdC (sumP d (k + 1)))]) ∧ w = w' := by
  have i1 := fun W => upTo_val 62 (d : Int) W true (by simp; omega)
  have i2 := fun W => upTo_val 60 (k : Int) W true (by simp; omega)
  have hs := fun W => digB_any d k W h2 (by omega)
  have ht := fun x W => limit_any x W
  go_enter Try.func10, Try.ntmps10
  go_wp2_with (first | (go_at_call 31; with_reducible refine (i1 _).mono ?_; rintro e w' ⟨rfl, rfl⟩) | (go_at_call 31; with_reducible refine (i2 _).mono ?_; rintro e w' ⟨rfl, rfl⟩) | (go_at_call 33; refine (hs _).mono ?_; rintro e w' ⟨⟨r, rfl, hr⟩, rfl⟩; have HR := Lib.hid hr; clear hr) | (go_at_call 32; refine (ht _ _).mono ?_; rintro e w' ⟨rfl, rfl⟩))
  go_ret2
  exact ⟨rint2 HR.out.same.1 HR.out.same.2, rfl⟩

set_option maxHeartbeats 800000 in
theorem implGb_no (d k : Int) (w : World) (h : gbOk d k = false) :
    Calls Try.prog 10 #[.int .i64 d, .int .i64 k] w fun e w' => e = .returned (.tuple #[.int .i64 0, .int .i64 2]) ∧ w = w' := by
  unfold gbOk at h
  cases hd : (decide (1 ≤ d) && decide (d ≤ 62))
  · have i1 := fun W => upTo_val 62 d W false hd
    clear h hd
    go_enter Try.func10, Try.ntmps10
    go_wp2_with (go_at_call 31; refine (i1 _).mono ?_; rintro e w' ⟨rfl, rfl⟩)
    go_ret2
    exact ⟨rfl, rfl⟩
  · have i1 := fun W => upTo_val 62 d W true hd
    rw [hd, Bool.true_and] at h
    have i2 := fun W => upTo_val 60 k W false h
    clear h hd
    go_enter Try.func10, Try.ntmps10
    go_wp2_with (first | (go_at_call 31; with_reducible refine (i1 _).mono ?_; rintro e w' ⟨rfl, rfl⟩) | (go_at_call 31; with_reducible refine (i2 _).mono ?_; rintro e w' ⟨rfl, rfl⟩))
    go_ret2
    exact ⟨rfl, rfl⟩

theorem gb_nat {d k : Int} (h : gbOk d k = true) : ∃ a b : Nat, d = a ∧ k = b ∧ 1 ≤ a ∧ a ≤ 62 ∧ 1 ≤ b ∧ b ≤ 60 := by
  unfold gbOk at h
  simp only [Bool.and_eq_true, decide_eq_true_eq] at h
  exact ⟨d.toNat, k.toNat, by omega, by omega, by omega, by omega, by omega, by omega⟩
theorem specGb_any (d k : Int) (w : World) : Calls Try.prog 9 #[.int .i64 d, .int .i64 k] w fun e w' => e = .returned (.tuple #[.int .i64 (gbV d k), .int .i64 (gbC d k)]) ∧ w = w' := by
  unfold gbV gbC gbN
  cases h : gbOk d k
  · exact specGb_no d k w h
  · obtain ⟨a, b, rfl, rfl, h1, h2, h3, h4⟩ := gb_nat h
    exact specGb_yes a b w h1 h2 h3 h4
theorem implGb_any (d k : Int) (w : World) : Calls Try.prog 10 #[.int .i64 d, .int .i64 k] w fun e w' => e = .returned (.tuple #[.int .i64 (gbV d k), .int .i64 (gbC d k)]) ∧ w = w' := by
  unfold gbV gbC gbN
  cases h : gbOk d k
  · exact implGb_no d k w h
  · obtain ⟨a, b, rfl, rfl, h1, h2, h3, h4⟩ := gb_nat h
    exact implGb_yes a b w h1 h2 h3 h4

set_option maxHeartbeats 800000 in
theorem lawGb (d k : Int) (w : World) : Calls Try.prog 3 #[.int .i64 d, .int .i64 k] w fun e w' => e = .returned (.bool true) ∧ w = w' := by
  have hs := fun W => specGb_any d k W
  have hi := fun W => implGb_any d k W
  generalize gbV d k = x at hs hi
  generalize gbC d k = y at hs hi
  have e1 : (x != x) = false := by simp
  have e2 : (y != y) = false := by simp
  go_enter Try.func3, Try.ntmps3
  go_wp2_with (first | (go_at_call 9; refine (hs _).mono ?_; rintro e w' ⟨rfl, rfl⟩) | (go_at_call 10; refine (hi _).mono ?_; rintro e w' ⟨rfl, rfl⟩))
  go_ret
  exact ⟨rfl, rfl⟩
end Go.Proofs.Ytaekecccpgcgiaa
