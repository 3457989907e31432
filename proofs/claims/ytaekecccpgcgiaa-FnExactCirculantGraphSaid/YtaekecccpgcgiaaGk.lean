/-
  The methods of impl's groups: order, product, quotient. (A plain seat.)
-/
import Derived.Test.YtaekecccpgcgiaaGt
namespace Go.Proofs.Ytaekecccpgcgiaa
set_option maxRecDepth 100000
open Go.RowKit

set_option maxHeartbeats 800000 in
theorem order_0 (p : Nat) (w : World) (h : gOk 0 p = true) :
    Calls Try.prog 69 #[.agg #[.int .i64 p]] w fun e w' => e = .returned (.int .i64 (gOrd 0 p : Nat)) ∧ Below w.heap.size w w' := by
  have D0 : Below w.heap.size w (w.alloc (.cells #[.int .i64 p] 57)) := (Below.refl _ _).alloc (Nat.le_refl _) _
  have h1 : (p : Int) ≤ 62 := by have := gOk_pos h; omega
  unfold gOrd
  go_enter Try.func69, Try.ntmps69
  go_wp2
  go_ret
  exact ⟨ret_int (by simp), D0⟩

set_option maxHeartbeats 800000 in
theorem product_0 (p x y : Nat) (w : World) (h : gOk 0 p = true) (hx : x < p) (hy : y < p) :
    Calls Try.prog 70 #[.agg #[.int .i64 p], .int .i64 x, .int .i64 y] w fun e w' => e = .returned (.int .i64 (gMul 0 p x y : Nat)) ∧ Below w.heap.size w w' := by
  have D0 : Below w.heap.size w (w.alloc (.cells #[.int .i64 p] 57)) := (Below.refl _ _).alloc (Nat.le_refl _) _
  have h1 := gOk_pos h
  have m1 := Int.emod_nonneg ((x : Int) + y) (b := (p : Int)) (by omega)
  have m2 := Int.emod_lt_of_pos ((x : Int) + y) (b := (p : Int)) (by omega)
  unfold gMul
  go_enter Try.func70, Try.ntmps70
  go_wp2
  go_ret
  exact ⟨ret_int (by simp), D0⟩

set_option maxHeartbeats 800000 in
theorem quotient_0 (p x y : Nat) (w : World) (h : gOk 0 p = true) (hx : x < p) (hy : y < p) :
    Calls Try.prog 71 #[.agg #[.int .i64 p], .int .i64 x, .int .i64 y] w fun e w' => e = .returned (.int .i64 (gQuo 0 p x y : Nat)) ∧ Below w.heap.size w w' := by
  have D0 : Below w.heap.size w (w.alloc (.cells #[.int .i64 p] 57)) := (Below.refl _ _).alloc (Nat.le_refl _) _
  have h1 := gOk_pos h
  have m1 := Int.emod_nonneg ((x : Int) + p - y) (b := (p : Int)) (by omega)
  have m2 := Int.emod_lt_of_pos ((x : Int) + p - y) (b := (p : Int)) (by omega)
  have HR := Lib.hid (show (((x + p - y) % p : Nat) : Int) = ((x : Int) + p - y) % p by rw [Int.natCast_emod, Int.natCast_sub (by omega)]; simp)
  unfold gQuo
  go_enter Try.func71, Try.ntmps71
  go_wp2
  go_ret
  exact ⟨ret_int HR.out.symm, D0⟩

end Go.Proofs.Ytaekecccpgcgiaa
