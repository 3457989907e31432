/-
  spec.l05Order, spec.l05Times. (A plain seat.)
-/
import Derived.Test.YtklgimikdnokcaaDoorGi
import Derived.Test.YtklgimikdnokcaaDoorGn
namespace Go.Proofs.YtklgimikdnokcaaDoor
set_option maxRecDepth 100000
open Go.RowKit

theorem below_box {w : World} (o : Obj) (n : Nat) : Below w.heap.size w ((w.alloc o).drewN n) := drewN_below ((Below.refl _ _).alloc (Nat.le_refl _) _) n

set_option maxHeartbeats 800000 in
theorem l05Order_any (k p : Nat) (w : World) (h : gOk k p = true) :
    Calls Tryd.prog 51 #[gv k p] w fun e w' => e = .returned (.int .i64 (gOrd k p : Nat)) ∧ Below w.heap.size w w' := by
  have D0 : Below w.heap.size w (w.alloc (.cells #[.int .i64 k, .int .i64 p] 27)) := (Below.refl _ _).alloc (Nat.le_refl _) _
  match k, h with
  | 0, h =>
    unfold gv gOrd
    go_enter Tryd.func51, Tryd.ntmps51
    go_wp2
    go_ret
    exact ⟨rfl, D0⟩
  | 1, h =>
    have h1 : (p : Int) ≤ 62 := by have := gOk_pos h; omega
    unfold gv gOrd
    go_enter Tryd.func51, Tryd.ntmps51
    go_wp2
    go_ret
    exact ⟨ret_int (by simp), D0⟩
  | 2, h =>
    simp only [gOk, Bool.or_eq_true, beq_iff_eq] at h
    unfold gv
    rcases h with ((rfl | rfl) | rfl) | rfl
    all_goals
      go_enter Tryd.func51, Tryd.ntmps51
      go_wp2
      go_ret
      exact ⟨rfl, D0⟩
  | k + 3, h => simp [gOk] at h

set_option maxHeartbeats 800000 in
theorem l05Times_0 (p x y : Nat) (w : World) (h : gOk 0 p = true) (hx : x < p) (hy : y < p) :
    Calls Tryd.prog 41 #[gv 0 p, .int .i64 x, .int .i64 y] w fun e w' => e = .returned (.int .i64 (gMul 0 p x y : Nat)) ∧ Below w.heap.size w w' := by
  have D0 : Below w.heap.size w (w.alloc (.cells #[.int .i64 0, .int .i64 p] 27)) := (Below.refl _ _).alloc (Nat.le_refl _) _
  have h1 := gOk_pos h
  have m1 := Int.emod_nonneg ((x : Int) + y) (b := (p : Int)) (by omega)
  have m2 := Int.emod_lt_of_pos ((x : Int) + y) (b := (p : Int)) (by omega)
  unfold gv gMul
  go_enter Tryd.func41, Tryd.ntmps41
  go_wp2
  go_ret
  exact ⟨ret_int (by simp), D0⟩

theorem two_of {n : Nat} (h : n < 2) : n = 0 ∨ n = 1 := by omega
theorem div_cast {x p e : Nat} (h : x / p = e) : (x : Int) / (p : Int) = (e : Int) := by rw [← h]; simp

set_option maxHeartbeats 3200000 in
theorem l05Times_1 (p x y : Nat) (w : World) (h : gOk 1 p = true) (hx : x < 2 * p) (hy : y < 2 * p) :
    Calls Tryd.prog 41 #[gv 1 p, .int .i64 x, .int .i64 y] w fun e w' => e = .returned (.int .i64 (gMul 1 p x y : Nat)) ∧ Below w.heap.size w w' := by
  have h1 := gOk_pos h
  have hx2 : x / p < 2 := Nat.div_lt_of_lt_mul (by omega)
  have hy2 : y / p < 2 := Nat.div_lt_of_lt_mul (by omega)
  obtain ⟨i, hi⟩ : ∃ i, i = x % p := ⟨_, rfl⟩
  obtain ⟨j, hj⟩ : ∃ j, j = y % p := ⟨_, rfl⟩
  have il : i < p := by rw [hi]; exact Nat.mod_lt _ (by omega)
  have jl : j < p := by rw [hj]; exact Nat.mod_lt _ (by omega)
  have hi' : (x : Int) % (p : Int) = (i : Int) := by rw [hi]; simp
  have hj' : (y : Int) % (p : Int) = (j : Int) := by rw [hj]; simp
  have hg : gMul 1 p x y = (x / p + y / p) % 2 * p + (i + (if x / p = 1 then p - j else j)) % p := by rw [hi, hj]; rfl
  have hp : (1 : Int) ≤ p := by omega
  have hp2 : (p : Int) ≤ 62 := by omega
  clear hi hj
  rcases two_of hx2 with he | he <;> rcases two_of hy2 with hf | hf <;> rw [he, hf] at hg
  · have m1 := Int.emod_nonneg ((i : Int) + j) (b := (p : Int)) (by omega)
    have m2 := Int.emod_lt_of_pos ((i : Int) + j) (b := (p : Int)) (by omega)
    have HR := Lib.hid (show (((gMul 1 p x y : Nat) : Int)) = ((i : Int) + j) % p by rw [hg]; simp)
    have he' := div_cast he
    have hf' := div_cast hf
    simp only [Int.natCast_zero] at he' hf'
    clear hg he hf hx2 hy2
    unfold gv
    go_enter Tryd.func41, Tryd.ntmps41
    go_wp2
    go_quiet (fail)
    go_wp2
    go_ret
    exact ⟨ret_int HR.out.symm, below_box _ _⟩
  · have m1 := Int.emod_nonneg ((i : Int) + j) (b := (p : Int)) (by omega)
    have m2 := Int.emod_lt_of_pos ((i : Int) + j) (b := (p : Int)) (by omega)
    have HR := Lib.hid (show (((gMul 1 p x y : Nat) : Int)) = p + ((i : Int) + j) % p by rw [hg]; simp)
    have he' := div_cast he
    have hf' := div_cast hf
    simp only [Int.natCast_zero, Int.natCast_one] at he' hf'
    clear hg he hf hx2 hy2
    unfold gv
    go_enter Tryd.func41, Tryd.ntmps41
    go_wp2
    go_quiet (fail)
    go_wp2
    go_ret
    exact ⟨ret_int HR.out.symm, below_box _ _⟩
  · have m1 := Int.emod_nonneg ((i : Int) + (p - j)) (b := (p : Int)) (by omega)
    have m2 := Int.emod_lt_of_pos ((i : Int) + (p - j)) (b := (p : Int)) (by omega)
    have HR := Lib.hid (show (((gMul 1 p x y : Nat) : Int)) = p + ((i : Int) + (p - j)) % p by rw [hg]; simp [Int.natCast_sub (Nat.le_of_lt jl)])
    have he' := div_cast he
    have hf' := div_cast hf
    simp only [Int.natCast_zero, Int.natCast_one] at he' hf'
    clear hg he hf hx2 hy2
    unfold gv
    go_enter Tryd.func41, Tryd.ntmps41
    go_wp2
    go_quiet (fail)
    go_wp2
    go_ret
    exact ⟨ret_int HR.out.symm, below_box _ _⟩
  · have m1 := Int.emod_nonneg ((i : Int) + (p - j)) (b := (p : Int)) (by omega)
    have m2 := Int.emod_lt_of_pos ((i : Int) + (p - j)) (b := (p : Int)) (by omega)
    have HR := Lib.hid (show (((gMul 1 p x y : Nat) : Int)) = ((i : Int) + (p - j)) % p by rw [hg]; simp [Int.natCast_sub (Nat.le_of_lt jl)])
    have he' := div_cast he
    have hf' := div_cast hf
    simp only [Int.natCast_one] at he' hf'
    clear hg he hf hx2 hy2
    unfold gv
    go_enter Tryd.func41, Tryd.ntmps41
    go_wp2
    go_quiet (fail)
    go_wp2
    go_ret
    exact ⟨ret_int HR.out.symm, below_box _ _⟩

theorem mul_bd6 {a b : Int} (ha : 0 ≤ a) (ha2 : a ≤ 6) (hb : 0 ≤ b) (hb2 : b ≤ 6) : 0 ≤ a * b ∧ a * b ≤ 36 := by
  refine ⟨Int.mul_nonneg ha hb, ?_⟩
  have : a * b ≤ 6 * 6 := Int.mul_le_mul ha2 hb2 hb (by omega)
  omega

set_option maxHeartbeats 3200000 in
theorem l05Times_2 (p x y : Nat) (w : World) (h : gOk 2 p = true) (hx : x < gOrd 2 p) (hy : y < gOrd 2 p) :
    Calls Tryd.prog 41 #[gv 2 p, .int .i64 x, .int .i64 y] w fun e w' => e = .returned (.int .i64 (gMul 2 p x y : Nat)) ∧ Below w.heap.size w w' := by
  have hg := gMul_2 h hx hy
  have a1 := aff_div h hx
  have a2 := aff_div h hy
  have HG := Lib.hid hg
  simp only [gOk, Bool.or_eq_true, beq_iff_eq] at h
  clear hx hy hg
  rcases h with ((rfl | rfl) | rfl) | rfl
  · obtain ⟨p1, p2⟩ := mul_bd6 (a := (x : Int) / 2 + 1) (b := (y : Int) / 2 + 1) (by omega) (by omega) (by omega) (by omega)
    obtain ⟨p3, p4⟩ := mul_bd6 (a := (x : Int) / 2 + 1) (b := (y : Int) % 2) (by omega) (by omega) (by omega) (by omega)
    unfold gv
    go_enter Tryd.func41, Tryd.ntmps41
    go_wp2
    go_quiet (fail)
    go_wp2
    go_quiet (fail)
    go_wp2
    go_ret
    exact ⟨ret_int (by rw [HG.out]; simp), drewN_below (below_box _ _) _⟩
  · obtain ⟨p1, p2⟩ := mul_bd6 (a := (x : Int) / 3 + 1) (b := (y : Int) / 3 + 1) (by omega) (by omega) (by omega) (by omega)
    obtain ⟨p3, p4⟩ := mul_bd6 (a := (x : Int) / 3 + 1) (b := (y : Int) % 3) (by omega) (by omega) (by omega) (by omega)
    unfold gv
    go_enter Tryd.func41, Tryd.ntmps41
    go_wp2
    go_quiet (fail)
    go_wp2
    go_quiet (fail)
    go_wp2
    go_ret
    exact ⟨ret_int (by rw [HG.out]; simp), drewN_below (below_box _ _) _⟩
  · obtain ⟨p1, p2⟩ := mul_bd6 (a := (x : Int) / 5 + 1) (b := (y : Int) / 5 + 1) (by omega) (by omega) (by omega) (by omega)
    obtain ⟨p3, p4⟩ := mul_bd6 (a := (x : Int) / 5 + 1) (b := (y : Int) % 5) (by omega) (by omega) (by omega) (by omega)
    unfold gv
    go_enter Tryd.func41, Tryd.ntmps41
    go_wp2
    go_quiet (fail)
    go_wp2
    go_quiet (fail)
    go_wp2
    go_ret
    exact ⟨ret_int (by rw [HG.out]; simp), drewN_below (below_box _ _) _⟩
  · obtain ⟨p1, p2⟩ := mul_bd6 (a := (x : Int) / 7 + 1) (b := (y : Int) / 7 + 1) (by omega) (by omega) (by omega) (by omega)
    obtain ⟨p3, p4⟩ := mul_bd6 (a := (x : Int) / 7 + 1) (b := (y : Int) % 7) (by omega) (by omega) (by omega) (by omega)
    unfold gv
    go_enter Tryd.func41, Tryd.ntmps41
    go_wp2
    go_quiet (fail)
    go_wp2
    go_quiet (fail)
    go_wp2
    go_ret
    exact ⟨ret_int (by rw [HG.out]; simp), drewN_below (below_box _ _) _⟩

/-- The product, whatever the group. -/
theorem l05Times_any (k p x y : Nat) (w : World) (h : gOk k p = true) (hx : x < gOrd k p) (hy : y < gOrd k p) :
    Calls Tryd.prog 41 #[gv k p, .int .i64 x, .int .i64 y] w fun e w' => e = .returned (.int .i64 (gMul k p x y : Nat)) ∧ Below w.heap.size w w' := by
  match k, h, hx, hy with
  | 0, h, hx, hy => exact l05Times_0 p x y w h hx hy
  | 1, h, hx, hy => exact l05Times_1 p x y w h hx hy
  | 2, h, hx, hy => exact l05Times_2 p x y w h hx hy
  | k + 3, h, _, _ => simp [gOk] at h
end Go.Proofs.YtklgimikdnokcaaDoor
