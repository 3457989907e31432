/-
  impl.arcStep.mayPrecede, impl.rotatedRow, impl.sumsOneStepOn. (A plain seat of bases.)
-/
import Derived.Test.YthonkphjahomeaaWg0
import Derived.BigQuiet
import Derived.Deep.QuietTactic
import Derived.Deep.RegionHeld3
namespace Go.Proofs.Ythonkphjahomeaa
set_option maxRecDepth 100000
open Go.RowKit

set_option maxHeartbeats 800000 in
theorem leads_any (s a0 a1 a2 t c0 c1 c2 : Int) (w : World) :
    Calls Try.prog 26 #[.agg #[.int .i64 s, .int .i64 a0, .int .i64 a1, .int .i64 a2], .agg #[.int .i64 t, .int .i64 c0, .int .i64 c1, .int .i64 c2]] w fun e w' => e = .returned (.bool (decide (a1 = c0))) ∧ Below w.heap.size w w' := by
  have D0 : Below w.heap.size w ((w.alloc (.cells #[.int .i64 s, .int .i64 a0, .int .i64 a1, .int .i64 a2] 43)).alloc (.cells #[.int .i64 t, .int .i64 c0, .int .i64 c1, .int .i64 c2] 43)) := ((Below.refl _ _).alloc (Nat.le_refl _) _).alloc (by simp) _
  have HD := Lib.hid D0
  clear D0
  go_enter Try.func26, Try.ntmps26
  go_wp2
  go_ret
  exact ⟨ret_bool (by by_cases h : a1 = c0 <;> simp [h]), HD.out⟩

set_option maxHeartbeats 1600000 in
theorem mayP_any (s a0 a1 a2 t c0 c1 c2 : Nat) (w : World) (ht : t < 32) (r : Bool) (hr : r = ((a1 == c0) && (s != flp t))) :
    Calls Try.prog 23 #[.agg #[.int .i64 s, .int .i64 a0, .int .i64 a1, .int .i64 a2], .agg #[.int .i64 t, .int .i64 c0, .int .i64 c1, .int .i64 c2]] w fun e w' => e = .returned (.bool r) ∧ Below w.heap.size w w' := by
  obtain ⟨W, hW⟩ : ∃ W, W = ((w.alloc (.cells #[.int .i64 s, .int .i64 a0, .int .i64 a1, .int .i64 a2] 43)).alloc (.cells #[.int .i64 t, .int .i64 c0, .int .i64 c1, .int .i64 c2] 43)) := ⟨_, rfl⟩
  have D0 : Below w.heap.size w W := by rw [hW]; exact ((Below.refl _ _).alloc (Nat.le_refl _) _).alloc (by simp) _
  have XA : Hid (W.heap[w.heap.size]? = some (.cells #[.int .i64 s, .int .i64 a0, .int .i64 a1, .int .i64 a2] 43 (0, 0))) := by
    show _ = _; rw [hW]; exact heap_old_at (heap_new_at _ _ _ rfl) _
  have XB : Hid (W.heap[w.heap.size + 1]? = some (.cells #[.int .i64 t, .int .i64 c0, .int .i64 c1, .int .i64 c2] 43 (0, 0))) := by
    show _ = _; rw [hW]; exact heap_new_at _ _ _ (by simp)
  have HD := Lib.hid D0
  have l1 : w.heap.size + 1 < W.heap.size := (Array.getElem?_eq_some_iff.1 XB.out).1
  have hld := leads_any s a0 a1 a2 t c0 c1 c2 W
  obtain ⟨y0, y1, y2, y3⟩ := four_cells XA.out
  obtain ⟨z0, z1, z2, z3⟩ := four_cells XB.out
  clear D0
  by_cases h1 : a1 = c0
  · have hd : decide ((a1 : Int) = (c0 : Int)) = true := by simp; omega
    rw [hd] at hld
    have HR : Hid (r = (s != flp t)) := by show _ = _; rw [hr, beq_iff_eq.2 h1]; rfl
    clear hr hd
    subst h1
    go_enter Try.func23, Try.ntmps23
    go_upto_region 1 with fail
    rw [← hW]
    clear hW
    go_wp2_with (go_at_call 26; refine hld.mono ?_; rintro e w1 ⟨rfl, hb1⟩; obtain ⟨y0, y1, y2, y3⟩ := four_cells ((hb1.block w.heap.size (by omega)).trans XA.out); obtain ⟨z0, z1, z2, z3⟩ := four_cells ((hb1.block (w.heap.size + 1) l1).trans XB.out))
    go_ret
    refine ⟨ret_bool ?_, HD.out.trans (hb1.mono HD.out.size)⟩
    rw [HR.out, xor_one t ht]
    by_cases e : s = flp t
    · simp [e]
    · have e' : ¬ ((s : Int) = (flp t : Nat)) := by omega
      rw [bne_iff_ne.2 e, bne_iff_ne.2 e']
  · have hd : decide ((a1 : Int) = (c0 : Int)) = false := by simp; omega
    rw [hd] at hld
    have HR : Hid (r = false) := by show _ = _; rw [hr, beq_eq_false_iff_ne.2 h1]; rfl
    clear hr
    go_enter Try.func23, Try.ntmps23
    go_upto_region 1 with fail
    rw [← hW]
    clear hW
    go_wp2_with (go_at_call 26; refine hld.mono ?_; rintro e w1 ⟨rfl, hb1⟩)
    go_ret
    exact ⟨ret_bool HR.out.symm, HD.out.trans (hb1.mono HD.out.size)⟩

set_option maxHeartbeats 800000 in
theorem hasM_any (r : Nat) (b : Nat) (w : World) (hr : (r : Int) ≤ 9223372036854775807) (hb : b < 62) :
    Calls Try.prog 22 #[.int .i64 r, .int .i64 b] w fun e w' => e = .returned (.bool (r.testBit b)) ∧ w = w' := by
  have HS : Hid ((bits .and .i64 ((r : Int) / 2 ^ b) 1 == 1) = r.testBit b) := by
    have := shr_bit (r : Int) b (by omega) hr
    unfold bt at this
    rw [Int.toNat_natCast] at this
    exact this
  have hb0 : (0 : Int) ≤ b := by omega
  go_enter Try.func22, Try.ntmps22
  go_wp2
  go_ret
  exact ⟨ret_bool HS.out, rfl⟩

theorem allV_any (n : Int) (w : World) (h0 : 0 ≤ n) (h1 : n ≤ 62) :
    Calls Try.prog 28 #[.int .i64 n] w fun e w' => e = .returned (.int .i64 (2 ^ n.toNat - 1)) ∧ w = w' := by
  obtain ⟨p1, p2⟩ := pow_bounds n.toNat (by omega)
  go_enter Try.func28, Try.ntmps28
  go_wp2
  go_ret
  exact ⟨rfl, rfl⟩

set_option maxHeartbeats 1600000 in
theorem rot_any (m x c : Nat) (w : World) (hm : m ≤ 62) (hx : x < 2 ^ m) (hc : c < m) :
    Calls Try.prog 27 #[.int .i64 m, .int .i64 x, .int .i64 c] w fun e w' => e = .returned (.int .i64 (rotN m x c : Nat)) ∧ Below w.heap.size w w' := by
  have HA : ∀ W : World, Calls Try.prog 28 #[.int .i64 m] W fun e w' => e = .returned (.int .i64 ((2 ^ m - 1 : Nat) : Int)) ∧ W = w' := fun W => by
    have := allV_any m W (by omega) (by omega)
    have e : ((2 : Int) ^ m - 1) = ((2 ^ m - 1 : Nat) : Int) := by
      have h1 := Nat.two_pow_pos m
      have h2 : ((2 : Int) ^ m) = ((2 ^ m : Nat) : Int) := by push_cast; rfl
      omega
    rw [Int.toNat_natCast, e] at this
    exact this
  have HR := Lib.hid (rot_val (c := c) hx hm)
  have g1 : IntKind.i64.wrap ((m : Int) - (c : Int)) = ((m - c : Nat) : Int) := by rw [IntWalk.i64_in _ (by omega)]; omega
  obtain ⟨y, hy⟩ : ∃ y, y = x / 2 ^ (m - c) := ⟨_, rfl⟩
  have hdv : (x : Int) / 2 ^ (m - c) = (y : Int) := by rw [hy]; push_cast; rfl
  obtain ⟨d, hd⟩ : ∃ d, d = m - c := ⟨_, rfl⟩
  rw [← hy] at HR
  rw [← hd] at hdv g1
  have hd0 : (0 : Int) ≤ d := by omega
  have hd1 : (d : Int) ≤ 64 := by omega
  have hc0 : (0 : Int) ≤ c := by omega
  have hc1 : (c : Int) ≤ 64 := by omega
  clear hd hy
  have hM := Lib.hid hx
  clear hx
  go_enter Try.func27, Try.ntmps27
  go_wp2_with fail
  go_quiet ((go_at_call 28; exact qsame (HA _)))
  go_wp2_with fail
  go_ret
  exact ⟨ret_int (by have h := HR.out; rw [IntKind.wrap_i64] at h; unfold wrap64; exact h), drewN_below (Below.refl _ _) _⟩
end Go.Proofs.Ythonkphjahomeaa
