/-
  spec.l05Inverse.
-/
import Derived.Test.YtklgimikdnokcaaDoorGt
namespace Go.Proofs.YtklgimikdnokcaaDoor
set_option maxRecDepth 100000
open Go.RowKit

set_option maxHeartbeats 1600000 in
theorem l05Inverse_any (k p x : Nat) (w : World) (h : gOk k p = true) (hx : x < gOrd k p) :
    Calls Tryd.prog 52 #[gv k p, .int .i64 x] w fun e w' => e = .returned (.int .i64 (gQuo k p 0 x : Nat)) ∧ Below w.heap.size w w' := by
  have D0 : Below w.heap.size w (w.alloc (.cells #[.int .i64 k, .int .i64 p] 27)) := (Below.refl _ _).alloc (Nat.le_refl _) _
  have HB0 := Lib.hid (World.alloc_heap_new w (.cells #[.int .i64 k, .int .i64 p] 27))
  have hq := gInv_lt h hx
  have ho := gOrd_le h
  have HT := Lib.hid (fun y W (hy : y < gOrd k p) => l05Times_any k p x y W h hx hy)
  have HM := Lib.hid (gInv_mul h hx)
  have HL := Lib.hid (fun y (hy : y < gQuo k p 0 x) => gInv_least h hx hy)
  obtain ⟨q, hqq⟩ : ∃ q, q = gQuo k p 0 x := ⟨_, rfl⟩
  obtain ⟨m, hm⟩ : ∃ m, m = gOrd k p := ⟨_, rfl⟩
  rw [← hqq] at hq HM HL ⊢
  rw [← hm] at hq ho HT
  clear hqq hm h hx
  simp only [gv] at *
  go_enter Tryd.func52, Tryd.ntmps52
  go_wp2_with fail
  go_loopw [5] (fun i wr => ∃ y : Nat, y ≤ q ∧ i = .int .i64 y ∧ Below (w.heap.size + 1) (w.alloc (.cells #[.int .i64 k, .int .i64 p] 27)) wr ∧ w.heap.size + 1 ≤ wr.heap.size) (fun i _ => q - (intOf i).toNat)
  case atStart => exact ⟨0, Nat.zero_le _, rfl, Below.refl _ _, by simp⟩
  case round =>
    obtain ⟨y, hy, rfl, hE, hs⟩ := hrel
    obtain ⟨r0, r1, -, -⟩ := two_cells ((hE.block w.heap.size (by omega)).trans HB0.out)
    have hT := HT.out y wr (by omega)
    by_cases hlt : y < q
    · have e0 : (((gMul k p x y : Nat) : Int) == 0) = false := by
        rw [beq_eq_false_iff_ne]
        intro e
        exact HL.out y hlt (by omega)
      go_wp2_with fail
      refine hT.mono ?_
      rintro e w1 ⟨rfl, hb⟩
      have hE1 := hE.trans (hb.mono (by omega))
      have s1 := Nat.le_trans hs hb.size
      clear hE hb hT r0 r1
      go_wp2_with fail
      go_roundw
      case rel => exact ⟨y + 1, by omega, by go_num, hE1, s1⟩
      case measure => simp [intOf]; omega
    · obtain rfl : y = q := by omega
      rw [HM.out] at hT
      go_wp2_with fail
      refine hT.mono ?_
      rintro e w1 ⟨rfl, hb⟩
      have hE1 := hE.trans (hb.mono (by omega))
      clear hE hb hT r0 r1
      go_wp2_with fail
      go_ret
      exact ⟨rfl, D0.trans (hE1.mono (by omega))⟩

end Go.Proofs.YtklgimikdnokcaaDoor
