/-
  spec.l04Tuple.
-/
import Derived.Test.YtbfdhnecadgfdaaDoorUn
namespace Go.Proofs.YtbfdhnecadgfdaaDoor
set_option maxRecDepth 100000
open Go.RowKit

/-- The digits of at, k of them, the last j of which have been laid. -/
def digJ (k q a j : Nat) : List Int := (List.range k).map fun p => if k - j ≤ p then ((a / q ^ (k - 1 - p) % q : Nat) : Int) else 0
theorem digJ_length (k q a j : Nat) : (digJ k q a j).length = k := by simp [digJ]
theorem digJ_zero (k q a : Nat) : digJ k q a 0 = List.replicate k 0 := by
  unfold digJ
  rw [List.eq_replicate_iff]
  refine ⟨by simp, fun x hx => ?_⟩
  obtain ⟨p, hp, rfl⟩ := List.mem_map.1 hx
  have := List.mem_range.1 hp
  rw [if_neg (by omega)]
theorem digJ_succ (k q a j : Nat) (h : j < k) : (digJ k q a j).set (k - 1 - j) ((a / q ^ j % q : Nat) : Int) = digJ k q a (j + 1) := by
  apply List.ext_getElem?
  intro p
  by_cases hp : p = k - 1 - j
  · subst hp
    rw [List.getElem?_set_self (by rw [digJ_length]; omega)]
    have h1 : k - 1 - (k - 1 - j) = j := by omega
    simp [digJ, h1, show k - 1 - j < k by omega]
    intro h3
    omega
  · rw [List.getElem?_set_ne (fun e => hp e.symm)]
    by_cases hl : p < k
    · have : (k - j ≤ p) ↔ (k - (j + 1) ≤ p) := by omega
      simp only [digJ, List.getElem?_map, List.getElem?_range hl, Option.map_some, this]
    · rw [List.getElem?_eq_none (by rw [digJ_length]; omega), List.getElem?_eq_none (by rw [digJ_length]; omega)]

set_option maxHeartbeats 1600000 in
set_option maxRecDepth 100000 in
theorem tuple_any (k q a : Nat) (w : World) (hk : k ≤ 4) (hq1 : 1 ≤ q) (hq : q ≤ 7) (ha : a ≤ 3000) :
    Calls Tryd.prog 50 #[.int .i64 k, .int .i64 q, .int .i64 a] w fun e w' => e = .returned (.slice (some ⟨w.heap.size, 0, none⟩) k k) ∧ Blk w' w.heap.size (digJ k q a k) ∧ Below w.heap.size w w' := by
  have hmk := run_mkInts k (by omega) w
  have HB0 : Hid (Blk (w.alloc (.cells (intsA (List.replicate k 0)) 2)) w.heap.size (digJ k q a 0)) := by show Blk _ _ _; rw [digJ_zero]; exact Blk.new w _
  have D0 : Below w.heap.size w (w.alloc (.cells (intsA (List.replicate k 0)) 2)) := (Below.refl _ _).alloc (Nat.le_refl _) _
  go_enter Tryd.func50, Tryd.ntmps50
  go_wp2_with fail
  clear hmk
  go_loopw [2, 8] (fun s i wr => ∃ j : Nat, j ≤ k ∧ i = .int .i64 ((k : Int) - 1 - j) ∧ (∃ z : Nat, s = .int .i64 z ∧ Hid (z = a / q ^ j) ∧ z ≤ 3000) ∧ Hid (Blk wr w.heap.size (digJ k q a j)) ∧ Below w.heap.size w wr) (fun _ i _ => (intOf i + 1).toNat)
  case atStart => exact ⟨0, Nat.zero_le _, by go_num, ⟨a, rfl, by show _ = _; simp, ha⟩, HB0, D0⟩
  case round =>
    obtain ⟨j, hj, rfl, ⟨z, rfl, HZ, hz⟩, HB, hE⟩ := hrel
    by_cases hlt : j < k
    · obtain ⟨p, hp⟩ : ∃ p : Nat, p = k - 1 - j := ⟨_, rfl⟩
      have hpi : (k : Int) - 1 - j = (p : Int) := by omega
      have hpk : p < k := by omega
      have hf := HB.out.frozen p
      have hc := HB.out.cell (i := p) (by rw [digJ_length]; exact hpk)
      have hp0 : (0 : Int) ≤ p := by omega
      have hpk' : (p : Int) < k := by omega
      have m1 := Int.emod_nonneg (z : Int) (b := (q : Int)) (by omega)
      have m2 := Int.emod_lt_of_pos (z : Int) (b := (q : Int)) (by omega)
      have d1 : 0 ≤ (z : Int) / (q : Int) ∧ (z : Int) / (q : Int) ≤ 3000 :=
        ⟨Int.ediv_nonneg (Int.natCast_nonneg _) (Int.natCast_nonneg _), Int.le_trans (Int.ediv_le_self _ (Int.natCast_nonneg _)) (by omega)⟩
      have HD : Hid ((z : Int) % (q : Int) = ((a / q ^ j % q : Nat) : Int)) := by show _ = _; rw [← HZ.out]; simp
      have HD2 : Hid ((z : Int) / (q : Int) = ((z / q : Nat) : Int)) := by show _ = _; simp
      have HZ2 : Hid (z / q = a / q ^ (j + 1)) := by show _ = _; rw [HZ.out, Nat.div_div_eq_div_mul, Nat.pow_succ]
      have HP := Lib.hid hp
      rw [hpi]
      have HPI := Lib.hid hpi
      clear hpi hp
      go_wp2_with fail
      have HB2 : Hid (Blk (wr.setCell ⟨w.heap.size, p, none⟩ (.int .i64 ((z : Int) % (q : Int)))) w.heap.size (digJ k q a (j + 1))) := by
        show Blk _ _ _
        rw [← digJ_succ k q a j hlt, HD.out, ← HP.out]
        exact HB.out.set p _
      have hE2 : Below w.heap.size w (wr.setCell ⟨w.heap.size, p, none⟩ (.int .i64 ((z : Int) % (q : Int)))) := hE.setCell (p := ⟨w.heap.size, p, none⟩) (Nat.le_refl _) _
      have hzz : z / q ≤ 3000 := Nat.le_trans (Nat.div_le_self _ _) hz
      have hpj := HPI.out
      go_roundw
      case rel => exact ⟨j + 1, by omega, by rw [show (p : Int) - 1 = (k : Int) - 1 - ((j + 1 : Nat) : Int) by omega], ⟨z / q, by rw [HD2.out], HZ2, hzz⟩, HB2, hE2⟩
      case measure => simp [intOf]
    · obtain rfl : j = k := by omega
      go_wp2_with fail
      go_ret
      exact ⟨rfl, HB.out, hE⟩
end Go.Proofs.YtbfdhnecadgfdaaDoor
