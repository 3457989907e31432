/-
  Contracts of the small number functions that the laws of chapter 1 come to.
-/
import Derived.Test.YtbacocldjcenjaaDoorProg
import Derived.Test.YtbacocldjcenjaaDoorMath
import Derived.WalkSpells
import Derived.WalkLawsBesides
import Derived.BigQuiet
import Derived.Deep.QuietTactic
namespace Go.Proofs.YtbacocldjcenjaaDoor
set_option maxRecDepth 100000
open Go.RowKit

theorem ret_bool {a b : Bool} (h : a = b) : Ending.returned (.bool a) = .returned (.bool b) := by rw [h]
theorem ret_int {k : IntKind} {a b : Int} (h : a = b) : Ending.returned (.int k a) = .returned (.int k b) := by rw [h]

set_option maxHeartbeats 400000 in
theorem in_any (a b c : Int) (w : World) :
    Calls Tryd.prog 17 #[.int .i64 a, .int .i64 b, .int .i64 c] w fun e w' => e = .returned (.bool (decide (b ≤ a) && decide (a ≤ c))) ∧ w = w' := by
  by_cases h : b ≤ a
  · have h' : decide (b ≤ a) = true := by simpa using h
    have h2 : (decide (b ≤ a) && decide (a ≤ c)) = decide (a ≤ c) := by rw [h']; rfl
    rw [h2]; clear h2
    go_enter Tryd.func17, Tryd.ntmps17
    go_wp2
    go_ret
    exact ⟨rfl, rfl⟩
  · have h' : decide (b ≤ a) = false := by simpa using h
    have h2 : (decide (b ≤ a) && decide (a ≤ c)) = false := by rw [h']; rfl
    rw [h2]; clear h2
    go_enter Tryd.func17, Tryd.ntmps17
    go_wp2
    go_ret
    exact ⟨rfl, rfl⟩

set_option maxHeartbeats 400000 in
theorem allV_any (n : Int) (w : World) (h0 : 0 ≤ n) (h1 : n ≤ 62) :
    Calls Tryd.prog 28 #[.int .i64 n] w fun e w' => e = .returned (.int .i64 (2 ^ n.toNat - 1)) ∧ w = w' := by
  obtain ⟨p1, p2⟩ := pow_bounds n.toNat (by omega)
  go_enter Tryd.func28, Tryd.ntmps28
  go_wp2
  go_ret
  exact ⟨rfl, rfl⟩

set_option maxHeartbeats 400000 in
theorem has_any (n : Int) (b off len cap : Nat) (z : Int) (a c : Int) (w : World) (hb : b < w.heap.size) (hc : w.cell? ⟨b, off + a.toNat, none⟩ = some (.int .i64 z)) (ha0 : 0 ≤ a) (ha : a < len) (hc0 : 0 ≤ c) (hc1 : c < 62) (hz0 : 0 ≤ z) (hz1 : z ≤ 9223372036854775807) (r : Bool) (hr : bt z c.toNat = r) :
    Calls Tryd.prog 19 #[.agg #[.int .i64 n, .slice (some ⟨b, off, none⟩) len cap], .int .i64 a, .int .i64 c] w fun e w' => e = .returned (.bool r) ∧ Below w.heap.size w w' := by
  have HS : Hid ((bits .and .i64 (z / 2 ^ c.toNat) 1 == 1) = r) := (shr_bit z c.toNat hz0 hz1).trans hr
  clear hr
  go_enter Tryd.func19, Tryd.ntmps19
  go_wp2
  go_ret
  exact ⟨ret_bool HS.out, (Below.refl _ _).alloc (Nat.le_refl _) _⟩
end Go.Proofs.YtbacocldjcenjaaDoor
