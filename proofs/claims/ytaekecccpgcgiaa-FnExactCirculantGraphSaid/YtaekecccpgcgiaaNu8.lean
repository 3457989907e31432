/-
  impl.isNumberUpTo. (Any seat with a Prog.)
-/
import Derived.Test.YtaekecccpgcgiaaProg
import Derived.WalkSpells
import Derived.WalkLawsBesides
import Derived.Lib.Hide
namespace Go.Proofs.Ytaekecccpgcgiaa
set_option maxRecDepth 100000
set_option maxRecDepth 100000
open Go.RowKit

set_option maxHeartbeats 400000 in
theorem upTo_val (g x : Int) (w : World) (r : Bool) (h : (decide (1 ≤ x) && decide (x ≤ g)) = r) :
    Calls Try.prog 31 #[.int .i64 g, .int .i64 x] w fun e w' => e = .returned (.bool r) ∧ w = w' := by
  subst h
  by_cases h : 1 ≤ x
  · have h' : decide (1 ≤ x) = true := by simpa using h
    have h2 : (decide (1 ≤ x) && decide (x ≤ g)) = decide (x ≤ g) := by rw [h']; rfl
    rw [h2]; clear h2
    go_enter Try.func31, Try.ntmps31
    go_wp2
    go_ret
    exact ⟨rfl, rfl⟩
  · have h' : decide (1 ≤ x) = false := by simpa using h
    have h2 : (decide (1 ≤ x) && decide (x ≤ g)) = false := by rw [h']; rfl
    rw [h2]; clear h2
    go_enter Try.func31, Try.ntmps31
    go_wp2
    go_ret
    exact ⟨rfl, rfl⟩
end Go.Proofs.Ytaekecccpgcgiaa
