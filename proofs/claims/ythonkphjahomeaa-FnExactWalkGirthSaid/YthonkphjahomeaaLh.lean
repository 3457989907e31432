/-
  impl.LiftOf. (A plain seat of bases and graphs of pairs.)
-/
import Derived.Test.YthonkphjahomeaaLg
import Derived.Test.YthonkphjahomeaaMk
import Derived.RangeFuncWrites
namespace Go.Proofs.Ythonkphjahomeaa
set_option maxRecDepth 100000
open Go.RowKit Go.Shelf

attribute [local go_sem] Oper.semAt_some
attribute [local go_sem] wide_fn

theorem fin_vals (m : Nat) : (List.finRange m).map (fun x : Fin m => x.1) = List.range m := by
  apply List.ext_getElem <;> simp

/-- The lift's size, rows, and the code. -/
def LfN (n m : Int) (k : Nat) (fs : List Int) : Int := if isB n m k fs then ((n.toNat * m.toNat : Nat) : Int) else 0
def LfL (n m : Int) (k : Nat) (fs : List Int) : List Int := if isB n m k fs then rowsF (n.toNat * m.toNat) (adjS (lfS m.toNat fs k)) else []
def LfC (n m : Int) (k : Nat) (fs : List Int) : Int := if isB n m k fs then 0 else 1
theorem LfL_length (n m : Int) (k : Nat) (fs : List Int) : (LfL n m k fs).length ≤ 62 := by
  unfold LfL
  cases hg : isB n m k fs
  · simp
  · obtain ⟨N, M, rfl, rfl, _, _, _, _, h5, _⟩ := isB_nats hg
    simp only [if_true, rowsF_length, Int.toNat_natCast]; exact h5
end Go.Proofs.Ythonkphjahomeaa
