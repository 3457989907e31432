/-
  A group that came in, opened. (A plain seat.)
-/
import Derived.Test.YtpknelbgooebcaaPg
import Derived.ProofKit
import Derived.OpenShut
import Derived.ChangeOld
import Derived.Deep.DeepHandedRow
import Derived.Lib.SmallJoins
import Derived.Test.YtpknelbgooebcaaOpL
namespace Go.Proofs.Ytpknelbgooebcaa
open Go.ChangeShapes Go.WideShapes Go.ChangeAt Go.RowKit

theorem cellsGr : Try.prog.cellsOf 23 = 2 := by kernel_rfl

/-- A group value that came in, opened. -/
theorem open_grp {H : Type} {enc : TypeId × Value → H} {W : World} {base : Nat} {v : Value} {d : DataW H} {p : List MemPlace} (hv : Value.okWide Try.prog W .any base 23 v)
    (h : DataW.Trod enc Try.prog W 0 (fun _ => true) true 23 v d p) : ∃ a b : Int, v = .agg #[.int .i64 a, .int .i64 b] := by
  obtain ⟨c0, c1, y0, y1, f, rfl, rfl, rfl, hy0, hy1⟩ := Joins.open_agg2 Try.underlying23 (by kernel_rfl) cellsGr hv h
  obtain ⟨n, e0, _⟩ := DataW.trod_int Try.underlying2 hy0
  obtain ⟨m, e1, _⟩ := DataW.trod_int Try.underlying2 hy1
  simp at e0 e1
  subst e0; subst e1
  exact ⟨n, m, rfl⟩
end Go.Proofs.Ytpknelbgooebcaa
