/-
  spec.l07Fill.
-/
import Derived.Test.YtehpafbhejcbmaaDoorFi7
namespace Go.Proofs.YtehpafbhejcbmaaDoor
set_option maxRecDepth 100000
set_option maxRecDepth 100000
open Go.RowKit

theorem isG_le {n : Int} {zs : List Int} (hg : isG n zs = true) {i : Nat} (hi : i < zs.length) : 0 ≤ el zs i ∧ el zs i ≤ 2 ^ zs.length - 1 := by
  obtain ⟨h1, h2, h3, h4, -⟩ := isG_iff.1 hg
  obtain ⟨a, b, -⟩ := h4 i hi
  have e : ((2 : Int) ^ zs.length) = ((2 ^ zs.length : Nat) : Int) := by simp
  rw [e]; omega

end Go.Proofs.YtehpafbhejcbmaaDoor
