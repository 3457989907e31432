/-
  A group and elements, where the code is 0.
-/
import Derived.Test.YtklgimikdnokcaaDoorGe
namespace Go.Proofs.YtklgimikdnokcaaDoor
set_option maxRecDepth 100000

theorem elC_zero {a b : Int} {zs : List Int} (h : elC a b zs = 0) : ∃ k p : Nat, a = k ∧ b = p ∧ gOk k p = true ∧ elOk (gOrd k p) zs zs.length = true := by
  cases hi : isGr a b
  · rw [elC_no zs hi] at h; cases h
  · obtain ⟨k, p, rfl, rfl, hg⟩ := isGr_nat hi
    cases he : elOk (gOrd k p) zs zs.length
    · rw [elC_bad hg he] at h; cases h
    · exact ⟨k, p, rfl, rfl, hg, he⟩
end Go.Proofs.YtklgimikdnokcaaDoor
