/-
  spec.l08Arcs, spec.ArcsOf. (gen/mk_ap8.py, of Es7)
-/
import Derived.Test.YtabkfihhfkmioaaDoorAo8
namespace Go.Proofs.YtabkfihhfkmioaaDoor
set_option maxRecDepth 100000
set_option maxRecDepth 100000
open Go.RowKit

theorem ao_sizes (n : Int) (zs : List Int) : (AoL n zs).length ≤ 4000 ∧ ∀ i, i < (AoL n zs).length → (elS (AoL n zs) i).length ≤ 62 := by
  unfold AoL
  cases h : isD n zs with
  | true =>
    rw [if_pos rfl]
    have h0 := (dg_ok h).le
    have h1 := acP_len zs zs.length
    refine ⟨by unfold ArLL; rw [List.length_map]; omega, fun i hi => ?_⟩
    unfold ArLL at hi ⊢
    rw [List.length_map] at hi
    have e : elS ((acP zs zs.length).map prI) i = prI ((acP zs zs.length)[i]) := by simp [elS, hi]
    rw [e]; simp [prI]
  | false => exact ⟨by simp, fun i hi => by simp at hi⟩
end Go.Proofs.YtabkfihhfkmioaaDoor
