/-
  The part of a graph on vertices: plain facts; impl.areAscending.
-/
import Derived.Test.YtbacocldjcenjaaDoorPe7
namespace Go.Proofs.YtbacocldjcenjaaDoor
set_option maxRecDepth 100000
open Go.RowKit

theorem ext_el {L M : List Int} (hl : L.length = M.length) (h : ∀ a, a < L.length → el L a = el M a) : L = M := by
  apply List.ext_getElem hl
  intro i h1 h2
  have := h i h1
  rw [el_lt h1, el_lt h2] at this
  exact this

end Go.Proofs.YtbacocldjcenjaaDoor
