/-
  slices.Clone and impl.copyOf.
-/
import Derived.Test.YtehpafbhejcbmaaDoorCoS
import Derived.OwnWalk
import Derived.Maps.AppendAt
import Derived.Deep.RegionWith
import Derived.Deep.DeepCutAuto
namespace Go.Proofs.YtehpafbhejcbmaaDoor
set_option maxRecDepth 100000
set_option maxRecDepth 100000
open Go.RowKit

/-- What Clone leaves. -/
def ClonedT (w : World) (L : List Int) (e : Ending) (w' : World) : Prop := ∃ u, e = .returned u ∧ Own w' w.heap.size u L
theorem own_some8 {w : World} {B : Nat} {u : Value} {L : List Int} {m : Nat} (h : Own w B u L) (hl : L.length = m) (hm : 0 < m) : ∃ g cap, u = .slice (some ⟨g, 0, none⟩) m cap ∧ B ≤ g ∧ g < w.heap.size := by
  subst hl
  rcases h.form with ⟨_, h0⟩ | ⟨g, cap, h1, h2, h3⟩
  · rw [h0] at hm; cases hm
  · exact ⟨g, cap, h1, h2, h3⟩
theorem own_cells8 {w : World} {B g cap m : Nat} {L : List Int} (h : Own w B (.slice (some ⟨g, 0, none⟩) m cap) L) (hl : L.length = m) : Cells w g 0 L := fun i hi => by
  subst hl
  rw [Nat.zero_add]
  exact (World.ownsRow.cellAt h i (by simpa using hi)).trans (map_at L i hi)

theorem form9 {w : World} {B : Nat} {u : Value} {L : List Int} (h : Own w B u L) : ∃ a l c, u = .slice a l c := by
  rcases h.form with ⟨rfl, _⟩ | ⟨g, cap, rfl, _⟩
  · exact ⟨_, _, _, rfl⟩
  · exact ⟨_, _, _, rfl⟩

end Go.Proofs.YtehpafbhejcbmaaDoor
