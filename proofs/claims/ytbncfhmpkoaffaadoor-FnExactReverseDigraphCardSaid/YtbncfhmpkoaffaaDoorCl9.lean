/-
  slices.Clone and impl.copyOf.
-/
import Derived.Test.YtbncfhmpkoaffaaDoorCoS
import Derived.OwnWalk
import Derived.Maps.AppendAt
import Derived.Deep.RegionWith
import Derived.Deep.DeepCutAuto
namespace Go.Proofs.YtbncfhmpkoaffaaDoor
set_option maxRecDepth 100000
set_option maxRecDepth 100000
open Go.RowKit

/-- What Clone leaves. -/
def ClonedT (w : World) (L : List Int) (e : Ending) (w' : World) : Prop := ∃ u, e = .returned u ∧ Own w' w.heap.size u L
set_option maxHeartbeats 800000 in
theorem cloneT_some (b off cap : Nat) (zs : List Int) (w : World) (hb : b < w.heap.size) (hc : Cells w b off zs) (hl : zs.length ≤ 62) :
    Calls Tryd.prog 54 #[.slice (some ⟨b, off, none⟩) zs.length cap] w fun e w' => ClonedT w zs e w' ∧ Below w.heap.size w w' := by
  have hq := fun W => Lib.run_eql_slice_nil (P := Tryd.prog) W 22 2 (some ⟨b, off, none⟩) zs.length cap 0 0 Tryd.underlying22
  obtain ⟨i0, hi, hz0, hz1, hz2⟩ := info_parts mk_info
  have HI := Lib.hid hi; have HI0 := Lib.hid hz0; have HI1 := Lib.hid hz1; have HI2 := Lib.hid hz2
  clear hi hz0 hz1 hz2
  have D0 : Below w.heap.size w (w.alloc (.cells #[] 2)) := (Below.refl _ _).alloc (Nat.le_refl _) _
  have hnil : (w.alloc (.cells #[] 2)).ownsRow w.heap.size 2 1 (.slice (some ⟨w.heap.size, 0, none⟩) 0 0) 0 [] := World.ownsRow_made w #[] 0 (base := w.heap.size) (e := 2) (size := 1) (Nat.le_refl _) (by decide) rfl
  have hcc := Lib.hid (hc.below D0 hb)
  have hnews : ∀ j u, (zs.map (Value.int .i64))[j]? = some u → (w.alloc (.cells #[] 2)).cell? ((⟨b, off, none⟩ : Addr).add j) = some u := by
    intro j u hj
    have hjl : j < zs.length := by
      have := (List.getElem?_eq_some_iff.1 hj).1
      simpa using this
    rw [map_at zs j hjl] at hj
    cases hj
    have hz := hcc.out j hjl
    simp only [Addr.add]
    split
    · rename_i h0; subst h0; simpa using hz
    · exact hz
  have HN := Lib.hid hnews
  have HW := Lib.hid hnil
  clear hnews hnil hc
  go_enter Tryd.func54, Tryd.ntmps54
  go_wp2_with (at_builtin; refine wpList_append_own _ rfl _ _ 22 rfl w.heap.size 2 i0 (.int .i64 0) 1 8 Tryd.underlying22 HI.out HI0.out HI1.out HI2.out rfl (by decide) _ _ _ rfl HW.out ⟨b, off, none⟩ zs.length cap (zs.map (Value.int .i64)) rfl (by simp) HN.out (by simp [Value.oneCell']) (by unfold maxLen; omega) (by omega) (by simp) ?_; intro u' w3 hown3 hgr3 _)
  have E3 := D0.grown hgr3 (by simp) (fun k e => (World.ownsRow.lt HW.out k e).1)
  have HO : Hid (Own w3 w.heap.size u' zs) := by
    show World.ownsRow _ _ _ _ _ _ _
    rw [Nat.zero_add, List.nil_append] at hown3
    exact hown3
  clear hown3 hgr3
  go_wp2
  go_ret
  exact ⟨⟨_, rfl, HO.out⟩, E3⟩

theorem own_some8 {w : World} {B : Nat} {u : Value} {L : List Int} {m : Nat} (h : Own w B u L) (hl : L.length = m) (hm : 0 < m) : ∃ g cap, u = .slice (some ⟨g, 0, none⟩) m cap ∧ B ≤ g ∧ g < w.heap.size := by
  subst hl
  rcases h.form with ⟨_, h0⟩ | ⟨g, cap, h1, h2, h3⟩
  · rw [h0] at hm; cases hm
  · exact ⟨g, cap, h1, h2, h3⟩
theorem own_cells8 {w : World} {B g cap m : Nat} {L : List Int} (h : Own w B (.slice (some ⟨g, 0, none⟩) m cap) L) (hl : L.length = m) : Cells w g 0 L := fun i hi => by
  subst hl
  rw [Nat.zero_add]
  exact (World.ownsRow.cellAt h i (by simpa using hi)).trans (map_at L i hi)

theorem form9 {w : World} {B : Nat} {u : Value} {L : List Int} (h : Own w B u L) : ∃ a l c, u = .slice a l c := by
  rcases h.form with ⟨rfl, _⟩ | ⟨g, cap, rfl, _⟩
  · exact ⟨_, _, _, rfl⟩
  · exact ⟨_, _, _, rfl⟩

end Go.Proofs.YtbncfhmpkoaffaaDoor
