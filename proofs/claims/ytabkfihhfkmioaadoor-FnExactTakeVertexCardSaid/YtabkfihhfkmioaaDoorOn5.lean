/-
  spec.PartOn: its answer, whatever comes in.
-/
import Derived.Test.YtabkfihhfkmioaaDoorOn4
import Derived.BigQuiet
import Derived.Deep.QuietTactic
namespace Go.Proofs.YtabkfihhfkmioaaDoor
set_option maxRecDepth 100000
open Go.RowKit

set_option maxHeartbeats 1600000 in
theorem verts_nil (n : Int) (v : Value) (zs : List Int) (a : Option Addr) (c : Nat) (w : World) (h : Sl w v zs) (hg : isG n zs = true) (hl : zs.length ≤ 9223372036854775807) :
    Calls Tryd.prog 51 #[.agg #[.int .i64 n, v], .slice a 0 c] w fun e w' => e = .returned (.int .i64 0) ∧ Below w.heap.size w w' := by
  have D0 : Below w.heap.size w (w.alloc (.cells #[.int .i64 n, v] 26)) := (Below.refl _ _).alloc (Nat.le_refl _) _
  have his := l01Is_any n v zs _ (h.below D0) hl
  rw [hg] at his
  clear hg h
  go_enter Tryd.func51, Tryd.ntmps51
  go_wp2_with (go_at_call 78; refine his.mono ?_; rintro e w1 ⟨rfl, hb1⟩)
  have E1 : Below w.heap.size w w1 := D0.trans (hb1.mono (by simp))
  clear hb1 his
  go_loopw [5] (fun i wr => i = .int .i64 0 ∧ Below w1.heap.size w1 wr) (fun i _ => 0)
  case atStart => exact ⟨rfl, Below.refl _ _⟩
  case round =>
    obtain ⟨rfl, hB⟩ := hrel
    go_wp2
    go_ret
    exact ⟨rfl, E1.trans (hB.mono E1.size)⟩

/-- The code of a graph and a list of vertices. -/
def VC (n : Int) (zs vs : List Int) : Int := if isG n zs then vc n vs else 1
theorem verts_any (n : Int) (v u : Value) (zs vs : List Int) (w : World) (h : Sl w v zs) (h2 : Sl w u vs) (hl : zs.length ≤ 9223372036854775807) (hl2 : vs.length ≤ 1048576) :
    Calls Tryd.prog 51 #[.agg #[.int .i64 n, v], u] w fun e w' => e = .returned (.int .i64 (VC n zs vs)) ∧ Below w.heap.size w w' := by
  unfold VC
  cases hg : isG n zs
  · exact verts_no n v u zs w h hg hl
  · rcases h2 with ⟨a, c, rfl, rfl⟩ | ⟨b2, off2, cap2, rfl, hb2, hc2⟩
    · exact verts_nil n v zs a c w h hg hl
    · obtain ⟨p1, _, p3, _⟩ := isG_parts hg
      obtain ⟨b, off, cap, rfl, hb, hc⟩ := sl_some h (by omega)
      exact verts_some n b off cap zs b2 off2 cap2 vs w hb hc hb2 hc2 hg hl (by omega)

theorem asc_vs {n : Int} {vs : List Int} (h : ascTo n vs vs.length = true) : vsOk n vs vs.length = true := by
  unfold vsOk
  rw [List.all_eq_true]
  intro i hi
  rw [List.mem_range] at hi
  have h1 := ascTo_ge h i hi
  have h2 := (ascTo_at h hi).2
  simp
  omega
theorem asc_of {n : Int} {vs : List Int} (h : vsOk n vs vs.length = true) (hi : ∀ j, j + 1 < vs.length → el vs j < el vs (j + 1)) : ascTo n vs vs.length = true := by
  unfold vsOk at h
  unfold ascTo
  rw [List.all_eq_true] at h ⊢
  intro i him
  have h1 := h i him
  rw [List.mem_range] at him
  simp at h1 ⊢
  refine ⟨?_, by omega⟩
  cases i with
  | zero => exact h1.1
  | succ j => have := hi j him; rw [ascB]; omega
theorem asc_not {n : Int} {vs : List Int} {j : Nat} (hj : j + 1 < vs.length) (h : ¬ el vs j < el vs (j + 1)) : ascTo n vs vs.length = false :=
  ascTo_no hj (fun h' => by have := h'.1; rw [ascB] at this; omega)

end Go.Proofs.YtabkfihhfkmioaaDoor
