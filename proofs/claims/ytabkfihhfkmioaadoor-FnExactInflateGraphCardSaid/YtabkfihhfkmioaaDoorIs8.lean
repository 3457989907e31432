/-
  When a digraph is one: spec.l08Is, spec.IsDigraph.
-/
import Derived.Test.YtabkfihhfkmioaaDoorMem
import Derived.Deep.RegionHeld3
import Derived.Deep.RegionWith
import Derived.Lib.Hide
namespace Go.Proofs.YtabkfihhfkmioaaDoor
set_option maxRecDepth 100000
set_option maxRecDepth 100000
open Go.RowKit

/-- A row of a digraph of n vertices. -/
def drB (n z : Int) : Bool := decide (0 ≤ z) && decide (z ≤ 2 ^ n.toNat - 1)
theorem drB_iff (n z : Int) : drB n z = true ↔ 0 ≤ z ∧ z ≤ 2 ^ n.toNat - 1 := by simp [drB]
def drTo (n : Int) (zs : List Int) (k : Nat) : Bool := (List.range k).all fun i => drB n (el zs i)
theorem drTo_succ (n : Int) (zs : List Int) (k : Nat) : drTo n zs (k + 1) = (drTo n zs k && drB n (el zs k)) := by simp [drTo, List.range_succ]
theorem drTo_at {n : Int} {zs : List Int} {k : Nat} (h : drTo n zs k = true) {i : Nat} (hi : i < k) : 0 ≤ el zs i ∧ el zs i ≤ 2 ^ n.toNat - 1 := by
  unfold drTo at h; rw [List.all_eq_true] at h
  exact (drB_iff _ _).1 (h i (List.mem_range.2 hi))
/-- When a size and rows are a digraph. -/
def isD (n : Int) (zs : List Int) : Bool := decide (1 ≤ n) && decide (n ≤ 62) && decide ((zs.length : Int) = n) && drTo n zs zs.length
theorem isD_row {n : Int} {zs : List Int} {k : Nat} (hk : k < zs.length) (h : drB n (el zs k) = false) : isD n zs = false := by
  cases e : isD n zs with
  | false => rfl
  | true =>
    unfold isD at e
    simp only [Bool.and_eq_true] at e
    rw [(drB_iff _ _).2 (drTo_at e.2 hk)] at h
    exact absurd h (by simp)
theorem isD_parts {n : Int} {zs : List Int} (h : isD n zs = true) : 1 ≤ n ∧ n ≤ 62 ∧ (zs.length : Int) = n ∧ drTo n zs zs.length = true := by
  unfold isD at h
  simpa [and_assoc] using h
theorem isD_mk {n : Int} {zs : List Int} (h1 : 1 ≤ n) (h2 : n ≤ 62) (h3 : (zs.length : Int) = n) (h4 : drTo n zs zs.length = true) : isD n zs = true := by
  unfold isD; simp [h1, h2, h3, h4]
theorem isD_far {n : Int} {zs : List Int} (h : ¬ (1 ≤ n ∧ n ≤ 62)) : isD n zs = false := by
  cases e : isD n zs with
  | false => rfl
  | true => obtain ⟨a, b, _⟩ := isD_parts e; exact absurd ⟨a, b⟩ h
theorem isD_len {n : Int} {zs : List Int} (h : ¬ (zs.length : Int) = n) : isD n zs = false := by
  cases e : isD n zs with
  | false => rfl
  | true => obtain ⟨_, _, a, _⟩ := isD_parts e; exact absurd a h
theorem GBox.newD {w : World} {n : Int} {b off cap : Nat} {zs : List Int} (hb : b < w.heap.size) (hc : Cells w b off zs) :
    GBox (w.alloc (.cells #[.int .i64 n, .slice (some ⟨b, off, none⟩) zs.length cap] 49)) w.heap.size n b off cap zs :=
  ⟨by simp, by simp, fun i hi => (World.cell?_alloc_lt _ _ _ hb).trans (hc i hi), Nat.le_of_lt hb, by simp⟩

theorem isD_nil (n : Int) : isD n [] = false := by
  cases e : isD n [] with
  | false => rfl
  | true => obtain ⟨a, _, b, _⟩ := isD_parts e; simp at b; omega

end Go.Proofs.YtabkfihhfkmioaaDoor
