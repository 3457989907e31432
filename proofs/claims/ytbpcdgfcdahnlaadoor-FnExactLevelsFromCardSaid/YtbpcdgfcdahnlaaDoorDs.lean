/-
  spec.DistancesFrom.
-/
import Derived.Test.YtbpcdgfcdahnlaaDoorFr
namespace Go.Proofs.YtbpcdgfcdahnlaaDoor
set_option maxRecDepth 100000
open Go.RowKit

/-- The list f of a vertex of a graph, none where there is no such vertex. -/
def g1L (f : List Int → Nat → List Int) (n : Int) (zs : List Int) (x : Int) : List Int := if isG n zs && (decide (0 ≤ x) && decide (x ≤ n - 1)) then f zs x.toNat else []
theorem from_n (n : Int) (b off cap : Nat) (zs : List Int) (v : Nat) (w : World) (hb : b < w.heap.size) (hc : Cells w b off zs) (hg : isG n zs = true) (hv : v < zs.length) :
    Calls Tryd.prog 71 #[.agg #[.int .i64 n, .slice (some ⟨b, off, none⟩) zs.length cap], .int .i64 v, .int .i64 (-1), .int .i64 (-1)] w fun e w' => ∃ u, e = .returned u ∧ Own w' w.heap.size u (dsL zs v) ∧ Below w.heap.size w w' := by
  obtain rfl : (zs.length : Int) = n := (isG_parts hg).2.2.1
  exact from_some b off cap zs v w hb hc hg hv

end Go.Proofs.YtbpcdgfcdahnlaaDoor
