/-
  The closure of impl.TupleGraph.
-/
import Derived.Test.YtbfdhnecadgfdaaDoorUp
import Derived.Deep.RegionWith
namespace Go.Proofs.YtbfdhnecadgfdaaDoor
set_option maxRecDepth 100000
open Go.RowKit

/-- A list of tuples in memory: where each of its rows lies. -/
def TC (w : World) (g k : Nat) (T : List (List Int)) : Prop := ∀ i, i < T.length → ∃ b c, w.cell? ⟨g, i, none⟩ = some (.slice (some ⟨b, 0, none⟩) k c) ∧ b < w.heap.size ∧ Cells w b 0 (elS T i)
theorem TC.below {w w' : World} {g k : Nat} {T : List (List Int)} (h : TC w g k T) (hg : g < w.heap.size) (hb : Below w.heap.size w w') : TC w' g k T := fun i hi => by
  obtain ⟨b, c, h1, h2, h3⟩ := h i hi
  exact ⟨b, c, (hb.cell (p := ⟨g, i, none⟩) hg).trans h1, Nat.lt_of_lt_of_le h2 hb.size, h3.below hb h2⟩

set_option maxHeartbeats 1600000 in
theorem tupOn_any (q k g cap bq bp v x : Nat) (T : List (List Int)) (w : World) (hq : 2 ≤ q ∧ q ≤ 7) (hk : 2 ≤ k ∧ k ≤ 4) (hlen : ∀ i, i < T.length → (elS T i).length = k) (hbd : ∀ j i, 0 ≤ el (elS T j) i ∧ el (elS T j) i ≤ 6) (hv : v < T.length) (hx : x < T.length)
    (h1 : w.cell? ⟨bq, 0, none⟩ = some (.int .i64 q)) (h2 : w.cell? ⟨bp, 0, none⟩ = some (.slice (some ⟨g, 0, none⟩) T.length cap)) (hc : TC w g k T) :
    Calls Tryd.prog 55 #[.int .i64 v, .int .i64 x, .pointer (some ⟨bq, 0, none⟩), .pointer (some ⟨bp, 0, none⟩)] w fun e w' => e = .returned (.bool (joinT q (elS T v) (elS T x) (k - 1))) ∧ Below w.heap.size w w' := by
  obtain ⟨b, c, z1, z2, z3⟩ := hc v hv
  obtain ⟨b', c', y1, y2, y3⟩ := hc x hx
  have hcon := joined_any q k b c b' c' (elS T v) (elS T x) w.drew (by omega) hk (hlen v hv) (hlen x hx) (by simpa using z2) (by simpa using y2) (fun i hi => z3 i hi) (fun i hi => y3 i hi) (hbd v) (hbd x)
  have HC := Lib.hid hcon
  obtain ⟨n, hn⟩ : ∃ n, n = T.length := ⟨_, rfl⟩
  rw [← hn] at h2 hv hx
  have hv0 : (0 : Int) ≤ v := by omega
  have hx0 : (0 : Int) ≤ x := by omega
  have hv1 : (v : Int) < n := by omega
  have hx1 : (x : Int) < n := by omega
  clear hcon hc hlen hbd z2 z3 y2 y3 hn
  go_enter Tryd.func55, Tryd.ntmps55
  go_wp2_with fail
  go_region_with (go_at_call 56; refine HC.out.mono ?_; rintro e w3 ⟨rfl, hb3⟩; have HB3 : Hid (Below w.heap.size w w3) := ((Below.refl _ _).drew).trans hb3; clear hb3)
  all_goals
    go_wp2_with fail
    go_ret
    exact ⟨rfl, HB3.out⟩
end Go.Proofs.YtbfdhnecadgfdaaDoor
