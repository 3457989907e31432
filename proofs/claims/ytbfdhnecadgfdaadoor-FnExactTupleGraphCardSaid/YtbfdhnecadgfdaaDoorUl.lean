/-
  The closure of impl.PlaneGraph.
-/
import Derived.Test.YtbfdhnecadgfdaaDoorUj
namespace Go.Proofs.YtbfdhnecadgfdaaDoor
set_option maxRecDepth 100000
open Go.RowKit Go.Maps Go.WideMaps Go.WideElems

set_option maxHeartbeats 1600000 in
theorem planeOn_any (q g cap bp bq v x : Nat) (P : List (List Int)) (w : World) (hq : 2 ≤ q ∧ q ≤ 7) (htri : ∀ i, i < P.length → Tri (elS P i)) (hv : v < P.length) (hx : x < P.length)
    (h1 : w.cell? ⟨bp, 0, none⟩ = some (.slice (some ⟨g, 0, none⟩) P.length cap)) (h2 : w.cell? ⟨bq, 0, none⟩ = some (.int .i64 q)) (hc : PC w g P) :
    Calls Tryd.prog 59 #[.int .i64 v, .int .i64 x, .pointer (some ⟨bp, 0, none⟩), .pointer (some ⟨bq, 0, none⟩)] w fun e w' => e = .returned (.bool (onB q (elS P v) (elS P x))) ∧ Below w.heap.size w w' := by
  have ht := htri v hv
  have hu := htri x hx
  obtain ⟨y0, y1, y2⟩ := hc v hv
  obtain ⟨z0, z1, z2⟩ := hc x hx
  have HON := Lib.hid (isOn_any q (el (elS P v) 0) (el (elS P v) 1) (el (elS P v) 2) (el (elS P x) 0) (el (elS P x) 1) (el (elS P x) 2) w.drew (onB q (elS P v) (elS P x)) (by omega) (ht.2 0) (ht.2 1) (ht.2 2) (hu.2 0) (hu.2 1) (hu.2 2) rfl)
  have hv0 : (0 : Int) ≤ v := by omega
  have hx0 : (0 : Int) ≤ x := by omega
  have hv1 : (v : Int) < P.length := by omega
  have hx1 : (x : Int) < P.length := by omega
  clear ht hu htri hc
  go_enter Tryd.func59, Tryd.ntmps59
  go_wp2_with fail
  go_region_with (go_at_call 46; refine HON.out.mono ?_; rintro e w3 ⟨rfl, hb3⟩; have HB3 : Hid (Below w.heap.size w w3) := ((Below.refl _ _).drew).trans hb3; clear hb3)
  all_goals
    go_wp2_with fail
    go_ret
    exact ⟨rfl, HB3.out⟩
end Go.Proofs.YtbfdhnecadgfdaaDoor
