/-
  Joins and graphs of pairs with the numbers as they come (where no ring graph is in the seat).
-/
import Derived.Test.YtapnlheecplpgaaDoorGp
namespace Go.Proofs.YtapnlheecplpgaaDoor
set_option maxRecDepth 100000
open Go.RowKit Go.Maps Go.WideMaps Go.WideElems

theorem join_at (b : Nat) (S : List (Nat × Nat)) (x y : Nat) (xi yi : Int) (w : World) (h : PS w b S) (hS : S.length < 1048576) (hx : x < 1048576) (hy : y < 1048576) (ex : xi = (x : Int)) (ey : yi = (y : Int)) :
    Calls Tryd.prog 25 #[.map (some b), .int .i64 xi, .int .i64 yi] w fun e w' => (∃ v, e = .returned v) ∧ PS w' b (S ++ [(x, y)]) ∧ w.grownBy w' (some b) := by
  subst ex; subst ey
  exact join_any b S x y w h hS hx hy
theorem gop_at (n b : Nat) (N : Int) (S : List (Nat × Nat)) (w : World) (h : PS w b S) (hn : n ≤ 62) (hS : ∀ p, p ∈ S → p.1 < n ∧ p.2 < n) (eN : N = (n : Int)) :
    Calls Tryd.prog 14 #[.int .i64 N, .map (some b)] w fun e w' => GRet w.heap.size n (rowsF n (adjS S)) e w' ∧ Below w.heap.size w w' := by
  subst eN
  exact gop_any n b S w h hn hS

end Go.Proofs.YtapnlheecplpgaaDoor
