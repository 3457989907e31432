/-
  laws.FnExactAbsolutePoints: the walk: for every argument that comes in the law returns true and leaves what was there.
-/
import Derived.Test.YtbfdhnecadgfdaaDoorPg
import Derived.Test.YtbfdhnecadgfdaaDoorUc
import Derived.Deep.RegionHeld3
import Derived.Deep.DeepCutAuto
namespace Go.Proofs.YtbfdhnecadgfdaaDoor.fnExactAbsolutePoints
set_option maxRecDepth 100000
open Go.RowKit

theorem below_drew {B B' : Nat} {w w' : World} (h : Below B' w.drew w') (hB : B ≤ B') : Below B w w' := ((Below.refl B w).drew).trans (h.mono hB)
theorem kept_block {w w' : World} (h : Below w.heap.size w w') {k : Nat} {x : Obj} (hx : w.heap[k]? = some x) : w'.heap[k]? = some x := (h.block k (Array.getElem?_eq_some_iff.1 hx).1).trans hx

/-- Block k holds a pair. -/
def Box (w : World) (k : Nat) (x y : Value) (t : TypeId) : Prop := w.heap[k]? = some (.cells #[x, y] t (0, 0))
theorem Box.lt {w : World} {k : Nat} {x y : Value} {t : TypeId} (h : Box w k x y t) : k < w.heap.size := (Array.getElem?_eq_some_iff.1 h).1
theorem Box.new (w : World) (x y : Value) (t : TypeId) : Box (w.alloc (.cells #[x, y] t)) w.heap.size x y t := World.alloc_heap_new w _
theorem Box.below {w w' : World} {k : Nat} {x y : Value} {t : TypeId} (h : Box w k x y t) (hb : Below w.heap.size w w') : Box w' k x y t := (hb.block k h.lt).trans h
theorem Box.from {B : Nat} {w w' : World} {k : Nat} {x y : Value} {t : TypeId} (h : Box w k x y t) (hb : Below B w w') (hk : k < B) : Box w' k x y t := (hb.block k hk).trans h
theorem Box.alloc {w : World} {k : Nat} {x y : Value} {t : TypeId} (h : Box w k x y t) (o : Obj) : Box (w.alloc o) k x y t := h.below ((Below.refl _ _).alloc (Nat.le_refl _) o)
theorem Box.grown {w w' : World} {k : Nat} {x y : Value} {t : TypeId} {row : Option Nat} (h : Box w k x y t) (hg : w.grownBy w' row) (hne : some k ≠ row) : Box w' k x y t := (hg.block k h.lt hne).trans h
theorem Box.c0 {w : World} {k : Nat} {x y : Value} {t : TypeId} (h : Box w k x y t) : w.cell? ⟨k, 0, none⟩ = some x := (two_cells h).1
theorem Box.c1 {w : World} {k : Nat} {x y : Value} {t : TypeId} (h : Box w k x y t) : w.cell? ⟨k, 1, none⟩ = some y := (two_cells h).2.1
theorem blk_grown {w w' : World} {g : Nat} {zs : List Int} {row : Option Nat} (h : Blk w g zs) (hg : w.grownBy w' row) (hne : some g ≠ row) : Blk w' g zs := (hg.block g h.lt hne).trans h
theorem eqInts_same (v1 v2 : Value) (xs : List Int) (w : World) (h1 : Sl w v1 xs) (h2 : Sl w v2 xs) (hx : xs.length ≤ 9223372036854775807) :
    Calls Tryd.prog 14 #[v1, v2] w fun e w' => e = .returned (.bool true) ∧ Below w.heap.size w w' := by
  have := eqInts_any v1 v2 xs xs w h1 h2 hx
  simpa using this

theorem own_slice {w : World} {B : Nat} {u : Value} {L : List Int} (h : Own w B u L) : ∃ a l c, u = .slice a l c := by
  rcases h.form with ⟨rfl, _⟩ | ⟨g, cap, rfl, _⟩
  · exact ⟨_, _, _, rfl⟩
  · exact ⟨_, _, _, rfl⟩

theorem fin_alloc {w q : World} {B : Nat} {N : Int} {u : Value} {D : List Int} (hO : Own q B u D) (hc : w.heap.size ≤ B) (hB : Below w.heap.size w q) :
    Box (q.alloc (.cells #[.int .i64 N, u] 34)) q.heap.size (.int .i64 N) u 34 ∧ Own (q.alloc (.cells #[.int .i64 N, u] 34)) w.heap.size u D ∧ Below w.heap.size w (q.alloc (.cells #[.int .i64 N, u] 34)) ∧ w.heap.size ≤ q.heap.size ∧ u.ownBlock ≠ some q.heap.size :=
  ⟨Box.new q _ _ _, (hO.base hc).below ((Below.refl _ _).alloc (Nat.le_refl _) _), hB.alloc hB.size _, hB.size, fun e => by have := hO.lt _ e; omega⟩
theorem fin_set {w q : World} {b B : Nat} {N : Int} {u : Value} {D : List Int} (hO : Own q B u D) (hc : w.heap.size ≤ B) (hb : b < B) (hw : w.heap.size ≤ b) (RB : q.heap[b]? = some (.cells #[.int .i64 0, .slice none 0 0] 34 (0, 0))) (hB : Below w.heap.size w q) :
    Box ((q.setCell ⟨b, 0, none⟩ (.int .i64 N)).setCell ⟨b, 1, none⟩ u) b (.int .i64 N) u 34 ∧ Own ((q.setCell ⟨b, 0, none⟩ (.int .i64 N)).setCell ⟨b, 1, none⟩ u) w.heap.size u D ∧ Below w.heap.size w ((q.setCell ⟨b, 0, none⟩ (.int .i64 N)).setCell ⟨b, 1, none⟩ u) ∧ w.heap.size ≤ b ∧ u.ownBlock ≠ some b := by
  have hne : u.ownBlock ≠ some b := fun e => by have := hO.ge _ e; omega
  exact ⟨two_set RB, (hO.base hc).kept (grown_set (grown_set ⟨rfl, rfl, rfl, Nat.le_refl _, fun _ _ _ => rfl⟩ b 0 _) b 1 _) (.inr hne), (hB.setCell (p := ⟨b, 0, none⟩) hw _).setCell (p := ⟨b, 1, none⟩) hw _, hw, hne⟩

set_option maxHeartbeats 6400000 in
set_option maxRecDepth 100000 in
theorem law (x0 : Int) (w : World) (hT : Tab w) :
    Calls Tryd.prog 3 #[.int .i64 x0] w fun e w' => e = .returned (.bool true) ∧ Below w.heap.size w w' := by
  have D0 : Below w.heap.size w w := Below.refl _ _
  have E0 : Below w.heap.size w w := Below.refl _ _
  obtain ⟨D, hd⟩ : ∃ d, d = ApL x0 := ⟨_, rfl⟩
  obtain ⟨c, hc⟩ : ∃ c, c = ApC x0 := ⟨_, rfl⟩
  have hD20 : D.length ≤ 1048576 := by rw [hd]; exact Nat.le_trans (ApL_length _) (by decide)
  have HD := Lib.hid hd; have HC := Lib.hid hc
  clear  hd hc
  go_enter Tryd.func3, Tryd.ntmps3
  go_wp2_with fail
  have hcon := specAp_any x0 w
  go_wp2_with fail
  rw [← HD.out, ← HC.out] at hcon
  refine hcon.mono ?_
  rintro e w1 ⟨⟨upw, rfl, hO1⟩, hb1⟩
  clear hcon
  obtain ⟨pwa, pwl, pwc, rfl⟩ := own_slice hO1
  have OW_1 : Hid (Own w1 w.heap.size (Value.slice pwa pwl pwc) D) := hO1
  have LOW : Hid (∀ k, (Value.slice pwa pwl pwc).ownBlock = some k → w.heap.size ≤ k ∧ k < w1.heap.size) := fun k e => ⟨hO1.ge k e, hO1.lt k e⟩
  clear hO1
  have e1 := hb1.size
  have E1 : Below w.heap.size w w1 := E0.trans (hb1.mono (by omega))
  clear hb1 E0 
  go_wp2_with fail
  have hcon := implAp_any x0 w1 (hT.belowAll E1)
  rw [← HD.out, ← HC.out] at hcon
  refine hcon.mono ?_
  rintro e w2 ⟨⟨upg, rfl, hO2⟩, hb2⟩
  clear hcon
  obtain ⟨pga, pgl, pgc, rfl⟩ := own_slice hO2
  have OG_2 : Hid (Own w2 w1.heap.size (Value.slice pga pgl pgc) D) := hO2
  have LOG : Hid (∀ k, (Value.slice pga pgl pgc).ownBlock = some k → w1.heap.size ≤ k ∧ k < w2.heap.size) := fun k e => ⟨hO2.ge k e, hO2.lt k e⟩
  clear hO2
  have e2 := hb2.size
  have E2 : Below w.heap.size w w2 := E1.trans (hb2.mono (by omega))
  have OW_2 := Lib.hid (OW_1.out.below hb2)
  clear hb2 E1 OW_1
  go_wp2_with fail
  refine (eqInts_same (Value.slice pga pgl pgc) (Value.slice pwa pwl pwc) D w2 OG_2.out.sl OW_2.out.sl (by omega)).mono ?_
  rintro e w3 ⟨rfl, hb3⟩
  have e3 := hb3.size
  have E3 : Below w.heap.size w w3 := E2.trans (hb3.mono (by omega))
  have OW_3 := Lib.hid (OW_2.out.below hb3)
  have OG_3 := Lib.hid (OG_2.out.below hb3)
  clear hb3 E2 OW_2 OG_2
  go_wp2_with fail
  refine (markInts_any (Value.slice pga pgl pgc) w1.heap.size D 1 w3 OG_3.out (by decide) (by decide) (by omega)).mono ?_
  rintro e w4 ⟨rfl, hOm, hb4, -⟩
  have e4 := hb4.size
  have E4 : Below w.heap.size w w4 := E3.grown hb4 (by omega) (fun k e => by have := LOG.out _ e; omega)
  have OW_4 := Lib.hid (OW_3.out.kept hb4 (by (cases hu : (Value.slice pwa pwl pwc).ownBlock with | none => exact .inl rfl | some k => exact .inr fun e => by (have h1 := LOW.out _ hu; have h2 := LOG.out _ e.symm; omega))))
  clear hb4 E3 OW_3
  have OG_4 : Hid (Own w4 w1.heap.size (Value.slice pga pgl pgc) (markL 1 D.length)) := hOm
  clear hOm
  have hd0 : (0 : Int) ≤ 1 + (D.length : Int) := by omega
  go_wp2_with fail
  refine (heldInts_any (Value.slice pga pgl pgc) D.length 1 _ OG_4.out.sl (by decide) (by decide) (by omega)).mono ?_
  rintro e w5 ⟨rfl, rfl⟩
  have hcon := implAp_any x0 w4 (hT.belowAll E4)
  go_wp2_with fail
  rw [← HD.out, ← HC.out] at hcon
  refine hcon.mono ?_
  rintro e w5 ⟨⟨uph, rfl, hO5⟩, hb5⟩
  clear hcon
  obtain ⟨pha, phl, phc, rfl⟩ := own_slice hO5
  have OH_5 : Hid (Own w5 w4.heap.size (Value.slice pha phl phc) D) := hO5
  have LOH : Hid (∀ k, (Value.slice pha phl phc).ownBlock = some k → w4.heap.size ≤ k ∧ k < w5.heap.size) := fun k e => ⟨hO5.ge k e, hO5.lt k e⟩
  clear hO5
  have e5 := hb5.size
  have E5 : Below w.heap.size w w5 := E4.trans (hb5.mono (by omega))
  have OW_5 := Lib.hid (OW_4.out.below hb5)
  have OG_5 := Lib.hid (OG_4.out.below hb5)
  clear hb5 E4 OW_4 OG_4
  go_wp2_with fail
  refine (eqInts_same (Value.slice pha phl phc) (Value.slice pwa pwl pwc) D w5 OH_5.out.sl OW_5.out.sl (by omega)).mono ?_
  rintro e w6 ⟨rfl, hb6⟩
  have e6 := hb6.size
  have E6 : Below w.heap.size w w6 := E5.trans (hb6.mono (by omega))
  have OW_6 := Lib.hid (OW_5.out.below hb6)
  have OG_6 := Lib.hid (OG_5.out.below hb6)
  have OH_6 := Lib.hid (OH_5.out.below hb6)
  clear hb6 E5 OW_5 OG_5 OH_5
  go_wp2_with fail
  refine (heldInts_any (Value.slice pga pgl pgc) D.length 1 _ OG_6.out.sl (by decide) (by decide) (by omega)).mono ?_
  rintro e w7 ⟨rfl, rfl⟩
  go_wp2_with fail
  go_ret
  exact ⟨rfl, D0.trans (E6.mono D0.size)⟩
end Go.Proofs.YtbfdhnecadgfdaaDoor.fnExactAbsolutePoints
