/-
  laws.FnExactAreFeasible: the walk: for every argument that comes in the law returns true and leaves what was there.
-/
import Derived.Test.YtaekecccpgcgiaaPg
import Derived.Test.YtaekecccpgcgiaaNh6
import Derived.Test.YtaekecccpgcgiaaTo
import Derived.Deep.RegionHeld3
import Derived.Deep.DeepCutAuto
namespace Go.Proofs.Ytaekecccpgcgiaa.fnExactAreFeasible
open Go.RowKit

theorem below_drew {B B' : Nat} {w w' : World} (h : Below B' w.drew w') (hB : B ≤ B') : Below B w w' := ((Below.refl B w).drew).trans (h.mono hB)
theorem kept_block {w w' : World} (h : Below w.heap.size w w') {k : Nat} {x : Obj} (hx : w.heap[k]? = some x) : w'.heap[k]? = some x := (h.block k (Array.getElem?_eq_some_iff.1 hx).1).trans hx

/-- Block k holds a pair. -/
def Box (w : World) (k : Nat) (x y : Value) (t : TypeId) : Prop := w.heap[k]? = some (.cells #[x, y] t (0, 0))
theorem Box.lt {w : World} {k : Nat} {x y : Value} {t : TypeId} (h : Box w k x y t) : k < w.heap.size := (Array.getElem?_eq_some_iff.1 h).1
theorem Box.new (w : World) (x y : Value) (t : TypeId) : Box (w.alloc (.cells #[x, y] t)) w.heap.size x y t := World.alloc_heap_new w _
theorem Box.below {w w' : World} {k : Nat} {x y : Value} {t : TypeId} (h : Box w k x y t) (hb : Below w.heap.size w w') : Box w' k x y t := (hb.block k h.lt).trans h
theorem Box.from {B : Nat} {w w' : World} {k : Nat} {x y : Value} {t : TypeId} (h : Box w k x y t) (hb : Below B w w') (hk : k < B) : Box w' k x y t := (hb.block k hk).trans h
theorem Box.alloc {w : World} {k : Nat} {x y : Value} {t : TypeId} (h : Box w k x y t) (o : Obj) : Box (w.alloc o) k x y t := h.below ((Below.refl _ _).alloc (Nat.le_refl _) o)
theorem Box.grown {w w' : World} {k : Nat} {x y : Value} {t : TypeId} {row : Option Nat} (h : Box w k x y t) (hg : w.grownBy w' row) (hne : some k ≠ row) : Box w' k x y t := (hg.block k h.lt hne).trans h
theorem Box.c0 {w : World} {k : Nat} {x y : Value} {t : TypeId} (h : Box w k x y t) : w.cell? ⟨k, 0, none⟩ = some x := (two_cells h).1
theorem Box.c1 {w : World} {k : Nat} {x y : Value} {t : TypeId} (h : Box w k x y t) : w.cell? ⟨k, 1, none⟩ = some y := (two_cells h).2.1
theorem blk_grown {w w' : World} {g : Nat} {zs : List Int} {row : Option Nat} (h : Blk w g zs) (hg : w.grownBy w' row) (hne : some g ≠ row) : Blk w' g zs := (hg.block g h.lt hne).trans h
theorem eqInts_same (v1 v2 : Value) (xs : List Int) (w : World) (h1 : Sl w v1 xs) (h2 : Sl w v2 xs) (hx : xs.length ≤ 9223372036854775807) :
    Calls Try.prog 13 #[v1, v2] w fun e w' => e = .returned (.bool true) ∧ Below w.heap.size w w' := by
  have := eqInts_any v1 v2 xs xs w h1 h2 hx
  simpa using this

theorem own_slice {w : World} {B : Nat} {u : Value} {L : List Int} (h : Own w B u L) : ∃ a l c, u = .slice a l c := by
  rcases h.form with ⟨rfl, _⟩ | ⟨g, cap, rfl, _⟩
  · exact ⟨_, _, _, rfl⟩
  · exact ⟨_, _, _, rfl⟩

theorem fin_alloc {w q : World} {B : Nat} {N : Int} {u : Value} {D : List Int} (hO : Own q B u D) (hc : w.heap.size ≤ B) (hB : Below w.heap.size w q) :
    Box (q.alloc (.cells #[.int .i64 N, u] 35)) q.heap.size (.int .i64 N) u 35 ∧ Own (q.alloc (.cells #[.int .i64 N, u] 35)) w.heap.size u D ∧ Below w.heap.size w (q.alloc (.cells #[.int .i64 N, u] 35)) ∧ w.heap.size ≤ q.heap.size ∧ u.ownBlock ≠ some q.heap.size :=
  ⟨Box.new q _ _ _, (hO.base hc).below ((Below.refl _ _).alloc (Nat.le_refl _) _), hB.alloc hB.size _, hB.size, fun e => by have := hO.lt _ e; omega⟩
theorem fin_set {w q : World} {b B : Nat} {N : Int} {u : Value} {D : List Int} (hO : Own q B u D) (hc : w.heap.size ≤ B) (hb : b < B) (hw : w.heap.size ≤ b) (RB : q.heap[b]? = some (.cells #[.int .i64 0, .slice none 0 0] 35 (0, 0))) (hB : Below w.heap.size w q) :
    Box ((q.setCell ⟨b, 0, none⟩ (.int .i64 N)).setCell ⟨b, 1, none⟩ u) b (.int .i64 N) u 35 ∧ Own ((q.setCell ⟨b, 0, none⟩ (.int .i64 N)).setCell ⟨b, 1, none⟩ u) w.heap.size u D ∧ Below w.heap.size w ((q.setCell ⟨b, 0, none⟩ (.int .i64 N)).setCell ⟨b, 1, none⟩ u) ∧ w.heap.size ≤ b ∧ u.ownBlock ≠ some b := by
  have hne : u.ownBlock ≠ some b := fun e => by have := hO.ge _ e; omega
  exact ⟨two_set RB, (hO.base hc).kept (grown_set (grown_set ⟨rfl, rfl, rfl, Nat.le_refl _, fun _ _ _ => rfl⟩ b 0 _) b 1 _) (.inr hne), (hB.setCell (p := ⟨b, 0, none⟩) hw _).setCell (p := ⟨b, 1, none⟩) hw _, hw, hne⟩

set_option maxHeartbeats 6400000 in
set_option maxRecDepth 100000 in
theorem law (v0 : Value) (zs0 : List Int) (v1 : Value) (zs1 : List Int) (w : World) (hs0 : Sl w v0 zs0) (hl0 : zs0.length ≤ 9223372036854775807) (hs1 : Sl w v1 zs1) (hl1 : zs1.length ≤ 9223372036854775807) :
    Calls Try.prog 6 #[v0, v1] w fun e w' => e = .returned (.bool true) ∧ Below w.heap.size w w' := by
  obtain ⟨pa0, pc0, rfl⟩ : ∃ a c, v0 = .slice a zs0.length c := ⟨_, _, slForm hs0⟩
  obtain ⟨pa1, pc1, rfl⟩ : ∃ a c, v1 = .slice a zs1.length c := ⟨_, _, slForm hs1⟩
  have HS0 := Lib.hid hs0; clear hs0
  have HS1 := Lib.hid hs1; clear hs1
  have D0 : Below w.heap.size w w := Below.refl _ _
  have E0 : Below w.heap.size w w := Below.refl _ _
  have SW0 := Lib.hid (HS0.out.below D0)
  have SW1 := Lib.hid (HS1.out.below D0)
  by_cases hbig0 : (1048576 : Int) < zs0.length
  · go_enter Try.func6, Try.ntmps6
    go_wp2_with fail
    go_ret
    exact ⟨rfl, D0⟩
  have hl20_0 : zs0.length ≤ 1048576 := by omega
  by_cases hbig1 : (1048576 : Int) < zs1.length
  · go_enter Try.func6, Try.ntmps6
    go_wp2_with fail
    go_ret
    exact ⟨rfl, D0⟩
  have hl20_1 : zs1.length ≤ 1048576 := by omega
  obtain ⟨D, hd⟩ : ∃ d, d = feB zs0 zs1 := ⟨_, rfl⟩
  obtain ⟨c, hc⟩ : ∃ c, c = feC zs0 zs1 := ⟨_, rfl⟩
  have HD := Lib.hid hd; have HC := Lib.hid hc
  clear  hd hc
  have hbg0 : ¬ (1048576 : Int) < zs0.length := hbig0; clear hbig0
  have hbg1 : ¬ (1048576 : Int) < zs1.length := hbig1; clear hbig1
  go_enter Try.func6, Try.ntmps6
  go_wp2_with fail
  go_wp2_with fail
  refine (toInts_any _ zs0 w (SW0.out.below E0) hl20_0).mono ?_
  rintro e w1 ⟨rfl, hB1, hb1⟩
  have T0_1 := Lib.hid hB1; clear hB1
  have e1 := hb1.size
  have E1 : Below w.heap.size w w1 := E0.trans (hb1.mono (by omega))
  clear hb1 E0 
  have lT0 : w.heap.size < w1.heap.size := T0_1.out.lt
  go_wp2_with fail
  refine (toInts_any _ zs1 w1 (SW1.out.below E1) hl20_1).mono ?_
  rintro e w2 ⟨rfl, hB2, hb2⟩
  have T1_2 := Lib.hid hB2; clear hB2
  have e2 := hb2.size
  have E2 : Below w.heap.size w w2 := E1.trans (hb2.mono (by omega))
  have T0_2 := Lib.hid (T0_1.out.belowAll hb2)
  clear hb2 E1 T0_1
  have lT1 : w1.heap.size < w2.heap.size := T1_2.out.lt
  have hcon := specFe_any (.slice (some ⟨w.heap.size, 0, none⟩) zs0.length zs0.length) (.slice (some ⟨w1.heap.size, 0, none⟩) zs1.length zs1.length) zs0 zs1 w2 (T0_2.out.sl _) (T1_2.out.sl _)
  go_wp2_with fail
  rw [← HD.out, ← HC.out] at hcon
  refine hcon.mono ?_
  rintro e w3 ⟨rfl, hb3⟩
  clear hcon
  have e3 := hb3.size
  have E3 : Below w.heap.size w w3 := E2.trans (hb3.mono (by omega))
  clear hb3 E2 
  go_wp2_with fail
  refine (toInts_any _ zs0 w3 (SW0.out.below E3) hl20_0).mono ?_
  rintro e w4 ⟨rfl, hB4, hb4⟩
  have HB0_4 := Lib.hid hB4; clear hB4
  have e4 := hb4.size
  have E4 : Below w.heap.size w w4 := E3.trans (hb4.mono (by omega))
  clear hb4 E3 
  have lHB0 : w3.heap.size < w4.heap.size := HB0_4.out.lt
  go_wp2_with fail
  refine (toInts_any _ zs1 w4 (SW1.out.below E4) hl20_1).mono ?_
  rintro e w5 ⟨rfl, hB5, hb5⟩
  have HB1_5 := Lib.hid hB5; clear hB5
  have e5 := hb5.size
  have E5 : Below w.heap.size w w5 := E4.trans (hb5.mono (by omega))
  have HB0_5 := Lib.hid (HB0_4.out.belowAll hb5)
  clear hb5 E4 HB0_4
  have lHB1 : w4.heap.size < w5.heap.size := HB1_5.out.lt
  go_wp2_with fail
  have hcon := implFe_any (.slice (some ⟨w3.heap.size, 0, none⟩) zs0.length zs0.length) (.slice (some ⟨w4.heap.size, 0, none⟩) zs1.length zs1.length) zs0 zs1 w5 (HB0_5.out.sl _) (HB1_5.out.sl _) hl0 hl1
  rw [← HD.out, ← HC.out] at hcon
  refine hcon.mono ?_
  rintro e w6 ⟨rfl, hb6⟩
  clear hcon
  have e6 := hb6.size
  have E6 : Below w.heap.size w w6 := E5.trans (hb6.mono (by omega))
  have HB0_6 := Lib.hid (HB0_5.out.belowAll hb6)
  have HB1_6 := Lib.hid (HB1_5.out.belowAll hb6)
  clear hb6 E5 HB0_5 HB1_5
  go_wp2_with fail
  refine (toInts_any _ zs0 w6 (SW0.out.below E6) hl20_0).mono ?_
  rintro e w7 ⟨rfl, hB7, hb7⟩
  have C0_7 := Lib.hid hB7; clear hB7
  have e7 := hb7.size
  have E7 : Below w.heap.size w w7 := E6.trans (hb7.mono (by omega))
  have HB0_7 := Lib.hid (HB0_6.out.belowAll hb7)
  have HB1_7 := Lib.hid (HB1_6.out.belowAll hb7)
  clear hb7 E6 HB0_6 HB1_6
  have lC0 : w6.heap.size < w7.heap.size := C0_7.out.lt
  go_wp2_with fail
  refine (eqInts_same _ _ zs0 w7 (HB0_7.out.sl _) (C0_7.out.sl _) hl0).mono ?_
  rintro e w8 ⟨rfl, hb8⟩
  have e8 := hb8.size
  have E8 : Below w.heap.size w w8 := E7.trans (hb8.mono (by omega))
  have HB0_8 := Lib.hid (HB0_7.out.belowAll hb8)
  have HB1_8 := Lib.hid (HB1_7.out.belowAll hb8)
  clear hb8 E7 HB0_7 HB1_7
  go_wp2_with fail
  refine (toInts_any _ zs1 w8 (SW1.out.below E8) hl20_1).mono ?_
  rintro e w9 ⟨rfl, hB9, hb9⟩
  have C1_9 := Lib.hid hB9; clear hB9
  have e9 := hb9.size
  have E9 : Below w.heap.size w w9 := E8.trans (hb9.mono (by omega))
  have HB0_9 := Lib.hid (HB0_8.out.belowAll hb9)
  have HB1_9 := Lib.hid (HB1_8.out.belowAll hb9)
  clear hb9 E8 HB0_8 HB1_8
  have lC1 : w8.heap.size < w9.heap.size := C1_9.out.lt
  go_wp2_with fail
  refine (eqInts_same _ _ zs1 w9 (HB1_9.out.sl _) (C1_9.out.sl _) hl1).mono ?_
  rintro e w10 ⟨rfl, hb10⟩
  have e10 := hb10.size
  have E10 : Below w.heap.size w w10 := E9.trans (hb10.mono (by omega))
  have HB0_10 := Lib.hid (HB0_9.out.belowAll hb10)
  have HB1_10 := Lib.hid (HB1_9.out.belowAll hb10)
  clear hb10 E9 HB0_9 HB1_9
  go_wp2_with fail
  go_ret
  exact ⟨rfl, D0.trans (E10.mono D0.size)⟩
end Go.Proofs.Ytaekecccpgcgiaa.fnExactAreFeasible
