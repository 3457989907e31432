/-
  laws.FnExactPartOn: the walk: for every argument that comes in the law returns true and leaves what was there.
-/
import Derived.Test.YtbpcdgfcdahnlaaDoorMark
import Derived.Test.YtbpcdgfcdahnlaaDoorOn5
import Derived.Deep.RegionHeld3
import Derived.Deep.DeepCutAuto
namespace Go.Proofs.YtbpcdgfcdahnlaaDoor.fnExactPartOn
set_option maxRecDepth 100000
open Go.RowKit

theorem below_drew {B B' : Nat} {w w' : World} (h : Below B' w.drew w') (hB : B ≤ B') : Below B w w' := ((Below.refl B w).drew).trans (h.mono hB)
theorem kept_block {w w' : World} (h : Below w.heap.size w w') {k : Nat} {x : Obj} (hx : w.heap[k]? = some x) : w'.heap[k]? = some x := (h.block k (Array.getElem?_eq_some_iff.1 hx).1).trans hx

/-- Block k holds a pair. -/
def Box (w : World) (k : Nat) (x y : Value) (t : TypeId) : Prop := w.heap[k]? = some (.cells #[x, y] t (0, 0))
theorem Box.lt {w : World} {k : Nat} {x y : Value} {t : TypeId} (h : Box w k x y t) : k < w.heap.size := (Array.getElem?_eq_some_iff.1 h).1
theorem Box.new (w : World) (x y : Value) (t : TypeId) : Box (w.alloc (.cells #[x, y] t)) w.heap.size x y t := World.alloc_heap_new w _
theorem Box.below {w w' : World} {k : Nat} {x y : Value} {t : TypeId} (h : Box w k x y t) (hb : Below w.heap.size w w') : Box w' k x y t := (hb.block k h.lt).trans h
theorem Box.from {B : Nat} {w w' : World} {k : Nat} {x y : Value} {t : TypeId} (h : Box w k x y t) (hb : Below B w w') (hk : k < B) : Box w' k x y t := (hb.block k hk).trans h
theorem Box.alloc {w : World} {k : Nat} {x y : Value} {t : TypeId} (h : Box w k x y t) (o : Obj) : Box (w.alloc o) k x y t := h.below ((Below.refl _ _).alloc (Nat.le_refl _) o)
theorem Box.grown {w w' : World} {k : Nat} {x y : Value} {t : TypeId} {row : Option Nat} (h : Box w k x y t) (hg : w.grownBy w' row) (hne : some k ≠ row) : Box w' k x y t := (hg.block k h.lt hne).trans h
theorem Box.c0 {w : World} {k : Nat} {x y : Value} {t : TypeId} (h : Box w k x y t) : w.cell? ⟨k, 0, none⟩ = some x := (two_cells h).1
theorem Box.c1 {w : World} {k : Nat} {x y : Value} {t : TypeId} (h : Box w k x y t) : w.cell? ⟨k, 1, none⟩ = some y := (two_cells h).2.1
theorem blk_grown {w w' : World} {g : Nat} {zs : List Int} {row : Option Nat} (h : Blk w g zs) (hg : w.grownBy w' row) (hne : some g ≠ row) : Blk w' g zs := (hg.block g h.lt hne).trans h
theorem eqInts_same (v1 v2 : Value) (xs : List Int) (w : World) (h1 : Sl w v1 xs) (h2 : Sl w v2 xs) (hx : xs.length ≤ 9223372036854775807) :
    Calls Tryd.prog 19 #[v1, v2] w fun e w' => e = .returned (.bool true) ∧ Below w.heap.size w w' := by
  have := eqInts_any v1 v2 xs xs w h1 h2 hx
  simpa using this

theorem own_slice {w : World} {B : Nat} {u : Value} {L : List Int} (h : Own w B u L) : ∃ a l c, u = .slice a l c := by
  rcases h.form with ⟨rfl, _⟩ | ⟨g, cap, rfl, _⟩
  · exact ⟨_, _, _, rfl⟩
  · exact ⟨_, _, _, rfl⟩

theorem fin_alloc {w q : World} {B : Nat} {N : Int} {u : Value} {D : List Int} (hO : Own q B u D) (hc : w.heap.size ≤ B) (hB : Below w.heap.size w q) :
    Box (q.alloc (.cells #[.int .i64 N, u] 28)) q.heap.size (.int .i64 N) u 28 ∧ Own (q.alloc (.cells #[.int .i64 N, u] 28)) w.heap.size u D ∧ Below w.heap.size w (q.alloc (.cells #[.int .i64 N, u] 28)) ∧ w.heap.size ≤ q.heap.size ∧ u.ownBlock ≠ some q.heap.size :=
  ⟨Box.new q _ _ _, (hO.base hc).below ((Below.refl _ _).alloc (Nat.le_refl _) _), hB.alloc hB.size _, hB.size, fun e => by have := hO.lt _ e; omega⟩
theorem fin_set {w q : World} {b B : Nat} {N : Int} {u : Value} {D : List Int} (hO : Own q B u D) (hc : w.heap.size ≤ B) (hb : b < B) (hw : w.heap.size ≤ b) (RB : q.heap[b]? = some (.cells #[.int .i64 0, .slice none 0 0] 28 (0, 0))) (hB : Below w.heap.size w q) :
    Box ((q.setCell ⟨b, 0, none⟩ (.int .i64 N)).setCell ⟨b, 1, none⟩ u) b (.int .i64 N) u 28 ∧ Own ((q.setCell ⟨b, 0, none⟩ (.int .i64 N)).setCell ⟨b, 1, none⟩ u) w.heap.size u D ∧ Below w.heap.size w ((q.setCell ⟨b, 0, none⟩ (.int .i64 N)).setCell ⟨b, 1, none⟩ u) ∧ w.heap.size ≤ b ∧ u.ownBlock ≠ some b := by
  have hne : u.ownBlock ≠ some b := fun e => by have := hO.ge _ e; omega
  exact ⟨two_set RB, (hO.base hc).kept (grown_set (grown_set ⟨rfl, rfl, rfl, Nat.le_refl _, fun _ _ _ => rfl⟩ b 0 _) b 1 _) (.inr hne), (hB.setCell (p := ⟨b, 0, none⟩) hw _).setCell (p := ⟨b, 1, none⟩) hw _, hw, hne⟩

set_option maxHeartbeats 6400000 in
set_option maxRecDepth 100000 in
theorem law (n0 : Int) (v0 : Value) (zs0 : List Int) (v1 : Value) (zs1 : List Int) (w : World) (hs0 : Sl w v0 zs0) (hl0 : zs0.length ≤ 9223372036854775807) (hs1 : Sl w v1 zs1) (hl1 : zs1.length ≤ 9223372036854775807) (hT : Tab w) :
    Calls Tryd.prog 9 #[.agg #[.int .i64 n0, v0], v1] w fun e w' => e = .returned (.bool true) ∧ Below w.heap.size w w' := by
  obtain ⟨pa1, pc1, rfl⟩ : ∃ a c, v1 = .slice a zs1.length c := ⟨_, _, slForm hs1⟩
  have HS0 := Lib.hid hs0; clear hs0
  have HS1 := Lib.hid hs1; clear hs1
  have HT := Lib.hid hT; clear hT
  obtain ⟨W, hW⟩ : ∃ W, W = (w.alloc (.cells #[.int .i64 n0, v0] 24)) := ⟨_, rfl⟩
  have D0 : Below w.heap.size w W := by rw [hW]; exact ((Below.refl _ _).alloc (Nat.le_refl _) _)
  have hsz : w.heap.size + 1 ≤ W.heap.size := by rw [hW]; simp
  have A0_0 : Hid (Box W (w.heap.size) (.int .i64 n0) v0 24) := by rw [hW]; exact heap_new_at w (.cells #[.int .i64 n0, v0] 24) (w.heap.size) (by simp)
  have SW0 := Lib.hid (HS0.out.below D0)
  have SW1 := Lib.hid (HS1.out.below D0)
  have TW := Lib.hid (HT.out.belowAll D0)
  by_cases hbig1 : (1048576 : Int) < zs1.length
  · go_enter Tryd.func9, Tryd.ntmps9
    go_wp2_with fail
    go_ret
    exact ⟨rfl, by rw [← hW]; exact D0⟩
  have hl20_1 : zs1.length ≤ 1048576 := by omega
  by_cases hbig0 : (1048576 : Int) < zs0.length
  · have hsz0 : ∀ W1, Below W.heap.size W W1 → Calls Tryd.prog 15 #[.agg #[.int .i64 n0, v0], .int .i64 (1048576)] W1 fun e w' => e = .returned (.int .i64 (-1)) ∧ Below W1.heap.size W1 w' := fun W1 h => by
      have := szGraph_any n0 v0 zs0 (1048576) W1 ((HS0.out.below D0).below h) (by omega) (by omega) hl0
      rw [if_pos hbig0] at this; exact this
    clear hbig0
    go_enter Tryd.func9, Tryd.ntmps9
    have a00 := A0_0.out.c0; have a01 := A0_0.out.c1
    rw [hW] at a00 a01
    go_wp2_with fail
    rw [← hW]
    clear hW
    refine (hsz0 W (Below.refl _ _)).mono ?_
    rintro e w1 ⟨rfl, hb1⟩
    have e1 := hb1.size
    have E1 : Below W.heap.size W w1 := hb1
    clear a00 a01 hb1
    have a00 := (A0_0.out.from E1 (by omega)).c0; have a01 := (A0_0.out.from E1 (by omega)).c1
    go_wp2_with fail
    go_ret
    exact ⟨rfl, D0.trans (E1.mono D0.size)⟩
  have hsz0 : ∀ W1, Below W.heap.size W W1 → Calls Tryd.prog 15 #[.agg #[.int .i64 n0, v0], .int .i64 (1048576)] W1 fun e w' => e = .returned (.int .i64 (1048576 - zs0.length)) ∧ Below W1.heap.size W1 w' := fun W1 h => by
      have := szGraph_any n0 v0 zs0 (1048576) W1 ((HS0.out.below D0).below h) (by omega) (by omega) hl0
      rw [if_neg hbig0] at this; exact this
  have hsub0 : (0 : Int) ≤ 1048576 - zs0.length := by omega
  have hl20_0 : zs0.length ≤ 1048576 := by omega
  obtain ⟨D, hd⟩ : ∃ d, d = ONL n0 zs0 zs1 := ⟨_, rfl⟩
  obtain ⟨N, hn⟩ : ∃ d, d = ONN n0 zs0 zs1 := ⟨_, rfl⟩
  obtain ⟨c, hc⟩ : ∃ c, c = ONC n0 zs0 zs1 := ⟨_, rfl⟩
  have hD20 : D.length ≤ 1048576 := by rw [hd]; exact Nat.le_trans (ONL_length _ _ _) (by omega)
  have HD := Lib.hid hd; have HC := Lib.hid hc; have HN := Lib.hid hn
  clear hbig0 hd hc hn
  have hbg1 : ¬ (1048576 : Int) < zs1.length := hbig1; clear hbig1
  go_enter Tryd.func9, Tryd.ntmps9
  have a00 := A0_0.out.c0; have a01 := A0_0.out.c1
  rw [hW] at a00 a01
  go_wp2_with fail
  rw [← hW]
  clear hW
  refine (hsz0 W (Below.refl _ _)).mono ?_
  rintro e w1 ⟨rfl, hb1⟩
  have e1 := hb1.size
  have E1 : Below W.heap.size W w1 := hb1
  clear a00 a01 hb1
  have a00 := (A0_0.out.from E1 (by omega)).c0; have a01 := (A0_0.out.from E1 (by omega)).c1
  clear hsz0
  go_wp2_with fail
  refine (toGraph_any n0 v0 zs0 w1 (SW0.out.below E1) hl20_0).mono ?_
  rintro e w2 ⟨rfl, hB2, hb2⟩
  have T0_2 := Lib.hid hB2; clear hB2
  have e2 := hb2.size
  have E2 : Below W.heap.size W w2 := E1.trans (hb2.mono (by omega))
  clear hb2 E1 
  have lT0 : w1.heap.size + 3 < w2.heap.size := T0_2.out.lt
  clear a00 a01
  have a00 := (A0_0.out.from E2 (by omega)).c0; have a01 := (A0_0.out.from E2 (by omega)).c1
  go_wp2_with fail
  refine (toInts_any _ zs1 w2 (SW1.out.below E2) hl20_1).mono ?_
  rintro e w3 ⟨rfl, hB3, hb3⟩
  have T1_3 := Lib.hid hB3; clear hB3
  have e3 := hb3.size
  have E3 : Below W.heap.size W w3 := E2.trans (hb3.mono (by omega))
  have T0_3 := Lib.hid (T0_2.out.belowAll hb3)
  clear hb3 E2 T0_2
  have lT1 : w2.heap.size < w3.heap.size := T1_3.out.lt
  clear a00 a01
  have a00 := (A0_0.out.from E3 (by omega)).c0; have a01 := (A0_0.out.from E3 (by omega)).c1
  have hcon := specOn_any n0 (.slice (some ⟨w1.heap.size + 3, 0, none⟩) zs0.length zs0.length) (.slice (some ⟨w2.heap.size, 0, none⟩) zs1.length zs1.length) zs0 zs1 w3 (T0_3.out.sl _) (T1_3.out.sl _) hl0 hl20_1
  go_wp2_with fail
  clear a00 a01
  rw [← HD.out, ← HC.out, ← HN.out] at hcon
  refine hcon.mono ?_
  rintro e w4 ⟨⟨upw, rfl, hO4⟩, hb4⟩
  clear hcon
  obtain ⟨pwa, pwl, pwc, rfl⟩ := own_slice hO4
  have OW_4 : Hid (Own w4 w3.heap.size (Value.slice pwa pwl pwc) D) := hO4
  have LOW : Hid (∀ k, (Value.slice pwa pwl pwc).ownBlock = some k → w3.heap.size ≤ k ∧ k < w4.heap.size) := fun k e => ⟨hO4.ge k e, hO4.lt k e⟩
  clear hO4
  have e4 := hb4.size
  have E4 : Below W.heap.size W w4 := E3.trans (hb4.mono (by omega))
  clear hb4 E3 
  have a00 := (Box.alloc (A0_0.out.from E4 (by omega)) (.cells #[.int .i64 N, (Value.slice pwa pwl pwc)] 28)).c0; have a01 := (Box.alloc (A0_0.out.from E4 (by omega)) (.cells #[.int .i64 N, (Value.slice pwa pwl pwc)] 28)).c1
  go_wp2_with fail
  obtain ⟨w5, h5⟩ : ∃ w', w' = w4.alloc (.cells #[.int .i64 N, (Value.slice pwa pwl pwc)] 28) := ⟨_, rfl⟩
  have Y_5 : Hid (Box w5 w4.heap.size (.int .i64 N) (Value.slice pwa pwl pwc) 28) := by rw [h5]; exact Box.new w4 _ _ _
  have hb5 : Below w4.heap.size w4 w5 := by rw [h5]; exact (Below.refl _ _).alloc (Nat.le_refl _) _
  rw [← h5]
  clear h5
  have e5 := hb5.size
  have E5 : Below W.heap.size W w5 := E4.trans (hb5.mono (by omega))
  have OW_5 := Lib.hid (OW_4.out.below hb5)
  clear hb5 E4 OW_4
  have lY : w4.heap.size < w5.heap.size := Y_5.out.lt
  clear a00 a01
  refine (toGraph_any n0 v0 zs0 w5 (SW0.out.below E5) hl20_0).mono ?_
  rintro e w6 ⟨rfl, hB6, hb6⟩
  have HB0_6 := Lib.hid hB6; clear hB6
  have e6 := hb6.size
  have E6 : Below W.heap.size W w6 := E5.trans (hb6.mono (by omega))
  have OW_6 := Lib.hid (OW_5.out.below hb6)
  have Y_6 := Lib.hid (Y_5.out.below hb6)
  clear hb6 E5 OW_5 Y_5
  have lHB0 : w5.heap.size + 3 < w6.heap.size := HB0_6.out.lt
  go_wp2_with fail
  obtain ⟨w7, h7⟩ : ∃ w', w' = w6.alloc (.cells #[.int .i64 n0, .slice (some ⟨w5.heap.size + 3, 0, none⟩) zs0.length zs0.length] 28) := ⟨_, rfl⟩
  have X0_7 : Hid (Box w7 w6.heap.size (.int .i64 n0) (.slice (some ⟨w5.heap.size + 3, 0, none⟩) zs0.length zs0.length) 28) := by rw [h7]; exact Box.new w6 _ _ _
  have hb7 : Below w6.heap.size w6 w7 := by rw [h7]; exact (Below.refl _ _).alloc (Nat.le_refl _) _
  rw [← h7]
  clear h7
  have e7 := hb7.size
  have E7 : Below W.heap.size W w7 := E6.trans (hb7.mono (by omega))
  have OW_7 := Lib.hid (OW_6.out.below hb7)
  have Y_7 := Lib.hid (Y_6.out.below hb7)
  have HB0_7 := Lib.hid (HB0_6.out.belowAll hb7)
  clear hb7 E6 OW_6 Y_6 HB0_6
  have lX0 : w6.heap.size < w7.heap.size := X0_7.out.lt
  refine (toInts_any _ zs1 w7 (SW1.out.below E7) hl20_1).mono ?_
  rintro e w8 ⟨rfl, hB8, hb8⟩
  have HB1_8 := Lib.hid hB8; clear hB8
  have e8 := hb8.size
  have E8 : Below W.heap.size W w8 := E7.trans (hb8.mono (by omega))
  have OW_8 := Lib.hid (OW_7.out.below hb8)
  have Y_8 := Lib.hid (Y_7.out.below hb8)
  have HB0_8 := Lib.hid (HB0_7.out.belowAll hb8)
  have X0_8 := Lib.hid (X0_7.out.below hb8)
  clear hb8 E7 OW_7 Y_7 HB0_7 X0_7
  have lHB1 : w7.heap.size < w8.heap.size := HB1_8.out.lt
  have x0_0 := (X0_8.out).c0; have x0_1 := (X0_8.out).c1
  go_wp2_with fail
  clear x0_0 x0_1
  have hcon := implOn_any n0 (.slice (some ⟨w5.heap.size + 3, 0, none⟩) zs0.length zs0.length) (.slice (some ⟨w7.heap.size, 0, none⟩) zs1.length zs1.length) zs0 zs1 w8 (HB0_8.out.sl _) (HB1_8.out.sl _) hl0 hl1 (TW.out.below E8 TW.out.lt)
  rw [← HD.out, ← HC.out, ← HN.out] at hcon
  refine hcon.mono ?_
  rintro e w9 ⟨⟨upg, rfl, hO9⟩, hb9⟩
  clear hcon
  obtain ⟨pga, pgl, pgc, rfl⟩ := own_slice hO9
  have OG_9 : Hid (Own w9 w8.heap.size (Value.slice pga pgl pgc) D) := hO9
  have LOG : Hid (∀ k, (Value.slice pga pgl pgc).ownBlock = some k → w8.heap.size ≤ k ∧ k < w9.heap.size) := fun k e => ⟨hO9.ge k e, hO9.lt k e⟩
  clear hO9
  have e9 := hb9.size
  have E9 : Below W.heap.size W w9 := E8.trans (hb9.mono (by omega))
  have OW_9 := Lib.hid (OW_8.out.below hb9)
  have Y_9 := Lib.hid (Y_8.out.below hb9)
  have HB0_9 := Lib.hid (HB0_8.out.belowAll hb9)
  have X0_9 := Lib.hid (X0_8.out.below hb9)
  have HB1_9 := Lib.hid (HB1_8.out.belowAll hb9)
  clear hb9 E8 OW_8 Y_8 HB0_8 X0_8 HB1_8
  have y0 := (Box.alloc Y_9.out (.cells #[.int .i64 N, (Value.slice pga pgl pgc)] 28)).c0; have y1 := (Box.alloc Y_9.out (.cells #[.int .i64 N, (Value.slice pga pgl pgc)] 28)).c1
  go_wp2_with fail
  obtain ⟨w10, h10⟩ : ∃ w', w' = w9.alloc (.cells #[.int .i64 N, (Value.slice pga pgl pgc)] 28) := ⟨_, rfl⟩
  have Z_10 : Hid (Box w10 w9.heap.size (.int .i64 N) (Value.slice pga pgl pgc) 28) := by rw [h10]; exact Box.new w9 _ _ _
  have hb10 : Below w9.heap.size w9 w10 := by rw [h10]; exact (Below.refl _ _).alloc (Nat.le_refl _) _
  rw [← h10]
  clear h10
  have e10 := hb10.size
  have E10 : Below W.heap.size W w10 := E9.trans (hb10.mono (by omega))
  have OW_10 := Lib.hid (OW_9.out.below hb10)
  have Y_10 := Lib.hid (Y_9.out.below hb10)
  have HB0_10 := Lib.hid (HB0_9.out.belowAll hb10)
  have X0_10 := Lib.hid (X0_9.out.below hb10)
  have HB1_10 := Lib.hid (HB1_9.out.belowAll hb10)
  have OG_10 := Lib.hid (OG_9.out.below hb10)
  clear hb10 E9 OW_9 Y_9 HB0_9 X0_9 HB1_9 OG_9
  have lZ : w9.heap.size < w10.heap.size := Z_10.out.lt
  clear y0 y1
  refine (eqGraph_same N (Value.slice pga pgl pgc) (Value.slice pwa pwl pwc) D w10 OG_10.out.sl OW_10.out.sl (by omega)).mono ?_
  rintro e w11 ⟨rfl, hb11⟩
  have e11 := hb11.size
  have E11 : Below W.heap.size W w11 := E10.trans (hb11.mono (by omega))
  have OW_11 := Lib.hid (OW_10.out.below hb11)
  have Y_11 := Lib.hid (Y_10.out.below hb11)
  have HB0_11 := Lib.hid (HB0_10.out.belowAll hb11)
  have X0_11 := Lib.hid (X0_10.out.below hb11)
  have HB1_11 := Lib.hid (HB1_10.out.belowAll hb11)
  have OG_11 := Lib.hid (OG_10.out.below hb11)
  have Z_11 := Lib.hid (Z_10.out.below hb11)
  clear hb11 E10 OW_10 Y_10 HB0_10 X0_10 HB1_10 OG_10 Z_10
  have a00 := (A0_0.out.from E11 (by omega)).c0; have a01 := (A0_0.out.from E11 (by omega)).c1
  have x0 := (X0_11.out).c0; have x1 := (X0_11.out).c1
  go_wp2_with fail
  go_region_held3 (fun w' => w'.cell? ⟨w.heap.size, 0, none⟩ = some (.int .i64 n0) ∧ w'.cell? ⟨w.heap.size, 1, none⟩ = some v0 ∧ w'.cell? ⟨w6.heap.size, 0, none⟩ = some (.int .i64 n0) ∧ w'.cell? ⟨w6.heap.size, 1, none⟩ = some (.slice (some ⟨w5.heap.size + 3, 0, none⟩) zs0.length zs0.length))
    (go_keep)
    (first | (go_at_call 17; refine (toGraph_any n0 v0 zs0 _ ((SW0.out.below E11).below ((Below.refl _ _).drew)) hl20_0).mono ?_; rintro e q12 ⟨rfl, hBq, hbq⟩; have HBQ := Lib.hid hBq; have hbq' : Below w11.heap.size w11 q12 := below_drew hbq (by simp); have a00 := (Box.below (A0_0.out.from E11 (by omega)) hbq').c0; have a01 := (Box.below (A0_0.out.from E11 (by omega)) hbq').c1; have x0 := (X0_11.out.below hbq').c0; have x1 := (X0_11.out.below hbq').c1; clear hBq) | (go_at_call 20; refine (eqGraph_same n0 _ _ zs0 _ ((HB0_11.out.belowAll hbq').sl _) (HBQ.out.sl _) hl0).mono ?_; rintro e w12 ⟨rfl, hbr⟩; have hb12 : Below w11.heap.size w11 w12 := hbq'.trans (hbr.mono hbq'.size); have a00 := (Box.below (A0_0.out.from E11 (by omega)) hb12).c0; have a01 := (Box.below (A0_0.out.from E11 (by omega)) hb12).c1; have x0 := (X0_11.out.below hb12).c0; have x1 := (X0_11.out.below hb12).c1))
  clear a00 a01 x0 x1 hbq hbq' hbr HBQ
  have e12 := hb12.size
  have E12 : Below W.heap.size W w12 := E11.trans (hb12.mono (by omega))
  have OW_12 := Lib.hid (OW_11.out.below hb12)
  have Y_12 := Lib.hid (Y_11.out.below hb12)
  have HB0_12 := Lib.hid (HB0_11.out.belowAll hb12)
  have X0_12 := Lib.hid (X0_11.out.below hb12)
  have HB1_12 := Lib.hid (HB1_11.out.belowAll hb12)
  have OG_12 := Lib.hid (OG_11.out.below hb12)
  have Z_12 := Lib.hid (Z_11.out.below hb12)
  clear hb12 E11 OW_11 Y_11 HB0_11 X0_11 HB1_11 OG_11 Z_11
  go_wp2_with fail
  refine (toInts_any _ zs1 w12 (SW1.out.below E12) hl20_1).mono ?_
  rintro e w13 ⟨rfl, hB13, hb13⟩
  have C1_13 := Lib.hid hB13; clear hB13
  have e13 := hb13.size
  have E13 : Below W.heap.size W w13 := E12.trans (hb13.mono (by omega))
  have OW_13 := Lib.hid (OW_12.out.below hb13)
  have Y_13 := Lib.hid (Y_12.out.below hb13)
  have HB0_13 := Lib.hid (HB0_12.out.belowAll hb13)
  have X0_13 := Lib.hid (X0_12.out.below hb13)
  have HB1_13 := Lib.hid (HB1_12.out.belowAll hb13)
  have OG_13 := Lib.hid (OG_12.out.below hb13)
  have Z_13 := Lib.hid (Z_12.out.below hb13)
  clear hb13 E12 OW_12 Y_12 HB0_12 X0_12 HB1_12 OG_12 Z_12
  have lC1 : w12.heap.size < w13.heap.size := C1_13.out.lt
  go_wp2_with fail
  refine (eqInts_same _ _ zs1 w13 (HB1_13.out.sl _) (C1_13.out.sl _) hl1).mono ?_
  rintro e w14 ⟨rfl, hb14⟩
  have e14 := hb14.size
  have E14 : Below W.heap.size W w14 := E13.trans (hb14.mono (by omega))
  have OW_14 := Lib.hid (OW_13.out.below hb14)
  have Y_14 := Lib.hid (Y_13.out.below hb14)
  have HB0_14 := Lib.hid (HB0_13.out.belowAll hb14)
  have X0_14 := Lib.hid (X0_13.out.below hb14)
  have HB1_14 := Lib.hid (HB1_13.out.belowAll hb14)
  have OG_14 := Lib.hid (OG_13.out.below hb14)
  have Z_14 := Lib.hid (Z_13.out.below hb14)
  clear hb14 E13 OW_13 Y_13 HB0_13 X0_13 HB1_13 OG_13 Z_13
  have x0 := (X0_14.out).c0; have x1 := (X0_14.out).c1
  have hk0 : (0 : Int) ≤ 1 := by omega
  go_wp2_with fail
  refine (markGraph_any n0 (.slice (some ⟨w5.heap.size + 3, 0, none⟩) zs0.length zs0.length) (w5.heap.size + 3) zs0 (1) w14 (Own.of_blk HB0_14.out (Nat.le_refl _) (by unfold maxLen; omega)) (by omega) (by omega) (by omega)).mono ?_
  rintro e w15 ⟨rfl, -, hg⟩
  clear x0 x1
  have hb15 : w14.grownBy w15 (some (w5.heap.size + 3)) := hg
  clear hg
  have e15 := hb15.size
  have E15 : Below W.heap.size W w15 := E14.grown hb15 (by omega) (fun k e => by cases e; omega)
  have OW_15 := Lib.hid (OW_14.out.kept hb15 (by (cases hu : (Value.slice pwa pwl pwc).ownBlock with | none => exact .inl rfl | some k => exact .inr fun e => by (cases e; have := LOW.out _ hu; omega))))
  have Y_15 := Lib.hid (Y_14.out.grown hb15 (by simp; omega))
  have X0_15 := Lib.hid (X0_14.out.grown hb15 (by simp; omega))
  have HB1_15 := Lib.hid (blk_grown HB1_14.out hb15 (by simp; omega))
  have OG_15 := Lib.hid (OG_14.out.kept hb15 (by (cases hu : (Value.slice pga pgl pgc).ownBlock with | none => exact .inl rfl | some k => exact .inr fun e => by (cases e; have := LOG.out _ hu; omega))))
  have Z_15 := Lib.hid (Z_14.out.grown hb15 (by simp; omega))
  clear hb15 E14 OW_14 Y_14 X0_14 HB1_14 OG_14 Z_14
  have hk1 : (0 : Int) ≤ 1 + (zs0.length : Int) := by omega
  go_wp2_with fail
  refine (markInts_any (.slice (some ⟨w7.heap.size, 0, none⟩) zs1.length zs1.length) (w7.heap.size) zs1 (1 + (zs0.length : Int)) w15 (Own.of_blk HB1_15.out (Nat.le_refl _) (by unfold maxLen; omega)) (by omega) (by omega) (by omega)).mono ?_
  rintro e w16 ⟨rfl, -, hg, -⟩
  have hb16 : w15.grownBy w16 (some (w7.heap.size)) := hg
  clear hg
  have e16 := hb16.size
  have E16 : Below W.heap.size W w16 := E15.grown hb16 (by omega) (fun k e => by cases e; omega)
  have OW_16 := Lib.hid (OW_15.out.kept hb16 (by (cases hu : (Value.slice pwa pwl pwc).ownBlock with | none => exact .inl rfl | some k => exact .inr fun e => by (cases e; have := LOW.out _ hu; omega))))
  have Y_16 := Lib.hid (Y_15.out.grown hb16 (by simp; omega))
  have X0_16 := Lib.hid (X0_15.out.grown hb16 (by simp; omega))
  have OG_16 := Lib.hid (OG_15.out.kept hb16 (by (cases hu : (Value.slice pga pgl pgc).ownBlock with | none => exact .inl rfl | some k => exact .inr fun e => by (cases e; have := LOG.out _ hu; omega))))
  have Z_16 := Lib.hid (Z_15.out.grown hb16 (by simp; omega))
  clear hb16 E15 OW_15 Y_15 X0_15 OG_15 Z_15
  have z0 := (Z_16.out).c0; have z1 := (Z_16.out).c1
  have y0 := (Y_16.out).c0; have y1 := (Y_16.out).c1
  have hkk : (0 : Int) ≤ 1 + (zs0.length : Int) + (zs1.length : Int) := by omega
  go_wp2_with fail
  clear z0 z1 y0 y1
  refine (eqGraph_same N (Value.slice pga pgl pgc) (Value.slice pwa pwl pwc) D w16 OG_16.out.sl OW_16.out.sl (by omega)).mono ?_
  rintro e w17 ⟨rfl, hb17⟩
  have e17 := hb17.size
  have E17 : Below W.heap.size W w17 := E16.trans (hb17.mono (by omega))
  have OW_17 := Lib.hid (OW_16.out.below hb17)
  have Y_17 := Lib.hid (Y_16.out.below hb17)
  have X0_17 := Lib.hid (X0_16.out.below hb17)
  have OG_17 := Lib.hid (OG_16.out.below hb17)
  have Z_17 := Lib.hid (Z_16.out.below hb17)
  clear hb17 E16 OW_16 Y_16 X0_16 OG_16 Z_16
  have z0 := (Z_17.out).c0; have z1 := (Z_17.out).c1
  go_wp2_with fail
  refine (markGraph_any N (Value.slice pga pgl pgc) w8.heap.size D 1 w17 OG_17.out (by decide) (by decide) (by omega)).mono ?_
  rintro e w18 ⟨rfl, hOm, hb18⟩
  clear z0 z1
  have e18 := hb18.size
  have E18 : Below W.heap.size W w18 := E17.grown hb18 (by omega) (fun k e => by have := LOG.out _ e; omega)
  have OW_18 := Lib.hid (OW_17.out.kept hb18 (by (cases hu : (Value.slice pwa pwl pwc).ownBlock with | none => exact .inl rfl | some k => exact .inr fun e => by (have h1 := LOW.out _ hu; have h2 := LOG.out _ e.symm; omega))))
  have Y_18 := Lib.hid (Y_17.out.grown hb18 (fun e => by have := LOG.out _ e.symm; omega))
  have X0_18 := Lib.hid (X0_17.out.grown hb18 (fun e => by have := LOG.out _ e.symm; omega))
  have Z_18 := Lib.hid (Z_17.out.grown hb18 (fun e => by have := LOG.out _ e.symm; omega))
  clear hb18 E17 OW_17 Y_17 X0_17 Z_17
  have OG_18 : Hid (Own w18 w8.heap.size (Value.slice pga pgl pgc) (markL 1 D.length)) := hOm
  clear hOm
  have hd0 : (0 : Int) ≤ 1 + (D.length : Int) := by omega
  have z0 := (Z_18.out).c0; have z1 := (Z_18.out).c1
  go_wp2_with fail
  clear z0 z1
  refine (heldGraph_any N (Value.slice pga pgl pgc) D.length 1 _ OG_18.out.sl (by decide) (by decide) (by omega)).mono ?_
  rintro e w19 ⟨rfl, hb19⟩
  have e19 := hb19.size
  have E19 : Below W.heap.size W w19 := E18.trans (hb19.mono (by omega))
  have OW_19 := Lib.hid (OW_18.out.below hb19)
  have Y_19 := Lib.hid (Y_18.out.below hb19)
  have X0_19 := Lib.hid (X0_18.out.below hb19)
  have Z_19 := Lib.hid (Z_18.out.below hb19)
  have OG_19 := Lib.hid (OG_18.out.below hb19)
  clear hb19 E18 OW_18 Y_18 X0_18 Z_18 OG_18
  have a00 := (A0_0.out.from E19 (by omega)).c0; have a01 := (A0_0.out.from E19 (by omega)).c1
  go_wp2_with fail
  refine (toGraph_any n0 v0 zs0 w19 (SW0.out.below E19) hl20_0).mono ?_
  rintro e w20 ⟨rfl, hB20, hb20⟩
  have T0_20 := Lib.hid hB20; clear hB20
  have e20 := hb20.size
  have E20 : Below W.heap.size W w20 := E19.trans (hb20.mono (by omega))
  have OW_20 := Lib.hid (OW_19.out.below hb20)
  have Y_20 := Lib.hid (Y_19.out.below hb20)
  have X0_20 := Lib.hid (X0_19.out.below hb20)
  have Z_20 := Lib.hid (Z_19.out.below hb20)
  have OG_20 := Lib.hid (OG_19.out.below hb20)
  clear hb20 E19 OW_19 Y_19 X0_19 Z_19 OG_19
  have lT0 : w19.heap.size + 3 < w20.heap.size := T0_20.out.lt
  clear a00 a01
  have a00 := (A0_0.out.from E20 (by omega)).c0; have a01 := (A0_0.out.from E20 (by omega)).c1
  go_wp2_with fail
  refine (toInts_any _ zs1 w20 (SW1.out.below E20) hl20_1).mono ?_
  rintro e w21 ⟨rfl, hB21, hb21⟩
  have T1_21 := Lib.hid hB21; clear hB21
  have e21 := hb21.size
  have E21 : Below W.heap.size W w21 := E20.trans (hb21.mono (by omega))
  have OW_21 := Lib.hid (OW_20.out.below hb21)
  have Y_21 := Lib.hid (Y_20.out.below hb21)
  have X0_21 := Lib.hid (X0_20.out.below hb21)
  have Z_21 := Lib.hid (Z_20.out.below hb21)
  have OG_21 := Lib.hid (OG_20.out.below hb21)
  have T0_21 := Lib.hid (T0_20.out.belowAll hb21)
  clear hb21 E20 OW_20 Y_20 X0_20 Z_20 OG_20 T0_20
  have lT1 : w20.heap.size < w21.heap.size := T1_21.out.lt
  clear a00 a01
  have a00 := (A0_0.out.from E21 (by omega)).c0; have a01 := (A0_0.out.from E21 (by omega)).c1
  have hcon := implOn_any n0 (.slice (some ⟨w19.heap.size + 3, 0, none⟩) zs0.length zs0.length) (.slice (some ⟨w20.heap.size, 0, none⟩) zs1.length zs1.length) zs0 zs1 w21 (T0_21.out.sl _) (T1_21.out.sl _) hl0 hl1 (TW.out.below E21 TW.out.lt)
  go_wp2_with fail
  clear a00 a01
  rw [← HD.out, ← HC.out, ← HN.out] at hcon
  refine hcon.mono ?_
  rintro e w22 ⟨⟨uph, rfl, hO22⟩, hb22⟩
  clear hcon
  obtain ⟨pha, phl, phc, rfl⟩ := own_slice hO22
  have OH_22 : Hid (Own w22 w21.heap.size (Value.slice pha phl phc) D) := hO22
  have LOH : Hid (∀ k, (Value.slice pha phl phc).ownBlock = some k → w21.heap.size ≤ k ∧ k < w22.heap.size) := fun k e => ⟨hO22.ge k e, hO22.lt k e⟩
  clear hO22
  have e22 := hb22.size
  have E22 : Below W.heap.size W w22 := E21.trans (hb22.mono (by omega))
  have OW_22 := Lib.hid (OW_21.out.below hb22)
  have Y_22 := Lib.hid (Y_21.out.below hb22)
  have X0_22 := Lib.hid (X0_21.out.below hb22)
  have Z_22 := Lib.hid (Z_21.out.below hb22)
  have OG_22 := Lib.hid (OG_21.out.below hb22)
  clear hb22 E21 OW_21 Y_21 X0_21 Z_21 OG_21
  have y0 := (Box.alloc Y_22.out (.cells #[.int .i64 N, (Value.slice pha phl phc)] 28)).c0; have y1 := (Box.alloc Y_22.out (.cells #[.int .i64 N, (Value.slice pha phl phc)] 28)).c1
  go_wp2_with fail
  obtain ⟨w23, h23⟩ : ∃ w', w' = w22.alloc (.cells #[.int .i64 N, (Value.slice pha phl phc)] 28) := ⟨_, rfl⟩
  have V_23 : Hid (Box w23 w22.heap.size (.int .i64 N) (Value.slice pha phl phc) 28) := by rw [h23]; exact Box.new w22 _ _ _
  have hb23 : Below w22.heap.size w22 w23 := by rw [h23]; exact (Below.refl _ _).alloc (Nat.le_refl _) _
  rw [← h23]
  clear h23
  have e23 := hb23.size
  have E23 : Below W.heap.size W w23 := E22.trans (hb23.mono (by omega))
  have OW_23 := Lib.hid (OW_22.out.below hb23)
  have Y_23 := Lib.hid (Y_22.out.below hb23)
  have X0_23 := Lib.hid (X0_22.out.below hb23)
  have Z_23 := Lib.hid (Z_22.out.below hb23)
  have OG_23 := Lib.hid (OG_22.out.below hb23)
  have OH_23 := Lib.hid (OH_22.out.below hb23)
  clear hb23 E22 OW_22 Y_22 X0_22 Z_22 OG_22 OH_22
  have lV : w22.heap.size < w23.heap.size := V_23.out.lt
  clear y0 y1
  refine (eqGraph_same N (Value.slice pha phl phc) (Value.slice pwa pwl pwc) D w23 OH_23.out.sl OW_23.out.sl (by omega)).mono ?_
  rintro e w24 ⟨rfl, hb24⟩
  have e24 := hb24.size
  have E24 : Below W.heap.size W w24 := E23.trans (hb24.mono (by omega))
  have OW_24 := Lib.hid (OW_23.out.below hb24)
  have Y_24 := Lib.hid (Y_23.out.below hb24)
  have X0_24 := Lib.hid (X0_23.out.below hb24)
  have Z_24 := Lib.hid (Z_23.out.below hb24)
  have OG_24 := Lib.hid (OG_23.out.below hb24)
  have OH_24 := Lib.hid (OH_23.out.below hb24)
  have V_24 := Lib.hid (V_23.out.below hb24)
  clear hb24 E23 OW_23 Y_23 X0_23 Z_23 OG_23 OH_23 V_23
  have z0 := (Z_24.out).c0; have z1 := (Z_24.out).c1
  go_wp2_with fail
  clear z0 z1
  refine (heldGraph_any N (Value.slice pga pgl pgc) D.length 1 _ OG_24.out.sl (by decide) (by decide) (by omega)).mono ?_
  rintro e w25 ⟨rfl, hb25⟩
  have e25 := hb25.size
  have E25 : Below W.heap.size W w25 := E24.trans (hb25.mono (by omega))
  have OW_25 := Lib.hid (OW_24.out.below hb25)
  have Y_25 := Lib.hid (Y_24.out.below hb25)
  have X0_25 := Lib.hid (X0_24.out.below hb25)
  have Z_25 := Lib.hid (Z_24.out.below hb25)
  have OG_25 := Lib.hid (OG_24.out.below hb25)
  have OH_25 := Lib.hid (OH_24.out.below hb25)
  have V_25 := Lib.hid (V_24.out.below hb25)
  clear hb25 E24 OW_24 Y_24 X0_24 Z_24 OG_24 OH_24 V_24
  go_wp2_with fail
  go_ret
  exact ⟨rfl, D0.trans (E25.mono D0.size)⟩
end Go.Proofs.YtbpcdgfcdahnlaaDoor.fnExactPartOn
