/-
  laws.FnExactFoldedGraph: the walk: for every argument that comes in the law returns true and leaves what was there.
-/
import Derived.Test.YtlodaeoikkjbkaaDoorMark
import Derived.Test.YtlodaeoikkjbkaaDoorMgK
import Derived.Deep.RegionHeld3
import Derived.Deep.DeepCutAuto
namespace Go.Proofs.YtlodaeoikkjbkaaDoor.fnExactFoldedGraph
open Go.RowKit

theorem below_drew {B B' : Nat} {w w' : World} (h : Below B' w.drew w') (hB : B ≤ B') : Below B w w' := ((Below.refl B w).drew).trans (h.mono hB)
theorem kept_block {w w' : World} (h : Below w.heap.size w w') {k : Nat} {x : Obj} (hx : w.heap[k]? = some x) : w'.heap[k]? = some x := (h.block k (Array.getElem?_eq_some_iff.1 hx).1).trans hx

/-- Block k holds a pair. -/
def Box (w : World) (k : Nat) (x y : Value) (t : TypeId) : Prop := w.heap[k]? = some (.cells #[x, y] t (0, 0))
theorem Box.lt {w : World} {k : Nat} {x y : Value} {t : TypeId} (h : Box w k x y t) : k < w.heap.size := (Array.getElem?_eq_some_iff.1 h).1
theorem Box.new (w : World) (x y : Value) (t : TypeId) : Box (w.alloc (.cells #[x, y] t)) w.heap.size x y t := World.alloc_heap_new w _
theorem Box.below {w w' : World} {k : Nat} {x y : Value} {t : TypeId} (h : Box w k x y t) (hb : Below w.heap.size w w') : Box w' k x y t := (hb.block k h.lt).trans h
theorem Box.from {B : Nat} {w w' : World} {k : Nat} {x y : Value} {t : TypeId} (h : Box w k x y t) (hb : Below B w w') (hk : k < B) : Box w' k x y t := (hb.block k hk).trans h
theorem Box.alloc {w : World} {k : Nat} {x y : Value} {t : TypeId} (h : Box w k x y t) (o : Obj) : Box (w.alloc o) k x y t := h.below ((Below.refl _ _).alloc (Nat.le_refl _) o)
theorem Box.grown {w w' : World} {k : Nat} {x y : Value} {t : TypeId} {row : Option Nat} (h : Box w k x y t) (hg : w.grownBy w' row) (hne : some k ≠ row) : Box w' k x y t := (hg.block k h.lt hne).trans h
theorem Box.c0 {w : World} {k : Nat} {x y : Value} {t : TypeId} (h : Box w k x y t) : w.cell? ⟨k, 0, none⟩ = some x := (two_cells h).1
theorem Box.c1 {w : World} {k : Nat} {x y : Value} {t : TypeId} (h : Box w k x y t) : w.cell? ⟨k, 1, none⟩ = some y := (two_cells h).2.1
theorem blk_grown {w w' : World} {g : Nat} {zs : List Int} {row : Option Nat} (h : Blk w g zs) (hg : w.grownBy w' row) (hne : some g ≠ row) : Blk w' g zs := (hg.block g h.lt hne).trans h
theorem eqInts_same (v1 v2 : Value) (xs : List Int) (w : World) (h1 : Sl w v1 xs) (h2 : Sl w v2 xs) (hx : xs.length ≤ 9223372036854775807) :
    Calls Tryd.prog 14 #[v1, v2] w fun e w' => e = .returned (.bool true) ∧ Below w.heap.size w w' := by
  have := eqInts_any v1 v2 xs xs w h1 h2 hx
  simpa using this

theorem own_slice {w : World} {B : Nat} {u : Value} {L : List Int} (h : Own w B u L) : ∃ a l c, u = .slice a l c := by
  rcases h.form with ⟨rfl, _⟩ | ⟨g, cap, rfl, _⟩
  · exact ⟨_, _, _, rfl⟩
  · exact ⟨_, _, _, rfl⟩

theorem fin_alloc {w q : World} {B : Nat} {N : Int} {u : Value} {D : List Int} (hO : Own q B u D) (hc : w.heap.size ≤ B) (hB : Below w.heap.size w q) :
    Box (q.alloc (.cells #[.int .i64 N, u] 28)) q.heap.size (.int .i64 N) u 28 ∧ Own (q.alloc (.cells #[.int .i64 N, u] 28)) w.heap.size u D ∧ Below w.heap.size w (q.alloc (.cells #[.int .i64 N, u] 28)) ∧ w.heap.size ≤ q.heap.size ∧ u.ownBlock ≠ some q.heap.size :=
  ⟨Box.new q _ _ _, (hO.base hc).below ((Below.refl _ _).alloc (Nat.le_refl _) _), hB.alloc hB.size _, hB.size, fun e => by have := hO.lt _ e; omega⟩
theorem fin_set {w q : World} {b B : Nat} {N : Int} {u : Value} {D : List Int} (hO : Own q B u D) (hc : w.heap.size ≤ B) (hb : b < B) (hw : w.heap.size ≤ b) (RB : q.heap[b]? = some (.cells #[.int .i64 0, .slice none 0 0] 28 (0, 0))) (hB : Below w.heap.size w q) :
    Box ((q.setCell ⟨b, 0, none⟩ (.int .i64 N)).setCell ⟨b, 1, none⟩ u) b (.int .i64 N) u 28 ∧ Own ((q.setCell ⟨b, 0, none⟩ (.int .i64 N)).setCell ⟨b, 1, none⟩ u) w.heap.size u D ∧ Below w.heap.size w ((q.setCell ⟨b, 0, none⟩ (.int .i64 N)).setCell ⟨b, 1, none⟩ u) ∧ w.heap.size ≤ b ∧ u.ownBlock ≠ some b := by
  have hne : u.ownBlock ≠ some b := fun e => by have := hO.ge _ e; omega
  exact ⟨two_set RB, (hO.base hc).kept (grown_set (grown_set ⟨rfl, rfl, rfl, Nat.le_refl _, fun _ _ _ => rfl⟩ b 0 _) b 1 _) (.inr hne), (hB.setCell (p := ⟨b, 0, none⟩) hw _).setCell (p := ⟨b, 1, none⟩) hw _, hw, hne⟩

set_option maxHeartbeats 6400000 in
set_option maxRecDepth 100000 in
theorem law (n0 : Int) (v0 : Value) (zs0 : List Int) (w : World) (hs0 : Sl w v0 zs0) (hl0 : zs0.length ≤ 9223372036854775807) (hT : Tab w) :
    Calls Tryd.prog 9 #[.agg #[.int .i64 n0, v0]] w fun e w' => e = .returned (.bool true) ∧ Below w.heap.size w w' := by
  have HS0 := Lib.hid hs0; clear hs0
  have HT := Lib.hid hT; clear hT
  obtain ⟨W, hW⟩ : ∃ W, W = (w.alloc (.cells #[.int .i64 n0, v0] 24)) := ⟨_, rfl⟩
  have D0 : Below w.heap.size w W := by rw [hW]; exact ((Below.refl _ _).alloc (Nat.le_refl _) _)
  have hsz : w.heap.size + 1 ≤ W.heap.size := by rw [hW]; simp
  have A0_0 : Hid (Box W (w.heap.size) (.int .i64 n0) v0 24) := by rw [hW]; exact heap_new_at w (.cells #[.int .i64 n0, v0] 24) (w.heap.size) (by simp)
  have SW0 := Lib.hid (HS0.out.below D0)
  have TW := Lib.hid (HT.out.belowAll D0)
  by_cases hbig0 : (1048576 : Int) < zs0.length
  · have hsz0 : ∀ W1, Below W.heap.size W W1 → Calls Tryd.prog 10 #[.agg #[.int .i64 n0, v0], .int .i64 (1048576)] W1 fun e w' => e = .returned (.int .i64 (-1)) ∧ Below W1.heap.size W1 w' := fun W1 h => by
      have := szGraph_any n0 v0 zs0 (1048576) W1 ((HS0.out.below D0).below h) (by omega) (by omega) hl0
      rw [if_pos hbig0] at this; exact this
    clear hbig0
    go_enter Tryd.func9, Tryd.ntmps9
    have a00 := A0_0.out.c0; have a01 := A0_0.out.c1
    rw [hW] at a00 a01
    go_wp2_with fail
    rw [← hW]
    clear hW
    refine (hsz0 W (Below.refl _ _)).mono ?_
    rintro e w1 ⟨rfl, hb1⟩
    have e1 := hb1.size
    have E1 : Below W.heap.size W w1 := hb1
    clear a00 a01 hb1
    have a00 := (A0_0.out.from E1 (by omega)).c0; have a01 := (A0_0.out.from E1 (by omega)).c1
    go_wp2_with fail
    go_ret
    exact ⟨rfl, D0.trans (E1.mono D0.size)⟩
  have hsz0 : ∀ W1, Below W.heap.size W W1 → Calls Tryd.prog 10 #[.agg #[.int .i64 n0, v0], .int .i64 (1048576)] W1 fun e w' => e = .returned (.int .i64 (1048576 - zs0.length)) ∧ Below W1.heap.size W1 w' := fun W1 h => by
      have := szGraph_any n0 v0 zs0 (1048576) W1 ((HS0.out.below D0).below h) (by omega) (by omega) hl0
      rw [if_neg hbig0] at this; exact this
  have hsub0 : (0 : Int) ≤ 1048576 - zs0.length := by omega
  have hl20_0 : zs0.length ≤ 1048576 := by omega
  obtain ⟨D, hd⟩ : ∃ d, d = FdL n0 zs0 := ⟨_, rfl⟩
  obtain ⟨N, hn⟩ : ∃ d, d = FdN n0 zs0 := ⟨_, rfl⟩
  obtain ⟨c, hc⟩ : ∃ c, c = FdC n0 zs0 := ⟨_, rfl⟩
  have hD20 : D.length ≤ 1048576 := by rw [hd]; exact Nat.le_trans FdL_length (by decide)
  have HD := Lib.hid hd; have HC := Lib.hid hc; have HN := Lib.hid hn
  clear hbig0 hd hc hn
  go_enter Tryd.func9, Tryd.ntmps9
  have a00 := A0_0.out.c0; have a01 := A0_0.out.c1
  rw [hW] at a00 a01
  go_wp2_with fail
  rw [← hW]
  clear hW
  refine (hsz0 W (Below.refl _ _)).mono ?_
  rintro e w1 ⟨rfl, hb1⟩
  have e1 := hb1.size
  have E1 : Below W.heap.size W w1 := hb1
  clear a00 a01 hb1
  have a00 := (A0_0.out.from E1 (by omega)).c0; have a01 := (A0_0.out.from E1 (by omega)).c1
  clear hsz0
  go_wp2_with fail
  refine (toGraph_any n0 v0 zs0 w1 (SW0.out.below E1) hl20_0).mono ?_
  rintro e w2 ⟨rfl, hB2, hb2⟩
  have T0_2 := Lib.hid hB2; clear hB2
  have e2 := hb2.size
  have E2 : Below W.heap.size W w2 := E1.trans (hb2.mono (by omega))
  clear hb2 E1 
  have lT0 : w1.heap.size + 3 < w2.heap.size := T0_2.out.lt
  clear a00 a01
  have a00 := (A0_0.out.from E2 (by omega)).c0; have a01 := (A0_0.out.from E2 (by omega)).c1
  have hcon := specFd_any n0 (.slice (some ⟨w1.heap.size + 3, 0, none⟩) zs0.length zs0.length) zs0 w2 (T0_2.out.sl _) hl0
  go_wp2_with fail
  clear a00 a01
  rw [← HD.out, ← HC.out, ← HN.out] at hcon
  refine hcon.mono ?_
  rintro e w3 ⟨⟨upw, rfl, hO3⟩, hb3⟩
  clear hcon
  obtain ⟨pwa, pwl, pwc, rfl⟩ := own_slice hO3
  have OW_3 : Hid (Own w3 w2.heap.size (Value.slice pwa pwl pwc) D) := hO3
  have LOW : Hid (∀ k, (Value.slice pwa pwl pwc).ownBlock = some k → w2.heap.size ≤ k ∧ k < w3.heap.size) := fun k e => ⟨hO3.ge k e, hO3.lt k e⟩
  clear hO3
  have e3 := hb3.size
  have E3 : Below W.heap.size W w3 := E2.trans (hb3.mono (by omega))
  clear hb3 E2 
  have a00 := (Box.alloc (A0_0.out.from E3 (by omega)) (.cells #[.int .i64 N, (Value.slice pwa pwl pwc)] 28)).c0; have a01 := (Box.alloc (A0_0.out.from E3 (by omega)) (.cells #[.int .i64 N, (Value.slice pwa pwl pwc)] 28)).c1
  go_wp2_with fail
  obtain ⟨w4, h4⟩ : ∃ w', w' = w3.alloc (.cells #[.int .i64 N, (Value.slice pwa pwl pwc)] 28) := ⟨_, rfl⟩
  have Y_4 : Hid (Box w4 w3.heap.size (.int .i64 N) (Value.slice pwa pwl pwc) 28) := by rw [h4]; exact Box.new w3 _ _ _
  have hb4 : Below w3.heap.size w3 w4 := by rw [h4]; exact (Below.refl _ _).alloc (Nat.le_refl _) _
  rw [← h4]
  clear h4
  have e4 := hb4.size
  have E4 : Below W.heap.size W w4 := E3.trans (hb4.mono (by omega))
  have OW_4 := Lib.hid (OW_3.out.below hb4)
  clear hb4 E3 OW_3
  have lY : w3.heap.size < w4.heap.size := Y_4.out.lt
  clear a00 a01
  refine (toGraph_any n0 v0 zs0 w4 (SW0.out.below E4) hl20_0).mono ?_
  rintro e w5 ⟨rfl, hB5, hb5⟩
  have HB0_5 := Lib.hid hB5; clear hB5
  have e5 := hb5.size
  have E5 : Below W.heap.size W w5 := E4.trans (hb5.mono (by omega))
  have OW_5 := Lib.hid (OW_4.out.below hb5)
  have Y_5 := Lib.hid (Y_4.out.below hb5)
  clear hb5 E4 OW_4 Y_4
  have lHB0 : w4.heap.size + 3 < w5.heap.size := HB0_5.out.lt
  go_wp2_with fail
  obtain ⟨w6, h6⟩ : ∃ w', w' = w5.alloc (.cells #[.int .i64 n0, .slice (some ⟨w4.heap.size + 3, 0, none⟩) zs0.length zs0.length] 28) := ⟨_, rfl⟩
  have X0_6 : Hid (Box w6 w5.heap.size (.int .i64 n0) (.slice (some ⟨w4.heap.size + 3, 0, none⟩) zs0.length zs0.length) 28) := by rw [h6]; exact Box.new w5 _ _ _
  have hb6 : Below w5.heap.size w5 w6 := by rw [h6]; exact (Below.refl _ _).alloc (Nat.le_refl _) _
  rw [← h6]
  clear h6
  have e6 := hb6.size
  have E6 : Below W.heap.size W w6 := E5.trans (hb6.mono (by omega))
  have OW_6 := Lib.hid (OW_5.out.below hb6)
  have Y_6 := Lib.hid (Y_5.out.below hb6)
  have HB0_6 := Lib.hid (HB0_5.out.belowAll hb6)
  clear hb6 E5 OW_5 Y_5 HB0_5
  have lX0 : w5.heap.size < w6.heap.size := X0_6.out.lt
  have hcon := implFd_any n0 (.slice (some ⟨w4.heap.size + 3, 0, none⟩) zs0.length zs0.length) zs0 w6 (HB0_6.out.sl _) hl0 (TW.out.below E6 TW.out.lt)
  rw [← HD.out, ← HC.out, ← HN.out] at hcon
  refine hcon.mono ?_
  rintro e w7 ⟨⟨upg, rfl, hO7⟩, hb7⟩
  clear hcon
  obtain ⟨pga, pgl, pgc, rfl⟩ := own_slice hO7
  have OG_7 : Hid (Own w7 w6.heap.size (Value.slice pga pgl pgc) D) := hO7
  have LOG : Hid (∀ k, (Value.slice pga pgl pgc).ownBlock = some k → w6.heap.size ≤ k ∧ k < w7.heap.size) := fun k e => ⟨hO7.ge k e, hO7.lt k e⟩
  clear hO7
  have e7 := hb7.size
  have E7 : Below W.heap.size W w7 := E6.trans (hb7.mono (by omega))
  have OW_7 := Lib.hid (OW_6.out.below hb7)
  have Y_7 := Lib.hid (Y_6.out.below hb7)
  have HB0_7 := Lib.hid (HB0_6.out.belowAll hb7)
  have X0_7 := Lib.hid (X0_6.out.below hb7)
  clear hb7 E6 OW_6 Y_6 HB0_6 X0_6
  have y0 := (Box.alloc Y_7.out (.cells #[.int .i64 N, (Value.slice pga pgl pgc)] 28)).c0; have y1 := (Box.alloc Y_7.out (.cells #[.int .i64 N, (Value.slice pga pgl pgc)] 28)).c1
  go_wp2_with fail
  obtain ⟨w8, h8⟩ : ∃ w', w' = w7.alloc (.cells #[.int .i64 N, (Value.slice pga pgl pgc)] 28) := ⟨_, rfl⟩
  have Z_8 : Hid (Box w8 w7.heap.size (.int .i64 N) (Value.slice pga pgl pgc) 28) := by rw [h8]; exact Box.new w7 _ _ _
  have hb8 : Below w7.heap.size w7 w8 := by rw [h8]; exact (Below.refl _ _).alloc (Nat.le_refl _) _
  rw [← h8]
  clear h8
  have e8 := hb8.size
  have E8 : Below W.heap.size W w8 := E7.trans (hb8.mono (by omega))
  have OW_8 := Lib.hid (OW_7.out.below hb8)
  have Y_8 := Lib.hid (Y_7.out.below hb8)
  have HB0_8 := Lib.hid (HB0_7.out.belowAll hb8)
  have X0_8 := Lib.hid (X0_7.out.below hb8)
  have OG_8 := Lib.hid (OG_7.out.below hb8)
  clear hb8 E7 OW_7 Y_7 HB0_7 X0_7 OG_7
  have lZ : w7.heap.size < w8.heap.size := Z_8.out.lt
  clear y0 y1
  refine (eqGraph_same N (Value.slice pga pgl pgc) (Value.slice pwa pwl pwc) D w8 OG_8.out.sl OW_8.out.sl (by omega)).mono ?_
  rintro e w9 ⟨rfl, hb9⟩
  have e9 := hb9.size
  have E9 : Below W.heap.size W w9 := E8.trans (hb9.mono (by omega))
  have OW_9 := Lib.hid (OW_8.out.below hb9)
  have Y_9 := Lib.hid (Y_8.out.below hb9)
  have HB0_9 := Lib.hid (HB0_8.out.belowAll hb9)
  have X0_9 := Lib.hid (X0_8.out.below hb9)
  have OG_9 := Lib.hid (OG_8.out.below hb9)
  have Z_9 := Lib.hid (Z_8.out.below hb9)
  clear hb9 E8 OW_8 Y_8 HB0_8 X0_8 OG_8 Z_8
  have a00 := (A0_0.out.from E9 (by omega)).c0; have a01 := (A0_0.out.from E9 (by omega)).c1
  have x0 := (X0_9.out).c0; have x1 := (X0_9.out).c1
  go_wp2_with fail
  go_region_held3 (fun w' => w'.cell? ⟨w.heap.size, 0, none⟩ = some (.int .i64 n0) ∧ w'.cell? ⟨w.heap.size, 1, none⟩ = some v0 ∧ w'.cell? ⟨w5.heap.size, 0, none⟩ = some (.int .i64 n0) ∧ w'.cell? ⟨w5.heap.size, 1, none⟩ = some (.slice (some ⟨w4.heap.size + 3, 0, none⟩) zs0.length zs0.length))
    (go_keep)
    (first | (go_at_call 12; refine (toGraph_any n0 v0 zs0 _ ((SW0.out.below E9).below ((Below.refl _ _).drew)) hl20_0).mono ?_; rintro e q10 ⟨rfl, hBq, hbq⟩; have HBQ := Lib.hid hBq; have hbq' : Below w9.heap.size w9 q10 := below_drew hbq (by simp); have a00 := (Box.below (A0_0.out.from E9 (by omega)) hbq').c0; have a01 := (Box.below (A0_0.out.from E9 (by omega)) hbq').c1; have x0 := (X0_9.out.below hbq').c0; have x1 := (X0_9.out.below hbq').c1; clear hBq) | (go_at_call 15; refine (eqGraph_same n0 _ _ zs0 _ ((HB0_9.out.belowAll hbq').sl _) (HBQ.out.sl _) hl0).mono ?_; rintro e w10 ⟨rfl, hbr⟩; have hb10 : Below w9.heap.size w9 w10 := hbq'.trans (hbr.mono hbq'.size); have a00 := (Box.below (A0_0.out.from E9 (by omega)) hb10).c0; have a01 := (Box.below (A0_0.out.from E9 (by omega)) hb10).c1; have x0 := (X0_9.out.below hb10).c0; have x1 := (X0_9.out.below hb10).c1))
  clear a00 a01 x0 x1 hbq hbq' hbr HBQ
  have e10 := hb10.size
  have E10 : Below W.heap.size W w10 := E9.trans (hb10.mono (by omega))
  have OW_10 := Lib.hid (OW_9.out.below hb10)
  have Y_10 := Lib.hid (Y_9.out.below hb10)
  have HB0_10 := Lib.hid (HB0_9.out.belowAll hb10)
  have X0_10 := Lib.hid (X0_9.out.below hb10)
  have OG_10 := Lib.hid (OG_9.out.below hb10)
  have Z_10 := Lib.hid (Z_9.out.below hb10)
  clear hb10 E9 OW_9 Y_9 HB0_9 X0_9 OG_9 Z_9
  have x0 := (X0_10.out).c0; have x1 := (X0_10.out).c1
  have hk0 : (0 : Int) ≤ 1 := by omega
  go_wp2_with fail
  refine (markGraph_any n0 (.slice (some ⟨w4.heap.size + 3, 0, none⟩) zs0.length zs0.length) (w4.heap.size + 3) zs0 (1) w10 (Own.of_blk HB0_10.out (Nat.le_refl _) (by unfold maxLen; omega)) (by omega) (by omega) (by omega)).mono ?_
  rintro e w11 ⟨rfl, -, hg⟩
  clear x0 x1
  have hb11 : w10.grownBy w11 (some (w4.heap.size + 3)) := hg
  clear hg
  have e11 := hb11.size
  have E11 : Below W.heap.size W w11 := E10.grown hb11 (by omega) (fun k e => by cases e; omega)
  have OW_11 := Lib.hid (OW_10.out.kept hb11 (by (cases hu : (Value.slice pwa pwl pwc).ownBlock with | none => exact .inl rfl | some k => exact .inr fun e => by (cases e; have := LOW.out _ hu; omega))))
  have Y_11 := Lib.hid (Y_10.out.grown hb11 (by simp; omega))
  have X0_11 := Lib.hid (X0_10.out.grown hb11 (by simp; omega))
  have OG_11 := Lib.hid (OG_10.out.kept hb11 (by (cases hu : (Value.slice pga pgl pgc).ownBlock with | none => exact .inl rfl | some k => exact .inr fun e => by (cases e; have := LOG.out _ hu; omega))))
  have Z_11 := Lib.hid (Z_10.out.grown hb11 (by simp; omega))
  clear hb11 E10 OW_10 Y_10 X0_10 OG_10 Z_10
  have z0 := (Z_11.out).c0; have z1 := (Z_11.out).c1
  have y0 := (Y_11.out).c0; have y1 := (Y_11.out).c1
  have hkk : (0 : Int) ≤ 1 + (zs0.length : Int) := by omega
  go_wp2_with fail
  clear z0 z1 y0 y1
  refine (eqGraph_same N (Value.slice pga pgl pgc) (Value.slice pwa pwl pwc) D w11 OG_11.out.sl OW_11.out.sl (by omega)).mono ?_
  rintro e w12 ⟨rfl, hb12⟩
  have e12 := hb12.size
  have E12 : Below W.heap.size W w12 := E11.trans (hb12.mono (by omega))
  have OW_12 := Lib.hid (OW_11.out.below hb12)
  have Y_12 := Lib.hid (Y_11.out.below hb12)
  have X0_12 := Lib.hid (X0_11.out.below hb12)
  have OG_12 := Lib.hid (OG_11.out.below hb12)
  have Z_12 := Lib.hid (Z_11.out.below hb12)
  clear hb12 E11 OW_11 Y_11 X0_11 OG_11 Z_11
  have z0 := (Z_12.out).c0; have z1 := (Z_12.out).c1
  go_wp2_with fail
  refine (markGraph_any N (Value.slice pga pgl pgc) w6.heap.size D 1 w12 OG_12.out (by decide) (by decide) (by omega)).mono ?_
  rintro e w13 ⟨rfl, hOm, hb13⟩
  clear z0 z1
  have e13 := hb13.size
  have E13 : Below W.heap.size W w13 := E12.grown hb13 (by omega) (fun k e => by have := LOG.out _ e; omega)
  have OW_13 := Lib.hid (OW_12.out.kept hb13 (by (cases hu : (Value.slice pwa pwl pwc).ownBlock with | none => exact .inl rfl | some k => exact .inr fun e => by (have h1 := LOW.out _ hu; have h2 := LOG.out _ e.symm; omega))))
  have Y_13 := Lib.hid (Y_12.out.grown hb13 (fun e => by have := LOG.out _ e.symm; omega))
  have X0_13 := Lib.hid (X0_12.out.grown hb13 (fun e => by have := LOG.out _ e.symm; omega))
  have Z_13 := Lib.hid (Z_12.out.grown hb13 (fun e => by have := LOG.out _ e.symm; omega))
  clear hb13 E12 OW_12 Y_12 X0_12 Z_12
  have OG_13 : Hid (Own w13 w6.heap.size (Value.slice pga pgl pgc) (markL 1 D.length)) := hOm
  clear hOm
  have hd0 : (0 : Int) ≤ 1 + (D.length : Int) := by omega
  have z0 := (Z_13.out).c0; have z1 := (Z_13.out).c1
  go_wp2_with fail
  clear z0 z1
  refine (heldGraph_any N (Value.slice pga pgl pgc) D.length 1 _ OG_13.out.sl (by decide) (by decide) (by omega)).mono ?_
  rintro e w14 ⟨rfl, hb14⟩
  have e14 := hb14.size
  have E14 : Below W.heap.size W w14 := E13.trans (hb14.mono (by omega))
  have OW_14 := Lib.hid (OW_13.out.below hb14)
  have Y_14 := Lib.hid (Y_13.out.below hb14)
  have X0_14 := Lib.hid (X0_13.out.below hb14)
  have Z_14 := Lib.hid (Z_13.out.below hb14)
  have OG_14 := Lib.hid (OG_13.out.below hb14)
  clear hb14 E13 OW_13 Y_13 X0_13 Z_13 OG_13
  have a00 := (A0_0.out.from E14 (by omega)).c0; have a01 := (A0_0.out.from E14 (by omega)).c1
  go_wp2_with fail
  refine (toGraph_any n0 v0 zs0 w14 (SW0.out.below E14) hl20_0).mono ?_
  rintro e w15 ⟨rfl, hB15, hb15⟩
  have T0_15 := Lib.hid hB15; clear hB15
  have e15 := hb15.size
  have E15 : Below W.heap.size W w15 := E14.trans (hb15.mono (by omega))
  have OW_15 := Lib.hid (OW_14.out.below hb15)
  have Y_15 := Lib.hid (Y_14.out.below hb15)
  have X0_15 := Lib.hid (X0_14.out.below hb15)
  have Z_15 := Lib.hid (Z_14.out.below hb15)
  have OG_15 := Lib.hid (OG_14.out.below hb15)
  clear hb15 E14 OW_14 Y_14 X0_14 Z_14 OG_14
  have lT0 : w14.heap.size + 3 < w15.heap.size := T0_15.out.lt
  clear a00 a01
  have a00 := (A0_0.out.from E15 (by omega)).c0; have a01 := (A0_0.out.from E15 (by omega)).c1
  have hcon := implFd_any n0 (.slice (some ⟨w14.heap.size + 3, 0, none⟩) zs0.length zs0.length) zs0 w15 (T0_15.out.sl _) hl0 (TW.out.below E15 TW.out.lt)
  go_wp2_with fail
  clear a00 a01
  rw [← HD.out, ← HC.out, ← HN.out] at hcon
  refine hcon.mono ?_
  rintro e w16 ⟨⟨uph, rfl, hO16⟩, hb16⟩
  clear hcon
  obtain ⟨pha, phl, phc, rfl⟩ := own_slice hO16
  have OH_16 : Hid (Own w16 w15.heap.size (Value.slice pha phl phc) D) := hO16
  have LOH : Hid (∀ k, (Value.slice pha phl phc).ownBlock = some k → w15.heap.size ≤ k ∧ k < w16.heap.size) := fun k e => ⟨hO16.ge k e, hO16.lt k e⟩
  clear hO16
  have e16 := hb16.size
  have E16 : Below W.heap.size W w16 := E15.trans (hb16.mono (by omega))
  have OW_16 := Lib.hid (OW_15.out.below hb16)
  have Y_16 := Lib.hid (Y_15.out.below hb16)
  have X0_16 := Lib.hid (X0_15.out.below hb16)
  have Z_16 := Lib.hid (Z_15.out.below hb16)
  have OG_16 := Lib.hid (OG_15.out.below hb16)
  clear hb16 E15 OW_15 Y_15 X0_15 Z_15 OG_15
  have y0 := (Box.alloc Y_16.out (.cells #[.int .i64 N, (Value.slice pha phl phc)] 28)).c0; have y1 := (Box.alloc Y_16.out (.cells #[.int .i64 N, (Value.slice pha phl phc)] 28)).c1
  go_wp2_with fail
  obtain ⟨w17, h17⟩ : ∃ w', w' = w16.alloc (.cells #[.int .i64 N, (Value.slice pha phl phc)] 28) := ⟨_, rfl⟩
  have V_17 : Hid (Box w17 w16.heap.size (.int .i64 N) (Value.slice pha phl phc) 28) := by rw [h17]; exact Box.new w16 _ _ _
  have hb17 : Below w16.heap.size w16 w17 := by rw [h17]; exact (Below.refl _ _).alloc (Nat.le_refl _) _
  rw [← h17]
  clear h17
  have e17 := hb17.size
  have E17 : Below W.heap.size W w17 := E16.trans (hb17.mono (by omega))
  have OW_17 := Lib.hid (OW_16.out.below hb17)
  have Y_17 := Lib.hid (Y_16.out.below hb17)
  have X0_17 := Lib.hid (X0_16.out.below hb17)
  have Z_17 := Lib.hid (Z_16.out.below hb17)
  have OG_17 := Lib.hid (OG_16.out.below hb17)
  have OH_17 := Lib.hid (OH_16.out.below hb17)
  clear hb17 E16 OW_16 Y_16 X0_16 Z_16 OG_16 OH_16
  have lV : w16.heap.size < w17.heap.size := V_17.out.lt
  clear y0 y1
  refine (eqGraph_same N (Value.slice pha phl phc) (Value.slice pwa pwl pwc) D w17 OH_17.out.sl OW_17.out.sl (by omega)).mono ?_
  rintro e w18 ⟨rfl, hb18⟩
  have e18 := hb18.size
  have E18 : Below W.heap.size W w18 := E17.trans (hb18.mono (by omega))
  have OW_18 := Lib.hid (OW_17.out.below hb18)
  have Y_18 := Lib.hid (Y_17.out.below hb18)
  have X0_18 := Lib.hid (X0_17.out.below hb18)
  have Z_18 := Lib.hid (Z_17.out.below hb18)
  have OG_18 := Lib.hid (OG_17.out.below hb18)
  have OH_18 := Lib.hid (OH_17.out.below hb18)
  have V_18 := Lib.hid (V_17.out.below hb18)
  clear hb18 E17 OW_17 Y_17 X0_17 Z_17 OG_17 OH_17 V_17
  have z0 := (Z_18.out).c0; have z1 := (Z_18.out).c1
  go_wp2_with fail
  clear z0 z1
  refine (heldGraph_any N (Value.slice pga pgl pgc) D.length 1 _ OG_18.out.sl (by decide) (by decide) (by omega)).mono ?_
  rintro e w19 ⟨rfl, hb19⟩
  have e19 := hb19.size
  have E19 : Below W.heap.size W w19 := E18.trans (hb19.mono (by omega))
  have OW_19 := Lib.hid (OW_18.out.below hb19)
  have Y_19 := Lib.hid (Y_18.out.below hb19)
  have X0_19 := Lib.hid (X0_18.out.below hb19)
  have Z_19 := Lib.hid (Z_18.out.below hb19)
  have OG_19 := Lib.hid (OG_18.out.below hb19)
  have OH_19 := Lib.hid (OH_18.out.below hb19)
  have V_19 := Lib.hid (V_18.out.below hb19)
  clear hb19 E18 OW_18 Y_18 X0_18 Z_18 OG_18 OH_18 V_18
  go_wp2_with fail
  go_ret
  exact ⟨rfl, D0.trans (E19.mono D0.size)⟩
end Go.Proofs.YtlodaeoikkjbkaaDoor.fnExactFoldedGraph
