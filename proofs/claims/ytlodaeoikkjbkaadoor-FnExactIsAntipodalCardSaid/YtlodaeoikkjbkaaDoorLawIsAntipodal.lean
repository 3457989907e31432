/-
  laws.FnExactIsAntipodal: the walk: for every argument that comes in the law returns true and leaves what was there.
-/
import Derived.Test.YtlodaeoikkjbkaaDoorMark
import Derived.Test.YtlodaeoikkjbkaaDoorAn3
import Derived.Deep.RegionHeld3
import Derived.Deep.DeepCutAuto
namespace Go.Proofs.YtlodaeoikkjbkaaDoor.fnExactIsAntipodal
open Go.RowKit

theorem below_drew {B B' : Nat} {w w' : World} (h : Below B' w.drew w') (hB : B ≤ B') : Below B w w' := ((Below.refl B w).drew).trans (h.mono hB)
theorem kept_block {w w' : World} (h : Below w.heap.size w w') {k : Nat} {x : Obj} (hx : w.heap[k]? = some x) : w'.heap[k]? = some x := (h.block k (Array.getElem?_eq_some_iff.1 hx).1).trans hx

/-- Block k holds a pair. -/
def Box (w : World) (k : Nat) (x y : Value) (t : TypeId) : Prop := w.heap[k]? = some (.cells #[x, y] t (0, 0))
theorem Box.lt {w : World} {k : Nat} {x y : Value} {t : TypeId} (h : Box w k x y t) : k < w.heap.size := (Array.getElem?_eq_some_iff.1 h).1
theorem Box.new (w : World) (x y : Value) (t : TypeId) : Box (w.alloc (.cells #[x, y] t)) w.heap.size x y t := World.alloc_heap_new w _
theorem Box.below {w w' : World} {k : Nat} {x y : Value} {t : TypeId} (h : Box w k x y t) (hb : Below w.heap.size w w') : Box w' k x y t := (hb.block k h.lt).trans h
theorem Box.from {B : Nat} {w w' : World} {k : Nat} {x y : Value} {t : TypeId} (h : Box w k x y t) (hb : Below B w w') (hk : k < B) : Box w' k x y t := (hb.block k hk).trans h
theorem Box.alloc {w : World} {k : Nat} {x y : Value} {t : TypeId} (h : Box w k x y t) (o : Obj) : Box (w.alloc o) k x y t := h.below ((Below.refl _ _).alloc (Nat.le_refl _) o)
theorem Box.grown {w w' : World} {k : Nat} {x y : Value} {t : TypeId} {row : Option Nat} (h : Box w k x y t) (hg : w.grownBy w' row) (hne : some k ≠ row) : Box w' k x y t := (hg.block k h.lt hne).trans h
theorem Box.c0 {w : World} {k : Nat} {x y : Value} {t : TypeId} (h : Box w k x y t) : w.cell? ⟨k, 0, none⟩ = some x := (two_cells h).1
theorem Box.c1 {w : World} {k : Nat} {x y : Value} {t : TypeId} (h : Box w k x y t) : w.cell? ⟨k, 1, none⟩ = some y := (two_cells h).2.1
theorem blk_grown {w w' : World} {g : Nat} {zs : List Int} {row : Option Nat} (h : Blk w g zs) (hg : w.grownBy w' row) (hne : some g ≠ row) : Blk w' g zs := (hg.block g h.lt hne).trans h
theorem eqInts_same (v1 v2 : Value) (xs : List Int) (w : World) (h1 : Sl w v1 xs) (h2 : Sl w v2 xs) (hx : xs.length ≤ 9223372036854775807) :
    Calls Tryd.prog 14 #[v1, v2] w fun e w' => e = .returned (.bool true) ∧ Below w.heap.size w w' := by
  have := eqInts_any v1 v2 xs xs w h1 h2 hx
  simpa using this

theorem own_slice {w : World} {B : Nat} {u : Value} {L : List Int} (h : Own w B u L) : ∃ a l c, u = .slice a l c := by
  rcases h.form with ⟨rfl, _⟩ | ⟨g, cap, rfl, _⟩
  · exact ⟨_, _, _, rfl⟩
  · exact ⟨_, _, _, rfl⟩

theorem fin_alloc {w q : World} {B : Nat} {N : Int} {u : Value} {D : List Int} (hO : Own q B u D) (hc : w.heap.size ≤ B) (hB : Below w.heap.size w q) :
    Box (q.alloc (.cells #[.int .i64 N, u] 28)) q.heap.size (.int .i64 N) u 28 ∧ Own (q.alloc (.cells #[.int .i64 N, u] 28)) w.heap.size u D ∧ Below w.heap.size w (q.alloc (.cells #[.int .i64 N, u] 28)) ∧ w.heap.size ≤ q.heap.size ∧ u.ownBlock ≠ some q.heap.size :=
  ⟨Box.new q _ _ _, (hO.base hc).below ((Below.refl _ _).alloc (Nat.le_refl _) _), hB.alloc hB.size _, hB.size, fun e => by have := hO.lt _ e; omega⟩
theorem fin_set {w q : World} {b B : Nat} {N : Int} {u : Value} {D : List Int} (hO : Own q B u D) (hc : w.heap.size ≤ B) (hb : b < B) (hw : w.heap.size ≤ b) (RB : q.heap[b]? = some (.cells #[.int .i64 0, .slice none 0 0] 28 (0, 0))) (hB : Below w.heap.size w q) :
    Box ((q.setCell ⟨b, 0, none⟩ (.int .i64 N)).setCell ⟨b, 1, none⟩ u) b (.int .i64 N) u 28 ∧ Own ((q.setCell ⟨b, 0, none⟩ (.int .i64 N)).setCell ⟨b, 1, none⟩ u) w.heap.size u D ∧ Below w.heap.size w ((q.setCell ⟨b, 0, none⟩ (.int .i64 N)).setCell ⟨b, 1, none⟩ u) ∧ w.heap.size ≤ b ∧ u.ownBlock ≠ some b := by
  have hne : u.ownBlock ≠ some b := fun e => by have := hO.ge _ e; omega
  exact ⟨two_set RB, (hO.base hc).kept (grown_set (grown_set ⟨rfl, rfl, rfl, Nat.le_refl _, fun _ _ _ => rfl⟩ b 0 _) b 1 _) (.inr hne), (hB.setCell (p := ⟨b, 0, none⟩) hw _).setCell (p := ⟨b, 1, none⟩) hw _, hw, hne⟩

set_option maxHeartbeats 6400000 in
set_option maxRecDepth 100000 in
theorem law (n0 : Int) (v0 : Value) (zs0 : List Int) (w : World) (hs0 : Sl w v0 zs0) (hl0 : zs0.length ≤ 9223372036854775807) (hT : Tab w) :
    Calls Tryd.prog 8 #[.agg #[.int .i64 n0, v0]] w fun e w' => e = .returned (.bool true) ∧ Below w.heap.size w w' := by
  have HS0 := Lib.hid hs0; clear hs0
  have HT := Lib.hid hT; clear hT
  obtain ⟨W, hW⟩ : ∃ W, W = (w.alloc (.cells #[.int .i64 n0, v0] 24)) := ⟨_, rfl⟩
  have D0 : Below w.heap.size w W := by rw [hW]; exact ((Below.refl _ _).alloc (Nat.le_refl _) _)
  have hsz : w.heap.size + 1 ≤ W.heap.size := by rw [hW]; simp
  have A0_0 : Hid (Box W (w.heap.size) (.int .i64 n0) v0 24) := by rw [hW]; exact heap_new_at w (.cells #[.int .i64 n0, v0] 24) (w.heap.size) (by simp)
  have SW0 := Lib.hid (HS0.out.below D0)
  have TW := Lib.hid (HT.out.belowAll D0)
  by_cases hbig0 : (1048576 : Int) < zs0.length
  · have hsz0 : ∀ W1, Below W.heap.size W W1 → Calls Tryd.prog 10 #[.agg #[.int .i64 n0, v0], .int .i64 (1048576)] W1 fun e w' => e = .returned (.int .i64 (-1)) ∧ Below W1.heap.size W1 w' := fun W1 h => by
      have := szGraph_any n0 v0 zs0 (1048576) W1 ((HS0.out.below D0).below h) (by omega) (by omega) hl0
      rw [if_pos hbig0] at this; exact this
    clear hbig0
    go_enter Tryd.func8, Tryd.ntmps8
    have a00 := A0_0.out.c0; have a01 := A0_0.out.c1
    rw [hW] at a00 a01
    go_wp2_with fail
    rw [← hW]
    clear hW
    refine (hsz0 W (Below.refl _ _)).mono ?_
    rintro e w1 ⟨rfl, hb1⟩
    have e1 := hb1.size
    have E1 : Below W.heap.size W w1 := hb1
    clear a00 a01 hb1
    have a00 := (A0_0.out.from E1 (by omega)).c0; have a01 := (A0_0.out.from E1 (by omega)).c1
    go_wp2_with fail
    go_ret
    exact ⟨rfl, D0.trans (E1.mono D0.size)⟩
  have hsz0 : ∀ W1, Below W.heap.size W W1 → Calls Tryd.prog 10 #[.agg #[.int .i64 n0, v0], .int .i64 (1048576)] W1 fun e w' => e = .returned (.int .i64 (1048576 - zs0.length)) ∧ Below W1.heap.size W1 w' := fun W1 h => by
      have := szGraph_any n0 v0 zs0 (1048576) W1 ((HS0.out.below D0).below h) (by omega) (by omega) hl0
      rw [if_neg hbig0] at this; exact this
  have hsub0 : (0 : Int) ≤ 1048576 - zs0.length := by omega
  have hl20_0 : zs0.length ≤ 1048576 := by omega
  obtain ⟨D, hd⟩ : ∃ d, d = apD n0 zs0 := ⟨_, rfl⟩
  obtain ⟨c, hc⟩ : ∃ c, c = cnC n0 zs0 := ⟨_, rfl⟩
  have HD := Lib.hid hd; have HC := Lib.hid hc
  clear hbig0 hd hc
  go_enter Tryd.func8, Tryd.ntmps8
  have a00 := A0_0.out.c0; have a01 := A0_0.out.c1
  rw [hW] at a00 a01
  go_wp2_with fail
  rw [← hW]
  clear hW
  refine (hsz0 W (Below.refl _ _)).mono ?_
  rintro e w1 ⟨rfl, hb1⟩
  have e1 := hb1.size
  have E1 : Below W.heap.size W w1 := hb1
  clear a00 a01 hb1
  have a00 := (A0_0.out.from E1 (by omega)).c0; have a01 := (A0_0.out.from E1 (by omega)).c1
  clear hsz0
  go_wp2_with fail
  refine (toGraph_any n0 v0 zs0 w1 (SW0.out.below E1) hl20_0).mono ?_
  rintro e w2 ⟨rfl, hB2, hb2⟩
  have T0_2 := Lib.hid hB2; clear hB2
  have e2 := hb2.size
  have E2 : Below W.heap.size W w2 := E1.trans (hb2.mono (by omega))
  clear hb2 E1 
  have lT0 : w1.heap.size + 3 < w2.heap.size := T0_2.out.lt
  clear a00 a01
  have a00 := (A0_0.out.from E2 (by omega)).c0; have a01 := (A0_0.out.from E2 (by omega)).c1
  have hcon := specAn_any n0 (.slice (some ⟨w1.heap.size + 3, 0, none⟩) zs0.length zs0.length) zs0 w2 (T0_2.out.sl _) hl0
  go_wp2_with fail
  clear a00 a01
  rw [← HD.out, ← HC.out] at hcon
  refine hcon.mono ?_
  rintro e w3 ⟨rfl, hb3⟩
  clear hcon
  have e3 := hb3.size
  have E3 : Below W.heap.size W w3 := E2.trans (hb3.mono (by omega))
  clear hb3 E2 
  have a00 := (A0_0.out.from E3 (by omega)).c0; have a01 := (A0_0.out.from E3 (by omega)).c1
  go_wp2_with fail
  clear a00 a01
  refine (toGraph_any n0 v0 zs0 w3 (SW0.out.below E3) hl20_0).mono ?_
  rintro e w4 ⟨rfl, hB4, hb4⟩
  have HB0_4 := Lib.hid hB4; clear hB4
  have e4 := hb4.size
  have E4 : Below W.heap.size W w4 := E3.trans (hb4.mono (by omega))
  clear hb4 E3 
  have lHB0 : w3.heap.size + 3 < w4.heap.size := HB0_4.out.lt
  go_wp2_with fail
  obtain ⟨w5, h5⟩ : ∃ w', w' = w4.alloc (.cells #[.int .i64 n0, .slice (some ⟨w3.heap.size + 3, 0, none⟩) zs0.length zs0.length] 28) := ⟨_, rfl⟩
  have X0_5 : Hid (Box w5 w4.heap.size (.int .i64 n0) (.slice (some ⟨w3.heap.size + 3, 0, none⟩) zs0.length zs0.length) 28) := by rw [h5]; exact Box.new w4 _ _ _
  have hb5 : Below w4.heap.size w4 w5 := by rw [h5]; exact (Below.refl _ _).alloc (Nat.le_refl _) _
  rw [← h5]
  clear h5
  have e5 := hb5.size
  have E5 : Below W.heap.size W w5 := E4.trans (hb5.mono (by omega))
  have HB0_5 := Lib.hid (HB0_4.out.belowAll hb5)
  clear hb5 E4 HB0_4
  have lX0 : w4.heap.size < w5.heap.size := X0_5.out.lt
  have hcon := implAn_any n0 (.slice (some ⟨w3.heap.size + 3, 0, none⟩) zs0.length zs0.length) zs0 w5 (HB0_5.out.sl _) hl0 (TW.out.below E5 TW.out.lt)
  rw [← HD.out, ← HC.out] at hcon
  refine hcon.mono ?_
  rintro e w6 ⟨rfl, hb6⟩
  clear hcon
  have e6 := hb6.size
  have E6 : Below W.heap.size W w6 := E5.trans (hb6.mono (by omega))
  have HB0_6 := Lib.hid (HB0_5.out.belowAll hb6)
  have X0_6 := Lib.hid (X0_5.out.below hb6)
  clear hb6 E5 HB0_5 X0_5
  have a00 := (A0_0.out.from E6 (by omega)).c0; have a01 := (A0_0.out.from E6 (by omega)).c1
  have x0 := (X0_6.out).c0; have x1 := (X0_6.out).c1
  go_wp2_with fail
  go_region_held3 (fun w' => w'.cell? ⟨w.heap.size, 0, none⟩ = some (.int .i64 n0) ∧ w'.cell? ⟨w.heap.size, 1, none⟩ = some v0 ∧ w'.cell? ⟨w4.heap.size, 0, none⟩ = some (.int .i64 n0) ∧ w'.cell? ⟨w4.heap.size, 1, none⟩ = some (.slice (some ⟨w3.heap.size + 3, 0, none⟩) zs0.length zs0.length))
    (go_keep)
    (first | (go_at_call 12; refine (toGraph_any n0 v0 zs0 _ ((SW0.out.below E6).below ((Below.refl _ _).drew)) hl20_0).mono ?_; rintro e q7 ⟨rfl, hBq, hbq⟩; have HBQ := Lib.hid hBq; have hbq' : Below w6.heap.size w6 q7 := below_drew hbq (by simp); have a00 := (Box.below (A0_0.out.from E6 (by omega)) hbq').c0; have a01 := (Box.below (A0_0.out.from E6 (by omega)) hbq').c1; have x0 := (X0_6.out.below hbq').c0; have x1 := (X0_6.out.below hbq').c1; clear hBq) | (go_at_call 15; refine (eqGraph_same n0 _ _ zs0 _ ((HB0_6.out.belowAll hbq').sl _) (HBQ.out.sl _) hl0).mono ?_; rintro e w7 ⟨rfl, hbr⟩; have hb7 : Below w6.heap.size w6 w7 := hbq'.trans (hbr.mono hbq'.size); have a00 := (Box.below (A0_0.out.from E6 (by omega)) hb7).c0; have a01 := (Box.below (A0_0.out.from E6 (by omega)) hb7).c1; have x0 := (X0_6.out.below hb7).c0; have x1 := (X0_6.out.below hb7).c1))
  clear a00 a01 x0 x1 hbq hbq' hbr HBQ
  have e7 := hb7.size
  have E7 : Below W.heap.size W w7 := E6.trans (hb7.mono (by omega))
  have HB0_7 := Lib.hid (HB0_6.out.belowAll hb7)
  have X0_7 := Lib.hid (X0_6.out.below hb7)
  clear hb7 E6 HB0_6 X0_6
  go_wp2_with fail
  go_ret
  exact ⟨rfl, D0.trans (E7.mono D0.size)⟩
end Go.Proofs.YtlodaeoikkjbkaaDoor.fnExactIsAntipodal
