/-
  laws.FnExactIsCover: the walk: for every argument that comes in the law returns true and leaves what was there.
-/
import Derived.Test.YtlodaeoikkjbkaaDoorMark
import Derived.Test.YtlodaeoikkjbkaaDoorIc
import Derived.Deep.RegionHeld3
import Derived.Deep.DeepCutAuto
namespace Go.Proofs.YtlodaeoikkjbkaaDoor.fnExactIsCover
set_option maxRecDepth 100000
open Go.RowKit

theorem below_drew {B B' : Nat} {w w' : World} (h : Below B' w.drew w') (hB : B ≤ B') : Below B w w' := ((Below.refl B w).drew).trans (h.mono hB)
theorem kept_block {w w' : World} (h : Below w.heap.size w w') {k : Nat} {x : Obj} (hx : w.heap[k]? = some x) : w'.heap[k]? = some x := (h.block k (Array.getElem?_eq_some_iff.1 hx).1).trans hx

/-- Block k holds a pair. -/
def Box (w : World) (k : Nat) (x y : Value) (t : TypeId) : Prop := w.heap[k]? = some (.cells #[x, y] t (0, 0))
theorem Box.lt {w : World} {k : Nat} {x y : Value} {t : TypeId} (h : Box w k x y t) : k < w.heap.size := (Array.getElem?_eq_some_iff.1 h).1
theorem Box.new (w : World) (x y : Value) (t : TypeId) : Box (w.alloc (.cells #[x, y] t)) w.heap.size x y t := World.alloc_heap_new w _
theorem Box.below {w w' : World} {k : Nat} {x y : Value} {t : TypeId} (h : Box w k x y t) (hb : Below w.heap.size w w') : Box w' k x y t := (hb.block k h.lt).trans h
theorem Box.from {B : Nat} {w w' : World} {k : Nat} {x y : Value} {t : TypeId} (h : Box w k x y t) (hb : Below B w w') (hk : k < B) : Box w' k x y t := (hb.block k hk).trans h
theorem Box.alloc {w : World} {k : Nat} {x y : Value} {t : TypeId} (h : Box w k x y t) (o : Obj) : Box (w.alloc o) k x y t := h.below ((Below.refl _ _).alloc (Nat.le_refl _) o)
theorem Box.grown {w w' : World} {k : Nat} {x y : Value} {t : TypeId} {row : Option Nat} (h : Box w k x y t) (hg : w.grownBy w' row) (hne : some k ≠ row) : Box w' k x y t := (hg.block k h.lt hne).trans h
theorem Box.c0 {w : World} {k : Nat} {x y : Value} {t : TypeId} (h : Box w k x y t) : w.cell? ⟨k, 0, none⟩ = some x := (two_cells h).1
theorem Box.c1 {w : World} {k : Nat} {x y : Value} {t : TypeId} (h : Box w k x y t) : w.cell? ⟨k, 1, none⟩ = some y := (two_cells h).2.1
theorem blk_grown {w w' : World} {g : Nat} {zs : List Int} {row : Option Nat} (h : Blk w g zs) (hg : w.grownBy w' row) (hne : some g ≠ row) : Blk w' g zs := (hg.block g h.lt hne).trans h
theorem eqInts_same (v1 v2 : Value) (xs : List Int) (w : World) (h1 : Sl w v1 xs) (h2 : Sl w v2 xs) (hx : xs.length ≤ 9223372036854775807) :
    Calls Tryd.prog 14 #[v1, v2] w fun e w' => e = .returned (.bool true) ∧ Below w.heap.size w w' := by
  have := eqInts_any v1 v2 xs xs w h1 h2 hx
  simpa using this

theorem own_slice {w : World} {B : Nat} {u : Value} {L : List Int} (h : Own w B u L) : ∃ a l c, u = .slice a l c := by
  rcases h.form with ⟨rfl, _⟩ | ⟨g, cap, rfl, _⟩
  · exact ⟨_, _, _, rfl⟩
  · exact ⟨_, _, _, rfl⟩

theorem fin_alloc {w q : World} {B : Nat} {N : Int} {u : Value} {D : List Int} (hO : Own q B u D) (hc : w.heap.size ≤ B) (hB : Below w.heap.size w q) :
    Box (q.alloc (.cells #[.int .i64 N, u] 28)) q.heap.size (.int .i64 N) u 28 ∧ Own (q.alloc (.cells #[.int .i64 N, u] 28)) w.heap.size u D ∧ Below w.heap.size w (q.alloc (.cells #[.int .i64 N, u] 28)) ∧ w.heap.size ≤ q.heap.size ∧ u.ownBlock ≠ some q.heap.size :=
  ⟨Box.new q _ _ _, (hO.base hc).below ((Below.refl _ _).alloc (Nat.le_refl _) _), hB.alloc hB.size _, hB.size, fun e => by have := hO.lt _ e; omega⟩
theorem fin_set {w q : World} {b B : Nat} {N : Int} {u : Value} {D : List Int} (hO : Own q B u D) (hc : w.heap.size ≤ B) (hb : b < B) (hw : w.heap.size ≤ b) (RB : q.heap[b]? = some (.cells #[.int .i64 0, .slice none 0 0] 28 (0, 0))) (hB : Below w.heap.size w q) :
    Box ((q.setCell ⟨b, 0, none⟩ (.int .i64 N)).setCell ⟨b, 1, none⟩ u) b (.int .i64 N) u 28 ∧ Own ((q.setCell ⟨b, 0, none⟩ (.int .i64 N)).setCell ⟨b, 1, none⟩ u) w.heap.size u D ∧ Below w.heap.size w ((q.setCell ⟨b, 0, none⟩ (.int .i64 N)).setCell ⟨b, 1, none⟩ u) ∧ w.heap.size ≤ b ∧ u.ownBlock ≠ some b := by
  have hne : u.ownBlock ≠ some b := fun e => by have := hO.ge _ e; omega
  exact ⟨two_set RB, (hO.base hc).kept (grown_set (grown_set ⟨rfl, rfl, rfl, Nat.le_refl _, fun _ _ _ => rfl⟩ b 0 _) b 1 _) (.inr hne), (hB.setCell (p := ⟨b, 0, none⟩) hw _).setCell (p := ⟨b, 1, none⟩) hw _, hw, hne⟩

set_option maxHeartbeats 6400000 in
set_option maxRecDepth 100000 in
theorem law (n0 : Int) (v0 : Value) (zs0 : List Int) (n1 : Int) (v1 : Value) (zs1 : List Int) (v2 : Value) (zs2 : List Int) (w : World) (hs0 : Sl w v0 zs0) (hl0 : zs0.length ≤ 9223372036854775807) (hs1 : Sl w v1 zs1) (hl1 : zs1.length ≤ 9223372036854775807) (hs2 : Sl w v2 zs2) (hl2 : zs2.length ≤ 9223372036854775807) (hT : Tab w) :
    Calls Tryd.prog 4 #[.agg #[.int .i64 n0, v0], .agg #[.int .i64 n1, v1], v2] w fun e w' => e = .returned (.bool true) ∧ Below w.heap.size w w' := by
  obtain ⟨pa2, pc2, rfl⟩ : ∃ a c, v2 = .slice a zs2.length c := ⟨_, _, slForm hs2⟩
  have HS0 := Lib.hid hs0; clear hs0
  have HS1 := Lib.hid hs1; clear hs1
  have HS2 := Lib.hid hs2; clear hs2
  have HT := Lib.hid hT; clear hT
  obtain ⟨W, hW⟩ : ∃ W, W = ((w.alloc (.cells #[.int .i64 n0, v0] 24)).alloc (.cells #[.int .i64 n1, v1] 24)) := ⟨_, rfl⟩
  have D0 : Below w.heap.size w W := by rw [hW]; exact (((Below.refl _ _).alloc (Nat.le_refl _) _).alloc (by simp) _)
  have hsz : w.heap.size + 2 ≤ W.heap.size := by rw [hW]; simp
  have A0_0 : Hid (Box W (w.heap.size) (.int .i64 n0) v0 24) := by rw [hW]; exact heap_old_at (heap_new_at w (.cells #[.int .i64 n0, v0] 24) (w.heap.size) (by simp)) _
  have A1_0 : Hid (Box W (w.heap.size + 1) (.int .i64 n1) v1 24) := by rw [hW]; exact heap_new_at (w.alloc (.cells #[.int .i64 n0, v0] 24)) (.cells #[.int .i64 n1, v1] 24) (w.heap.size + 1) (by simp)
  have SW0 := Lib.hid (HS0.out.below D0)
  have SW1 := Lib.hid (HS1.out.below D0)
  have SW2 := Lib.hid (HS2.out.below D0)
  have TW := Lib.hid (HT.out.belowAll D0)
  by_cases hbig2 : (1048576 : Int) < zs2.length
  · go_enter Tryd.func4, Tryd.ntmps4
    go_wp2_with fail
    go_ret
    exact ⟨rfl, by rw [← hW]; exact D0⟩
  have hl20_2 : zs2.length ≤ 1048576 := by omega
  by_cases hbig0 : (1048576 : Int) < zs0.length
  · have hsz0 : ∀ W1, Below W.heap.size W W1 → Calls Tryd.prog 10 #[.agg #[.int .i64 n0, v0], .int .i64 (1048576)] W1 fun e w' => e = .returned (.int .i64 (-1)) ∧ Below W1.heap.size W1 w' := fun W1 h => by
      have := szGraph_any n0 v0 zs0 (1048576) W1 ((HS0.out.below D0).below h) (by omega) (by omega) hl0
      rw [if_pos hbig0] at this; exact this
    clear hbig0
    go_enter Tryd.func4, Tryd.ntmps4
    have a00 := A0_0.out.c0; have a01 := A0_0.out.c1
    have a10 := A1_0.out.c0; have a11 := A1_0.out.c1
    rw [hW] at a00 a01 a10 a11
    go_wp2_with fail
    rw [← hW]
    clear hW
    refine (hsz0 W (Below.refl _ _)).mono ?_
    rintro e w1 ⟨rfl, hb1⟩
    have e1 := hb1.size
    have E1 : Below W.heap.size W w1 := hb1
    clear a00 a01 a10 a11 hb1
    have a00 := (A0_0.out.from E1 (by omega)).c0; have a01 := (A0_0.out.from E1 (by omega)).c1
    have a10 := (A1_0.out.from E1 (by omega)).c0; have a11 := (A1_0.out.from E1 (by omega)).c1
    go_wp2_with fail
    go_ret
    exact ⟨rfl, D0.trans (E1.mono D0.size)⟩
  have hsz0 : ∀ W1, Below W.heap.size W W1 → Calls Tryd.prog 10 #[.agg #[.int .i64 n0, v0], .int .i64 (1048576)] W1 fun e w' => e = .returned (.int .i64 (1048576 - zs0.length)) ∧ Below W1.heap.size W1 w' := fun W1 h => by
      have := szGraph_any n0 v0 zs0 (1048576) W1 ((HS0.out.below D0).below h) (by omega) (by omega) hl0
      rw [if_neg hbig0] at this; exact this
  have hsub0 : (0 : Int) ≤ 1048576 - zs0.length := by omega
  have hl20_0 : zs0.length ≤ 1048576 := by omega
  by_cases hbig1 : (1048576 - zs0.length : Int) < zs1.length
  · have hsz1 : ∀ W1, Below W.heap.size W W1 → Calls Tryd.prog 10 #[.agg #[.int .i64 n1, v1], .int .i64 (1048576 - zs0.length)] W1 fun e w' => e = .returned (.int .i64 (-1)) ∧ Below W1.heap.size W1 w' := fun W1 h => by
      have := szGraph_any n1 v1 zs1 (1048576 - zs0.length) W1 ((HS1.out.below D0).below h) (by omega) (by omega) hl1
      rw [if_pos hbig1] at this; exact this
    clear hbig1
    go_enter Tryd.func4, Tryd.ntmps4
    have a00 := A0_0.out.c0; have a01 := A0_0.out.c1
    have a10 := A1_0.out.c0; have a11 := A1_0.out.c1
    rw [hW] at a00 a01 a10 a11
    go_wp2_with fail
    rw [← hW]
    clear hW
    refine (hsz0 W (Below.refl _ _)).mono ?_
    rintro e w1 ⟨rfl, hb1⟩
    have e1 := hb1.size
    have E1 : Below W.heap.size W w1 := hb1
    clear a00 a01 a10 a11 hb1
    have a00 := (A0_0.out.from E1 (by omega)).c0; have a01 := (A0_0.out.from E1 (by omega)).c1
    have a10 := (A1_0.out.from E1 (by omega)).c0; have a11 := (A1_0.out.from E1 (by omega)).c1
    go_wp2_with fail
    refine (hsz1 w1 E1).mono ?_
    rintro e w2 ⟨rfl, hb2⟩
    have e2 := hb2.size
    have E2 : Below W.heap.size W w2 := E1.trans (hb2.mono (by omega))
    clear a00 a01 a10 a11 hb2
    have a00 := (A0_0.out.from E2 (by omega)).c0; have a01 := (A0_0.out.from E2 (by omega)).c1
    have a10 := (A1_0.out.from E2 (by omega)).c0; have a11 := (A1_0.out.from E2 (by omega)).c1
    go_wp2_with fail
    go_ret
    exact ⟨rfl, D0.trans (E2.mono D0.size)⟩
  have hsz1 : ∀ W1, Below W.heap.size W W1 → Calls Tryd.prog 10 #[.agg #[.int .i64 n1, v1], .int .i64 (1048576 - zs0.length)] W1 fun e w' => e = .returned (.int .i64 (1048576 - zs0.length - zs1.length)) ∧ Below W1.heap.size W1 w' := fun W1 h => by
      have := szGraph_any n1 v1 zs1 (1048576 - zs0.length) W1 ((HS1.out.below D0).below h) (by omega) (by omega) hl1
      rw [if_neg hbig1] at this; exact this
  have hsub1 : (0 : Int) ≤ 1048576 - zs0.length - zs1.length := by omega
  have hl20_1 : zs1.length ≤ 1048576 := by omega
  obtain ⟨D, hd⟩ : ∃ d, d = ivD n0 n1 zs0 zs1 zs2 := ⟨_, rfl⟩
  obtain ⟨c, hc⟩ : ∃ c, c = ivC n0 n1 zs0 zs1 zs2 := ⟨_, rfl⟩
  have HD := Lib.hid hd; have HC := Lib.hid hc
  clear hbig0 hbig1 hd hc
  have hbg2 : ¬ (1048576 : Int) < zs2.length := hbig2; clear hbig2
  go_enter Tryd.func4, Tryd.ntmps4
  have a00 := A0_0.out.c0; have a01 := A0_0.out.c1
  have a10 := A1_0.out.c0; have a11 := A1_0.out.c1
  rw [hW] at a00 a01 a10 a11
  go_wp2_with fail
  rw [← hW]
  clear hW
  refine (hsz0 W (Below.refl _ _)).mono ?_
  rintro e w1 ⟨rfl, hb1⟩
  have e1 := hb1.size
  have E1 : Below W.heap.size W w1 := hb1
  clear a00 a01 a10 a11 hb1
  have a00 := (A0_0.out.from E1 (by omega)).c0; have a01 := (A0_0.out.from E1 (by omega)).c1
  have a10 := (A1_0.out.from E1 (by omega)).c0; have a11 := (A1_0.out.from E1 (by omega)).c1
  go_wp2_with fail
  refine (hsz1 w1 E1).mono ?_
  rintro e w2 ⟨rfl, hb2⟩
  have e2 := hb2.size
  have E2 : Below W.heap.size W w2 := E1.trans (hb2.mono (by omega))
  clear a00 a01 a10 a11 hb2
  have a00 := (A0_0.out.from E2 (by omega)).c0; have a01 := (A0_0.out.from E2 (by omega)).c1
  have a10 := (A1_0.out.from E2 (by omega)).c0; have a11 := (A1_0.out.from E2 (by omega)).c1
  clear E1 hsz0 hsz1
  have hsl2 : W.heap.size ≤ w2.heap.size := E2.size
  have hcp0 : Hid (∀ W1, Below w2.heap.size w2 W1 → Calls Tryd.prog 12 #[.agg #[.int .i64 n0, v0]] W1 fun e w' => e = .returned (.agg #[.int .i64 n0, .slice (some ⟨W1.heap.size + 3, 0, none⟩) zs0.length zs0.length]) ∧ Blk w' (W1.heap.size + 3) zs0 ∧ Below W1.heap.size W1 w' ∧ Below w2.heap.size w2 w') := fun W1 h =>
      (toGraph_any n0 v0 zs0 W1 ((SW0.out.below E2).below h) hl20_0).mono fun e w' ⟨a, b, c⟩ => ⟨a, b, c, h.trans (c.mono h.size)⟩
  have hcp1 : Hid (∀ W1, Below w2.heap.size w2 W1 → Calls Tryd.prog 12 #[.agg #[.int .i64 n1, v1]] W1 fun e w' => e = .returned (.agg #[.int .i64 n1, .slice (some ⟨W1.heap.size + 3, 0, none⟩) zs1.length zs1.length]) ∧ Blk w' (W1.heap.size + 3) zs1 ∧ Below W1.heap.size W1 w' ∧ Below w2.heap.size w2 w') := fun W1 h =>
      (toGraph_any n1 v1 zs1 W1 ((SW1.out.below E2).below h) hl20_1).mono fun e w' ⟨a, b, c⟩ => ⟨a, b, c, h.trans (c.mono h.size)⟩
  have hcp2 : Hid (∀ W1, Below w2.heap.size w2 W1 → Calls Tryd.prog 20 #[(Value.slice pa2 zs2.length pc2)] W1 fun e w' => e = .returned (.slice (some ⟨W1.heap.size, 0, none⟩) zs2.length zs2.length) ∧ Blk w' (W1.heap.size) zs2 ∧ Below W1.heap.size W1 w' ∧ Below w2.heap.size w2 w') := fun W1 h =>
      (toInts_any _ zs2 W1 ((SW2.out.below E2).below h) hl20_2).mono fun e w' ⟨a, b, c⟩ => ⟨a, b, c, h.trans (c.mono h.size)⟩
  have hfn : Hid (∀ (g0 g1 g2 : Nat) (W1 : World), Blk W1 g0 zs0 → Blk W1 g1 zs1 → Blk W1 g2 zs2 → Below w2.heap.size w2 W1 → Calls Tryd.prog 19 #[.agg #[.int .i64 n0, .slice (some ⟨g0, 0, none⟩) zs0.length zs0.length], .agg #[.int .i64 n1, .slice (some ⟨g1, 0, none⟩) zs1.length zs1.length], .slice (some ⟨g2, 0, none⟩) zs2.length zs2.length] W1 fun e w' => (e = .returned (.tuple #[.bool D, .int .i64 c])) ∧ Below W1.heap.size W1 w' ∧ Below w2.heap.size w2 w') := fun g0 g1 g2 W1 hB0 hB1 hB2 h => by
      have hcon := specIv_any n0 n1 (.slice (some ⟨g0, 0, none⟩) zs0.length zs0.length) (.slice (some ⟨g1, 0, none⟩) zs1.length zs1.length) (.slice (some ⟨g2, 0, none⟩) zs2.length zs2.length) zs0 zs1 zs2 W1 (hB0.sl _) (hB1.sl _) (hB2.sl _) hl0 hl1 hl20_2
      rw [← HD.out, ← HC.out] at hcon
      exact hcon.mono fun e w' ⟨a, b⟩ => ⟨a, b, h.trans (b.mono h.size)⟩
  have hA2 : Hid (∀ W1, Below w2.heap.size w2 W1 → W1.cell? ⟨w.heap.size, 0, none⟩ = some (.int .i64 n0) ∧ W1.cell? ⟨w.heap.size, 1, none⟩ = some v0 ∧ W1.cell? ⟨w.heap.size + 1, 0, none⟩ = some (.int .i64 n1) ∧ W1.cell? ⟨w.heap.size + 1, 1, none⟩ = some v1) := fun W1 h =>
      ⟨(A0_0.out.from (E2.trans (h.mono hsl2)) (by omega)).c0, (A0_0.out.from (E2.trans (h.mono hsl2)) (by omega)).c1, (A1_0.out.from (E2.trans (h.mono hsl2)) (by omega)).c0, (A1_0.out.from (E2.trans (h.mono hsl2)) (by omega)).c1⟩
  go_upto_region 10 with fail
  go_cut [8, 9] (fun ta tb wx => ta = .bool D ∧ tb = .int .i64 c ∧ Below w2.heap.size w2 wx)
  case first =>
    go_region_held3 (fun w' => w'.cell? ⟨w.heap.size, 0, none⟩ = some (.int .i64 n0) ∧ w'.cell? ⟨w.heap.size, 1, none⟩ = some v0 ∧ w'.cell? ⟨w.heap.size + 1, 0, none⟩ = some (.int .i64 n1) ∧ w'.cell? ⟨w.heap.size + 1, 1, none⟩ = some v1)
      (go_keep)
      (first
        | (go_at_call 12; (with_reducible refine (hcp0.out _ ((Below.refl _ _).drew)).mono ?_); rintro e q1 ⟨rfl, hq1, hb1, B1⟩; (try simp at hq1); have Q0_1 := Lib.hid hq1; clear hq1; obtain ⟨c00, c01, c10, c11⟩ := hA2.out q1 B1)
        | (go_at_call 12; (with_reducible refine (hcp1.out _ B1).mono ?_); rintro e q2 ⟨rfl, hq2, hb2, B2⟩; (try simp at hq2); have Q1_2 := Lib.hid hq2; clear hq2; have Q0_2 := Lib.hid (Blk.belowAll Q0_1.out hb2); obtain ⟨c00, c01, c10, c11⟩ := hA2.out q2 B2)
        | (go_at_call 20; (with_reducible refine (hcp2.out _ B2).mono ?_); rintro e q3 ⟨rfl, hq3, hb3, B3⟩; (try simp at hq3); have Q2_3 := Lib.hid hq3; clear hq3; have Q0_3 := Lib.hid (Blk.belowAll Q0_2.out hb3); have Q1_3 := Lib.hid (Blk.belowAll Q1_2.out hb3); obtain ⟨c00, c01, c10, c11⟩ := hA2.out q3 B3)
        | (go_at_call 19; (with_reducible refine (hfn.out _ _ _ _ Q0_3.out Q1_3.out Q2_3.out B3).mono ?_); rintro e q4 ⟨rfl, hb4, B4⟩; obtain ⟨c00, c01, c10, c11⟩ := hA2.out q4 B4))
    all_goals go_wp2_with fail
    all_goals go_meet
    all_goals exact ⟨rfl, rfl, B4⟩
  case rest =>
  obtain ⟨rfl, rfl, hb3⟩ := hcut
  obtain ⟨w3, rfl⟩ : ∃ w0 : World, w0 = wc := ⟨_, rfl⟩
  clear a00 a01 a10 a11
  clear hA2 hfn hcp0 hcp1 hcp2
  have e3 := hb3.size
  have E3 : Below W.heap.size W w3 := E2.trans (hb3.mono (by omega))
  clear hb3 E2 
  have a00 := (A0_0.out.from E3 (by omega)).c0; have a01 := (A0_0.out.from E3 (by omega)).c1
  have a10 := (A1_0.out.from E3 (by omega)).c0; have a11 := (A1_0.out.from E3 (by omega)).c1
  go_wp2_with fail
  clear a00 a01 a10 a11
  refine (toGraph_any n0 v0 zs0 w3 (SW0.out.below E3) hl20_0).mono ?_
  rintro e w4 ⟨rfl, hB4, hb4⟩
  have HB0_4 := Lib.hid hB4; clear hB4
  have e4 := hb4.size
  have E4 : Below W.heap.size W w4 := E3.trans (hb4.mono (by omega))
  clear hb4 E3 
  have lHB0 : w3.heap.size + 3 < w4.heap.size := HB0_4.out.lt
  have a10 := (Box.alloc (A1_0.out.from E4 (by omega)) (.cells #[.int .i64 n0, .slice (some ⟨w3.heap.size + 3, 0, none⟩) zs0.length zs0.length] 28)).c0; have a11 := (Box.alloc (A1_0.out.from E4 (by omega)) (.cells #[.int .i64 n0, .slice (some ⟨w3.heap.size + 3, 0, none⟩) zs0.length zs0.length] 28)).c1
  go_wp2_with fail
  obtain ⟨w5, h5⟩ : ∃ w', w' = w4.alloc (.cells #[.int .i64 n0, .slice (some ⟨w3.heap.size + 3, 0, none⟩) zs0.length zs0.length] 28) := ⟨_, rfl⟩
  have X0_5 : Hid (Box w5 w4.heap.size (.int .i64 n0) (.slice (some ⟨w3.heap.size + 3, 0, none⟩) zs0.length zs0.length) 28) := by rw [h5]; exact Box.new w4 _ _ _
  have hb5 : Below w4.heap.size w4 w5 := by rw [h5]; exact (Below.refl _ _).alloc (Nat.le_refl _) _
  rw [← h5]
  clear h5
  have e5 := hb5.size
  have E5 : Below W.heap.size W w5 := E4.trans (hb5.mono (by omega))
  have HB0_5 := Lib.hid (HB0_4.out.belowAll hb5)
  clear hb5 E4 HB0_4
  have lX0 : w4.heap.size < w5.heap.size := X0_5.out.lt
  clear a10 a11
  refine (toGraph_any n1 v1 zs1 w5 (SW1.out.below E5) hl20_1).mono ?_
  rintro e w6 ⟨rfl, hB6, hb6⟩
  have HB1_6 := Lib.hid hB6; clear hB6
  have e6 := hb6.size
  have E6 : Below W.heap.size W w6 := E5.trans (hb6.mono (by omega))
  have HB0_6 := Lib.hid (HB0_5.out.belowAll hb6)
  have X0_6 := Lib.hid (X0_5.out.below hb6)
  clear hb6 E5 HB0_5 X0_5
  have lHB1 : w5.heap.size + 3 < w6.heap.size := HB1_6.out.lt
  go_wp2_with fail
  obtain ⟨w7, h7⟩ : ∃ w', w' = w6.alloc (.cells #[.int .i64 n1, .slice (some ⟨w5.heap.size + 3, 0, none⟩) zs1.length zs1.length] 28) := ⟨_, rfl⟩
  have X1_7 : Hid (Box w7 w6.heap.size (.int .i64 n1) (.slice (some ⟨w5.heap.size + 3, 0, none⟩) zs1.length zs1.length) 28) := by rw [h7]; exact Box.new w6 _ _ _
  have hb7 : Below w6.heap.size w6 w7 := by rw [h7]; exact (Below.refl _ _).alloc (Nat.le_refl _) _
  rw [← h7]
  clear h7
  have e7 := hb7.size
  have E7 : Below W.heap.size W w7 := E6.trans (hb7.mono (by omega))
  have HB0_7 := Lib.hid (HB0_6.out.belowAll hb7)
  have X0_7 := Lib.hid (X0_6.out.below hb7)
  have HB1_7 := Lib.hid (HB1_6.out.belowAll hb7)
  clear hb7 E6 HB0_6 X0_6 HB1_6
  have lX1 : w6.heap.size < w7.heap.size := X1_7.out.lt
  refine (toInts_any _ zs2 w7 (SW2.out.below E7) hl20_2).mono ?_
  rintro e w8 ⟨rfl, hB8, hb8⟩
  have HB2_8 := Lib.hid hB8; clear hB8
  have e8 := hb8.size
  have E8 : Below W.heap.size W w8 := E7.trans (hb8.mono (by omega))
  have HB0_8 := Lib.hid (HB0_7.out.belowAll hb8)
  have X0_8 := Lib.hid (X0_7.out.below hb8)
  have HB1_8 := Lib.hid (HB1_7.out.belowAll hb8)
  have X1_8 := Lib.hid (X1_7.out.below hb8)
  clear hb8 E7 HB0_7 X0_7 HB1_7 X1_7
  have lHB2 : w7.heap.size < w8.heap.size := HB2_8.out.lt
  have x0_0 := (X0_8.out).c0; have x0_1 := (X0_8.out).c1
  have x1_0 := (X1_8.out).c0; have x1_1 := (X1_8.out).c1
  go_wp2_with fail
  clear x0_0 x0_1
  clear x1_0 x1_1
  have hcon := implIv_any n0 n1 (.slice (some ⟨w3.heap.size + 3, 0, none⟩) zs0.length zs0.length) (.slice (some ⟨w5.heap.size + 3, 0, none⟩) zs1.length zs1.length) (.slice (some ⟨w7.heap.size, 0, none⟩) zs2.length zs2.length) zs0 zs1 zs2 w8 (HB0_8.out.sl _) (HB1_8.out.sl _) (HB2_8.out.sl _) hl0 hl1 hl20_2 (TW.out.below E8 TW.out.lt)
  rw [← HD.out, ← HC.out] at hcon
  refine hcon.mono ?_
  rintro e w9 ⟨rfl, hb9⟩
  clear hcon
  have e9 := hb9.size
  have E9 : Below W.heap.size W w9 := E8.trans (hb9.mono (by omega))
  have HB0_9 := Lib.hid (HB0_8.out.belowAll hb9)
  have X0_9 := Lib.hid (X0_8.out.below hb9)
  have HB1_9 := Lib.hid (HB1_8.out.belowAll hb9)
  have X1_9 := Lib.hid (X1_8.out.below hb9)
  have HB2_9 := Lib.hid (HB2_8.out.belowAll hb9)
  clear hb9 E8 HB0_8 X0_8 HB1_8 X1_8 HB2_8
  have a00 := (A0_0.out.from E9 (by omega)).c0; have a01 := (A0_0.out.from E9 (by omega)).c1
  have x0 := (X0_9.out).c0; have x1 := (X0_9.out).c1
  go_wp2_with fail
  go_region_held3 (fun w' => w'.cell? ⟨w.heap.size, 0, none⟩ = some (.int .i64 n0) ∧ w'.cell? ⟨w.heap.size, 1, none⟩ = some v0 ∧ w'.cell? ⟨w4.heap.size, 0, none⟩ = some (.int .i64 n0) ∧ w'.cell? ⟨w4.heap.size, 1, none⟩ = some (.slice (some ⟨w3.heap.size + 3, 0, none⟩) zs0.length zs0.length))
    (go_keep)
    (first | (go_at_call 12; refine (toGraph_any n0 v0 zs0 _ ((SW0.out.below E9).below ((Below.refl _ _).drew)) hl20_0).mono ?_; rintro e q10 ⟨rfl, hBq, hbq⟩; have HBQ := Lib.hid hBq; have hbq' : Below w9.heap.size w9 q10 := below_drew hbq (by simp); have a00 := (Box.below (A0_0.out.from E9 (by omega)) hbq').c0; have a01 := (Box.below (A0_0.out.from E9 (by omega)) hbq').c1; have x0 := (X0_9.out.below hbq').c0; have x1 := (X0_9.out.below hbq').c1; clear hBq) | (go_at_call 15; refine (eqGraph_same n0 _ _ zs0 _ ((HB0_9.out.belowAll hbq').sl _) (HBQ.out.sl _) hl0).mono ?_; rintro e w10 ⟨rfl, hbr⟩; have hb10 : Below w9.heap.size w9 w10 := hbq'.trans (hbr.mono hbq'.size); have a00 := (Box.below (A0_0.out.from E9 (by omega)) hb10).c0; have a01 := (Box.below (A0_0.out.from E9 (by omega)) hb10).c1; have x0 := (X0_9.out.below hb10).c0; have x1 := (X0_9.out.below hb10).c1))
  clear a00 a01 x0 x1 hbq hbq' hbr HBQ
  have e10 := hb10.size
  have E10 : Below W.heap.size W w10 := E9.trans (hb10.mono (by omega))
  have HB0_10 := Lib.hid (HB0_9.out.belowAll hb10)
  have X0_10 := Lib.hid (X0_9.out.below hb10)
  have HB1_10 := Lib.hid (HB1_9.out.belowAll hb10)
  have X1_10 := Lib.hid (X1_9.out.below hb10)
  have HB2_10 := Lib.hid (HB2_9.out.belowAll hb10)
  clear hb10 E9 HB0_9 X0_9 HB1_9 X1_9 HB2_9
  have a10 := (A1_0.out.from E10 (by omega)).c0; have a11 := (A1_0.out.from E10 (by omega)).c1
  have x0 := (X1_10.out).c0; have x1 := (X1_10.out).c1
  go_wp2_with fail
  go_region_held3 (fun w' => w'.cell? ⟨w.heap.size + 1, 0, none⟩ = some (.int .i64 n1) ∧ w'.cell? ⟨w.heap.size + 1, 1, none⟩ = some v1 ∧ w'.cell? ⟨w6.heap.size, 0, none⟩ = some (.int .i64 n1) ∧ w'.cell? ⟨w6.heap.size, 1, none⟩ = some (.slice (some ⟨w5.heap.size + 3, 0, none⟩) zs1.length zs1.length))
    (go_keep)
    (first | (go_at_call 12; refine (toGraph_any n1 v1 zs1 _ ((SW1.out.below E10).below ((Below.refl _ _).drew)) hl20_1).mono ?_; rintro e q11 ⟨rfl, hBq, hbq⟩; have HBQ := Lib.hid hBq; have hbq' : Below w10.heap.size w10 q11 := below_drew hbq (by simp); have a10 := (Box.below (A1_0.out.from E10 (by omega)) hbq').c0; have a11 := (Box.below (A1_0.out.from E10 (by omega)) hbq').c1; have x0 := (X1_10.out.below hbq').c0; have x1 := (X1_10.out.below hbq').c1; clear hBq) | (go_at_call 15; refine (eqGraph_same n1 _ _ zs1 _ ((HB1_10.out.belowAll hbq').sl _) (HBQ.out.sl _) hl1).mono ?_; rintro e w11 ⟨rfl, hbr⟩; have hb11 : Below w10.heap.size w10 w11 := hbq'.trans (hbr.mono hbq'.size); have a10 := (Box.below (A1_0.out.from E10 (by omega)) hb11).c0; have a11 := (Box.below (A1_0.out.from E10 (by omega)) hb11).c1; have x0 := (X1_10.out.below hb11).c0; have x1 := (X1_10.out.below hb11).c1))
  clear a10 a11 x0 x1 hbq hbq' hbr HBQ
  have e11 := hb11.size
  have E11 : Below W.heap.size W w11 := E10.trans (hb11.mono (by omega))
  have HB0_11 := Lib.hid (HB0_10.out.belowAll hb11)
  have X0_11 := Lib.hid (X0_10.out.below hb11)
  have HB1_11 := Lib.hid (HB1_10.out.belowAll hb11)
  have X1_11 := Lib.hid (X1_10.out.below hb11)
  have HB2_11 := Lib.hid (HB2_10.out.belowAll hb11)
  clear hb11 E10 HB0_10 X0_10 HB1_10 X1_10 HB2_10
  go_wp2_with fail
  refine (toInts_any _ zs2 w11 (SW2.out.below E11) hl20_2).mono ?_
  rintro e w12 ⟨rfl, hB12, hb12⟩
  have C2_12 := Lib.hid hB12; clear hB12
  have e12 := hb12.size
  have E12 : Below W.heap.size W w12 := E11.trans (hb12.mono (by omega))
  have HB0_12 := Lib.hid (HB0_11.out.belowAll hb12)
  have X0_12 := Lib.hid (X0_11.out.below hb12)
  have HB1_12 := Lib.hid (HB1_11.out.belowAll hb12)
  have X1_12 := Lib.hid (X1_11.out.below hb12)
  have HB2_12 := Lib.hid (HB2_11.out.belowAll hb12)
  clear hb12 E11 HB0_11 X0_11 HB1_11 X1_11 HB2_11
  have lC2 : w11.heap.size < w12.heap.size := C2_12.out.lt
  go_wp2_with fail
  refine (eqInts_same _ _ zs2 w12 (HB2_12.out.sl _) (C2_12.out.sl _) hl2).mono ?_
  rintro e w13 ⟨rfl, hb13⟩
  have e13 := hb13.size
  have E13 : Below W.heap.size W w13 := E12.trans (hb13.mono (by omega))
  have HB0_13 := Lib.hid (HB0_12.out.belowAll hb13)
  have X0_13 := Lib.hid (X0_12.out.below hb13)
  have HB1_13 := Lib.hid (HB1_12.out.belowAll hb13)
  have X1_13 := Lib.hid (X1_12.out.below hb13)
  have HB2_13 := Lib.hid (HB2_12.out.belowAll hb13)
  clear hb13 E12 HB0_12 X0_12 HB1_12 X1_12 HB2_12
  go_wp2_with fail
  go_ret
  exact ⟨rfl, D0.trans (E13.mono D0.size)⟩
end Go.Proofs.YtlodaeoikkjbkaaDoor.fnExactIsCover
