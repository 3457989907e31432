/-
  laws.FnExactPutBeside: the walk: for every argument that comes in the law returns true and leaves what was there.
-/
import Derived.Test.YtbpcdgfcdahnlaaDoorMark
import Derived.Test.YtbpcdgfcdahnlaaDoorPb5
import Derived.Deep.RegionHeld3
import Derived.Deep.DeepCutAuto
namespace Go.Proofs.YtbpcdgfcdahnlaaDoor.fnExactPutBeside
set_option maxRecDepth 100000
open Go.RowKit

theorem below_drew {B B' : Nat} {w w' : World} (h : Below B' w.drew w') (hB : B ≤ B') : Below B w w' := ((Below.refl B w).drew).trans (h.mono hB)
theorem kept_block {w w' : World} (h : Below w.heap.size w w') {k : Nat} {x : Obj} (hx : w.heap[k]? = some x) : w'.heap[k]? = some x := (h.block k (Array.getElem?_eq_some_iff.1 hx).1).trans hx

/-- Block k holds a pair. -/
def Box (w : World) (k : Nat) (x y : Value) (t : TypeId) : Prop := w.heap[k]? = some (.cells #[x, y] t (0, 0))
theorem Box.lt {w : World} {k : Nat} {x y : Value} {t : TypeId} (h : Box w k x y t) : k < w.heap.size := (Array.getElem?_eq_some_iff.1 h).1
theorem Box.new (w : World) (x y : Value) (t : TypeId) : Box (w.alloc (.cells #[x, y] t)) w.heap.size x y t := World.alloc_heap_new w _
theorem Box.below {w w' : World} {k : Nat} {x y : Value} {t : TypeId} (h : Box w k x y t) (hb : Below w.heap.size w w') : Box w' k x y t := (hb.block k h.lt).trans h
theorem Box.from {B : Nat} {w w' : World} {k : Nat} {x y : Value} {t : TypeId} (h : Box w k x y t) (hb : Below B w w') (hk : k < B) : Box w' k x y t := (hb.block k hk).trans h
theorem Box.alloc {w : World} {k : Nat} {x y : Value} {t : TypeId} (h : Box w k x y t) (o : Obj) : Box (w.alloc o) k x y t := h.below ((Below.refl _ _).alloc (Nat.le_refl _) o)
theorem Box.grown {w w' : World} {k : Nat} {x y : Value} {t : TypeId} {row : Option Nat} (h : Box w k x y t) (hg : w.grownBy w' row) (hne : some k ≠ row) : Box w' k x y t := (hg.block k h.lt hne).trans h
theorem Box.c0 {w : World} {k : Nat} {x y : Value} {t : TypeId} (h : Box w k x y t) : w.cell? ⟨k, 0, none⟩ = some x := (two_cells h).1
theorem Box.c1 {w : World} {k : Nat} {x y : Value} {t : TypeId} (h : Box w k x y t) : w.cell? ⟨k, 1, none⟩ = some y := (two_cells h).2.1
theorem blk_grown {w w' : World} {g : Nat} {zs : List Int} {row : Option Nat} (h : Blk w g zs) (hg : w.grownBy w' row) (hne : some g ≠ row) : Blk w' g zs := (hg.block g h.lt hne).trans h
theorem eqInts_same (v1 v2 : Value) (xs : List Int) (w : World) (h1 : Sl w v1 xs) (h2 : Sl w v2 xs) (hx : xs.length ≤ 9223372036854775807) :
    Calls Tryd.prog 19 #[v1, v2] w fun e w' => e = .returned (.bool true) ∧ Below w.heap.size w w' := by
  have := eqInts_any v1 v2 xs xs w h1 h2 hx
  simpa using this

theorem own_slice {w : World} {B : Nat} {u : Value} {L : List Int} (h : Own w B u L) : ∃ a l c, u = .slice a l c := by
  rcases h.form with ⟨rfl, _⟩ | ⟨g, cap, rfl, _⟩
  · exact ⟨_, _, _, rfl⟩
  · exact ⟨_, _, _, rfl⟩

theorem fin_alloc {w q : World} {B : Nat} {N : Int} {u : Value} {D : List Int} (hO : Own q B u D) (hc : w.heap.size ≤ B) (hB : Below w.heap.size w q) :
    Box (q.alloc (.cells #[.int .i64 N, u] 28)) q.heap.size (.int .i64 N) u 28 ∧ Own (q.alloc (.cells #[.int .i64 N, u] 28)) w.heap.size u D ∧ Below w.heap.size w (q.alloc (.cells #[.int .i64 N, u] 28)) ∧ w.heap.size ≤ q.heap.size ∧ u.ownBlock ≠ some q.heap.size :=
  ⟨Box.new q _ _ _, (hO.base hc).below ((Below.refl _ _).alloc (Nat.le_refl _) _), hB.alloc hB.size _, hB.size, fun e => by have := hO.lt _ e; omega⟩
theorem fin_set {w q : World} {b B : Nat} {N : Int} {u : Value} {D : List Int} (hO : Own q B u D) (hc : w.heap.size ≤ B) (hb : b < B) (hw : w.heap.size ≤ b) (RB : q.heap[b]? = some (.cells #[.int .i64 0, .slice none 0 0] 28 (0, 0))) (hB : Below w.heap.size w q) :
    Box ((q.setCell ⟨b, 0, none⟩ (.int .i64 N)).setCell ⟨b, 1, none⟩ u) b (.int .i64 N) u 28 ∧ Own ((q.setCell ⟨b, 0, none⟩ (.int .i64 N)).setCell ⟨b, 1, none⟩ u) w.heap.size u D ∧ Below w.heap.size w ((q.setCell ⟨b, 0, none⟩ (.int .i64 N)).setCell ⟨b, 1, none⟩ u) ∧ w.heap.size ≤ b ∧ u.ownBlock ≠ some b := by
  have hne : u.ownBlock ≠ some b := fun e => by have := hO.ge _ e; omega
  exact ⟨two_set RB, (hO.base hc).kept (grown_set (grown_set ⟨rfl, rfl, rfl, Nat.le_refl _, fun _ _ _ => rfl⟩ b 0 _) b 1 _) (.inr hne), (hB.setCell (p := ⟨b, 0, none⟩) hw _).setCell (p := ⟨b, 1, none⟩) hw _, hw, hne⟩

set_option maxHeartbeats 6400000 in
set_option maxRecDepth 100000 in
theorem law (n0 : Int) (v0 : Value) (zs0 : List Int) (n1 : Int) (v1 : Value) (zs1 : List Int) (w : World) (hs0 : Sl w v0 zs0) (hl0 : zs0.length ≤ 9223372036854775807) (hs1 : Sl w v1 zs1) (hl1 : zs1.length ≤ 9223372036854775807) (hT : Tab w) :
    Calls Tryd.prog 10 #[.agg #[.int .i64 n0, v0], .agg #[.int .i64 n1, v1]] w fun e w' => e = .returned (.bool true) ∧ Below w.heap.size w w' := by
  have HS0 := Lib.hid hs0; clear hs0
  have HS1 := Lib.hid hs1; clear hs1
  have HT := Lib.hid hT; clear hT
  obtain ⟨W, hW⟩ : ∃ W, W = ((w.alloc (.cells #[.int .i64 n0, v0] 24)).alloc (.cells #[.int .i64 n1, v1] 24)) := ⟨_, rfl⟩
  have D0 : Below w.heap.size w W := by rw [hW]; exact (((Below.refl _ _).alloc (Nat.le_refl _) _).alloc (by simp) _)
  have hsz : w.heap.size + 2 ≤ W.heap.size := by rw [hW]; simp
  have A0_0 : Hid (Box W (w.heap.size) (.int .i64 n0) v0 24) := by rw [hW]; exact heap_old_at (heap_new_at w (.cells #[.int .i64 n0, v0] 24) (w.heap.size) (by simp)) _
  have A1_0 : Hid (Box W (w.heap.size + 1) (.int .i64 n1) v1 24) := by rw [hW]; exact heap_new_at (w.alloc (.cells #[.int .i64 n0, v0] 24)) (.cells #[.int .i64 n1, v1] 24) (w.heap.size + 1) (by simp)
  have SW0 := Lib.hid (HS0.out.below D0)
  have SW1 := Lib.hid (HS1.out.below D0)
  have TW := Lib.hid (HT.out.belowAll D0)
  by_cases hbig0 : (1048576 : Int) < zs0.length
  · have hsz0 : ∀ W1, Below W.heap.size W W1 → Calls Tryd.prog 15 #[.agg #[.int .i64 n0, v0], .int .i64 (1048576)] W1 fun e w' => e = .returned (.int .i64 (-1)) ∧ Below W1.heap.size W1 w' := fun W1 h => by
      have := szGraph_any n0 v0 zs0 (1048576) W1 ((HS0.out.below D0).below h) (by omega) (by omega) hl0
      rw [if_pos hbig0] at this; exact this
    clear hbig0
    go_enter Tryd.func10, Tryd.ntmps10
    have a00 := A0_0.out.c0; have a01 := A0_0.out.c1
    have a10 := A1_0.out.c0; have a11 := A1_0.out.c1
    rw [hW] at a00 a01 a10 a11
    go_wp2_with fail
    rw [← hW]
    clear hW
    refine (hsz0 W (Below.refl _ _)).mono ?_
    rintro e w1 ⟨rfl, hb1⟩
    have e1 := hb1.size
    have E1 : Below W.heap.size W w1 := hb1
    clear a00 a01 a10 a11 hb1
    have a00 := (A0_0.out.from E1 (by omega)).c0; have a01 := (A0_0.out.from E1 (by omega)).c1
    have a10 := (A1_0.out.from E1 (by omega)).c0; have a11 := (A1_0.out.from E1 (by omega)).c1
    go_wp2_with fail
    go_ret
    exact ⟨rfl, D0.trans (E1.mono D0.size)⟩
  have hsz0 : ∀ W1, Below W.heap.size W W1 → Calls Tryd.prog 15 #[.agg #[.int .i64 n0, v0], .int .i64 (1048576)] W1 fun e w' => e = .returned (.int .i64 (1048576 - zs0.length)) ∧ Below W1.heap.size W1 w' := fun W1 h => by
      have := szGraph_any n0 v0 zs0 (1048576) W1 ((HS0.out.below D0).below h) (by omega) (by omega) hl0
      rw [if_neg hbig0] at this; exact this
  have hsub0 : (0 : Int) ≤ 1048576 - zs0.length := by omega
  have hl20_0 : zs0.length ≤ 1048576 := by omega
  by_cases hbig1 : (1048576 - zs0.length : Int) < zs1.length
  · have hsz1 : ∀ W1, Below W.heap.size W W1 → Calls Tryd.prog 15 #[.agg #[.int .i64 n1, v1], .int .i64 (1048576 - zs0.length)] W1 fun e w' => e = .returned (.int .i64 (-1)) ∧ Below W1.heap.size W1 w' := fun W1 h => by
      have := szGraph_any n1 v1 zs1 (1048576 - zs0.length) W1 ((HS1.out.below D0).below h) (by omega) (by omega) hl1
      rw [if_pos hbig1] at this; exact this
    clear hbig1
    go_enter Tryd.func10, Tryd.ntmps10
    have a00 := A0_0.out.c0; have a01 := A0_0.out.c1
    have a10 := A1_0.out.c0; have a11 := A1_0.out.c1
    rw [hW] at a00 a01 a10 a11
    go_wp2_with fail
    rw [← hW]
    clear hW
    refine (hsz0 W (Below.refl _ _)).mono ?_
    rintro e w1 ⟨rfl, hb1⟩
    have e1 := hb1.size
    have E1 : Below W.heap.size W w1 := hb1
    clear a00 a01 a10 a11 hb1
    have a00 := (A0_0.out.from E1 (by omega)).c0; have a01 := (A0_0.out.from E1 (by omega)).c1
    have a10 := (A1_0.out.from E1 (by omega)).c0; have a11 := (A1_0.out.from E1 (by omega)).c1
    go_wp2_with fail
    refine (hsz1 w1 E1).mono ?_
    rintro e w2 ⟨rfl, hb2⟩
    have e2 := hb2.size
    have E2 : Below W.heap.size W w2 := E1.trans (hb2.mono (by omega))
    clear a00 a01 a10 a11 hb2
    have a00 := (A0_0.out.from E2 (by omega)).c0; have a01 := (A0_0.out.from E2 (by omega)).c1
    have a10 := (A1_0.out.from E2 (by omega)).c0; have a11 := (A1_0.out.from E2 (by omega)).c1
    go_wp2_with fail
    go_ret
    exact ⟨rfl, D0.trans (E2.mono D0.size)⟩
  have hsz1 : ∀ W1, Below W.heap.size W W1 → Calls Tryd.prog 15 #[.agg #[.int .i64 n1, v1], .int .i64 (1048576 - zs0.length)] W1 fun e w' => e = .returned (.int .i64 (1048576 - zs0.length - zs1.length)) ∧ Below W1.heap.size W1 w' := fun W1 h => by
      have := szGraph_any n1 v1 zs1 (1048576 - zs0.length) W1 ((HS1.out.below D0).below h) (by omega) (by omega) hl1
      rw [if_neg hbig1] at this; exact this
  have hsub1 : (0 : Int) ≤ 1048576 - zs0.length - zs1.length := by omega
  have hl20_1 : zs1.length ≤ 1048576 := by omega
  obtain ⟨D, hd⟩ : ∃ d, d = PBL n0 n1 zs0 zs1 := ⟨_, rfl⟩
  obtain ⟨N, hn⟩ : ∃ d, d = PBN n0 n1 zs0 zs1 := ⟨_, rfl⟩
  obtain ⟨c, hc⟩ : ∃ c, c = PBC n0 n1 zs0 zs1 := ⟨_, rfl⟩
  have hD20 : D.length ≤ 1048576 := by rw [hd]; exact Nat.le_trans (PBL_length _ _ _ _) (by omega)
  have HD := Lib.hid hd; have HC := Lib.hid hc; have HN := Lib.hid hn
  clear hbig0 hbig1 hd hc hn
  go_enter Tryd.func10, Tryd.ntmps10
  have a00 := A0_0.out.c0; have a01 := A0_0.out.c1
  have a10 := A1_0.out.c0; have a11 := A1_0.out.c1
  rw [hW] at a00 a01 a10 a11
  go_wp2_with fail
  rw [← hW]
  clear hW
  refine (hsz0 W (Below.refl _ _)).mono ?_
  rintro e w1 ⟨rfl, hb1⟩
  have e1 := hb1.size
  have E1 : Below W.heap.size W w1 := hb1
  clear a00 a01 a10 a11 hb1
  have a00 := (A0_0.out.from E1 (by omega)).c0; have a01 := (A0_0.out.from E1 (by omega)).c1
  have a10 := (A1_0.out.from E1 (by omega)).c0; have a11 := (A1_0.out.from E1 (by omega)).c1
  go_wp2_with fail
  refine (hsz1 w1 E1).mono ?_
  rintro e w2 ⟨rfl, hb2⟩
  have e2 := hb2.size
  have E2 : Below W.heap.size W w2 := E1.trans (hb2.mono (by omega))
  clear a00 a01 a10 a11 hb2
  have a00 := (A0_0.out.from E2 (by omega)).c0; have a01 := (A0_0.out.from E2 (by omega)).c1
  have a10 := (A1_0.out.from E2 (by omega)).c0; have a11 := (A1_0.out.from E2 (by omega)).c1
  clear E1 hsz0 hsz1
  have hsl2 : W.heap.size ≤ w2.heap.size := E2.size
  have hcp0 : Hid (∀ W1, Below w2.heap.size w2 W1 → Calls Tryd.prog 17 #[.agg #[.int .i64 n0, v0]] W1 fun e w' => e = .returned (.agg #[.int .i64 n0, .slice (some ⟨W1.heap.size + 3, 0, none⟩) zs0.length zs0.length]) ∧ Blk w' (W1.heap.size + 3) zs0 ∧ Below W1.heap.size W1 w' ∧ Below w2.heap.size w2 w') := fun W1 h =>
      (toGraph_any n0 v0 zs0 W1 ((SW0.out.below E2).below h) hl20_0).mono fun e w' ⟨a, b, c⟩ => ⟨a, b, c, h.trans (c.mono h.size)⟩
  have hcp1 : Hid (∀ W1, Below w2.heap.size w2 W1 → Calls Tryd.prog 17 #[.agg #[.int .i64 n1, v1]] W1 fun e w' => e = .returned (.agg #[.int .i64 n1, .slice (some ⟨W1.heap.size + 3, 0, none⟩) zs1.length zs1.length]) ∧ Blk w' (W1.heap.size + 3) zs1 ∧ Below W1.heap.size W1 w' ∧ Below w2.heap.size w2 w') := fun W1 h =>
      (toGraph_any n1 v1 zs1 W1 ((SW1.out.below E2).below h) hl20_1).mono fun e w' ⟨a, b, c⟩ => ⟨a, b, c, h.trans (c.mono h.size)⟩
  have hfn : Hid (∀ (g0 g1 : Nat) (W1 : World), Blk W1 g0 zs0 → Blk W1 g1 zs1 → Below w2.heap.size w2 W1 → Calls Tryd.prog 41 #[.agg #[.int .i64 n0, .slice (some ⟨g0, 0, none⟩) zs0.length zs0.length], .agg #[.int .i64 n1, .slice (some ⟨g1, 0, none⟩) zs1.length zs1.length]] W1 fun e w' => GRes W1.heap.size N D c e w' ∧ Below W1.heap.size W1 w' ∧ Below w2.heap.size w2 w') := fun g0 g1 W1 hB0 hB1 h => by
      have hcon := specPb_any n0 n1 (.slice (some ⟨g0, 0, none⟩) zs0.length zs0.length) (.slice (some ⟨g1, 0, none⟩) zs1.length zs1.length) zs0 zs1 W1 (hB0.sl _) (hB1.sl _) hl0 hl1
      rw [← HD.out, ← HC.out, ← HN.out] at hcon
      exact hcon.mono fun e w' ⟨a, b⟩ => ⟨a, b, h.trans (b.mono h.size)⟩
  have hA2 : Hid (∀ W1, Below w2.heap.size w2 W1 → W1.cell? ⟨w.heap.size, 0, none⟩ = some (.int .i64 n0) ∧ W1.cell? ⟨w.heap.size, 1, none⟩ = some v0 ∧ W1.cell? ⟨w.heap.size + 1, 0, none⟩ = some (.int .i64 n1) ∧ W1.cell? ⟨w.heap.size + 1, 1, none⟩ = some v1) := fun W1 h =>
      ⟨(A0_0.out.from (E2.trans (h.mono hsl2)) (by omega)).c0, (A0_0.out.from (E2.trans (h.mono hsl2)) (by omega)).c1, (A1_0.out.from (E2.trans (h.mono hsl2)) (by omega)).c0, (A1_0.out.from (E2.trans (h.mono hsl2)) (by omega)).c1⟩
  go_upto_region 8 with fail
  go_cut [6, 7] (fun ta tb wx => ∃ (k : Nat) (u : Value), ta = .pointer (some ⟨k, 0, none⟩) ∧ tb = .int .i64 c ∧ Box wx k (.int .i64 N) u 28 ∧ Own wx w2.heap.size u D ∧ Below w2.heap.size w2 wx ∧ w2.heap.size ≤ k ∧ u.ownBlock ≠ some k)
  case first =>
    go_region_held3 (fun w' => w'.cell? ⟨w.heap.size, 0, none⟩ = some (.int .i64 n0) ∧ w'.cell? ⟨w.heap.size, 1, none⟩ = some v0 ∧ w'.cell? ⟨w.heap.size + 1, 0, none⟩ = some (.int .i64 n1) ∧ w'.cell? ⟨w.heap.size + 1, 1, none⟩ = some v1)
      (go_keep)
      (first
        | (go_at_call 17; (with_reducible refine (hcp0.out _ (((Below.refl _ _).alloc (Nat.le_refl _) _).drew)).mono ?_); rintro e q1 ⟨rfl, hq1, hb1, B1⟩; (try simp at hq1); have Q0_1 := Lib.hid hq1; clear hq1; have RB := Lib.hid ((hb1.block w2.heap.size (by simp)).trans (World.alloc_heap_new w2 (.cells #[.int .i64 0, .slice none 0 0] 28))); have rl0 := (Array.getElem?_eq_some_iff.1 RB.out).1; obtain ⟨r0, r1, g0, g1⟩ := two_cells RB.out; have m0a : ¬ w.heap.size = w2.heap.size := (by omega); have m0b : ¬ w2.heap.size = w.heap.size := (by omega); have m1a : ¬ w.heap.size + 1 = w2.heap.size := (by omega); have m1b : ¬ w2.heap.size = w.heap.size + 1 := (by omega); obtain ⟨c00, c01, c10, c11⟩ := hA2.out q1 B1)
        | (go_at_call 17; (with_reducible refine (hcp0.out _ ((Below.refl _ _).drew)).mono ?_); rintro e q1 ⟨rfl, hq1, hb1, B1⟩; (try simp at hq1); have Q0_1 := Lib.hid hq1; clear hq1; obtain ⟨c00, c01, c10, c11⟩ := hA2.out q1 B1)
        | (go_at_call 17; have RBo := RB; clear RB; (with_reducible refine (hcp1.out _ B1).mono ?_); rintro e q2 ⟨rfl, hq2, hb2, B2⟩; (try simp at hq2); have Q1_2 := Lib.hid hq2; clear hq2; have Q0_2 := Lib.hid (Blk.belowAll Q0_1.out hb2); have RB := Lib.hid (kept_block hb2 RBo.out); clear RBo; have rl1 := (Array.getElem?_eq_some_iff.1 RB.out).1; obtain ⟨r0, r1, g0, g1⟩ := two_cells RB.out; obtain ⟨c00, c01, c10, c11⟩ := hA2.out q2 B2)
        | (go_at_call 17; (with_reducible refine (hcp1.out _ (B1.alloc B1.size _)).mono ?_); rintro e q2 ⟨rfl, hq2, hb2, B2⟩; (try simp at hq2); have Q1_2 := Lib.hid hq2; clear hq2; have Q0_2 := Lib.hid (Blk.belowAll (Blk.alloc Q0_1.out _) hb2); have RB := Lib.hid ((hb2.block q1.heap.size (by simp)).trans (World.alloc_heap_new q1 (.cells #[.int .i64 0, .slice none 0 0] 28))); have rl1 := (Array.getElem?_eq_some_iff.1 RB.out).1; obtain ⟨r0, r1, g0, g1⟩ := two_cells RB.out; have m0a : ¬ w.heap.size = q1.heap.size := (by have := B1.size; omega); have m0b : ¬ q1.heap.size = w.heap.size := (by have := B1.size; omega); have m1a : ¬ w.heap.size + 1 = q1.heap.size := (by have := B1.size; omega); have m1b : ¬ q1.heap.size = w.heap.size + 1 := (by have := B1.size; omega); obtain ⟨c00, c01, c10, c11⟩ := hA2.out q2 B2)
        | (go_at_call 17; (with_reducible refine (hcp1.out _ B1).mono ?_); rintro e q2 ⟨rfl, hq2, hb2, B2⟩; (try simp at hq2); have Q1_2 := Lib.hid hq2; clear hq2; have Q0_2 := Lib.hid (Blk.belowAll Q0_1.out hb2); obtain ⟨c00, c01, c10, c11⟩ := hA2.out q2 B2)
        | (go_at_call 41; have RBo := RB; clear RB; (with_reducible refine (hfn.out _ _ _ Q0_2.out Q1_2.out B2).mono ?_); rintro e q3 ⟨⟨u, rfl, hO⟩, hb3, B3⟩; obtain ⟨ua, ul, uc, rfl⟩ := own_slice hO; have RB := Lib.hid (kept_block hb3 RBo.out); clear RBo; have rl2 := (Array.getElem?_eq_some_iff.1 RB.out).1; obtain ⟨r0, r1, g0, g1⟩ := two_cells RB.out; obtain ⟨c00, c01, c10, c11⟩ := hA2.out q3 B3)
        | (go_at_call 41; (with_reducible refine (hfn.out _ _ _ (Blk.alloc Q0_2.out _) (Blk.alloc Q1_2.out _) (B2.alloc B2.size _)).mono ?_); rintro e q3 ⟨⟨u, rfl, hO⟩, hb3, B3⟩; obtain ⟨ua, ul, uc, rfl⟩ := own_slice hO; have RB := Lib.hid ((hb3.block q2.heap.size (by simp)).trans (World.alloc_heap_new q2 (.cells #[.int .i64 0, .slice none 0 0] 28))); have rl2 := (Array.getElem?_eq_some_iff.1 RB.out).1; obtain ⟨r0, r1, g0, g1⟩ := two_cells RB.out; have m0a : ¬ w.heap.size = q2.heap.size := (by have := B2.size; omega); have m0b : ¬ q2.heap.size = w.heap.size := (by have := B2.size; omega); have m1a : ¬ w.heap.size + 1 = q2.heap.size := (by have := B2.size; omega); have m1b : ¬ q2.heap.size = w.heap.size + 1 := (by have := B2.size; omega); obtain ⟨c00, c01, c10, c11⟩ := hA2.out q3 B3)
        | (go_at_call 41; (with_reducible refine (hfn.out _ _ _ Q0_2.out Q1_2.out B2).mono ?_); rintro e q3 ⟨⟨u, rfl, hO⟩, hb3, B3⟩; obtain ⟨ua, ul, uc, rfl⟩ := own_slice hO; obtain ⟨c00, c01, c10, c11⟩ := hA2.out q3 B3))
    all_goals go_wp2_with fail
    all_goals go_meet
    all_goals first | exact ⟨_, _, rfl, rfl, fin_alloc hO (by have := B2.size; first | omega | (simp; done) | (simp; omega)) B3⟩ | exact ⟨_, _, rfl, rfl, fin_set hO (by have := B2.size; first | omega | (simp; done) | (simp; omega)) (by have := B2.size; first | omega | (simp; done) | (simp; omega)) (by first | omega | (simp; done) | (have := B1.size; omega) | (have := B2.size; omega)) RB.out B3⟩
  case rest =>
  obtain ⟨kY, upw, rfl, rfl, hbx, hO, hb3, hkY, hneY⟩ := hcut
  obtain ⟨pwa, pwl, pwc, rfl⟩ := own_slice hO
  obtain ⟨w3, rfl⟩ : ∃ w0 : World, w0 = wc := ⟨_, rfl⟩
  clear a00 a01 a10 a11
  clear hA2 hfn hcp0 hcp1
  have OW_3 : Hid (Own w3 w2.heap.size (Value.slice pwa pwl pwc) D) := hO
  have LOW : Hid (∀ k, (Value.slice pwa pwl pwc).ownBlock = some k → w2.heap.size ≤ k ∧ k < w3.heap.size) := fun k e => ⟨hO.ge k e, hO.lt k e⟩
  have Y_3 := Lib.hid hbx
  have lY : kY < w3.heap.size := hbx.lt
  have NEOW := Lib.hid hneY
  clear hO hbx hneY
  have e3 := hb3.size
  have E3 : Below W.heap.size W w3 := E2.trans (hb3.mono (by omega))
  clear hb3 E2 
  have a00 := (A0_0.out.from E3 (by omega)).c0; have a01 := (A0_0.out.from E3 (by omega)).c1
  have a10 := (A1_0.out.from E3 (by omega)).c0; have a11 := (A1_0.out.from E3 (by omega)).c1
  go_wp2_with fail
  clear a00 a01 a10 a11
  refine (toGraph_any n0 v0 zs0 w3 (SW0.out.below E3) hl20_0).mono ?_
  rintro e w4 ⟨rfl, hB4, hb4⟩
  have HB0_4 := Lib.hid hB4; clear hB4
  have e4 := hb4.size
  have E4 : Below W.heap.size W w4 := E3.trans (hb4.mono (by omega))
  have OW_4 := Lib.hid (OW_3.out.below hb4)
  have Y_4 := Lib.hid (Y_3.out.below hb4)
  clear hb4 E3 OW_3 Y_3
  have lHB0 : w3.heap.size + 3 < w4.heap.size := HB0_4.out.lt
  have a10 := (Box.alloc (A1_0.out.from E4 (by omega)) (.cells #[.int .i64 n0, .slice (some ⟨w3.heap.size + 3, 0, none⟩) zs0.length zs0.length] 28)).c0; have a11 := (Box.alloc (A1_0.out.from E4 (by omega)) (.cells #[.int .i64 n0, .slice (some ⟨w3.heap.size + 3, 0, none⟩) zs0.length zs0.length] 28)).c1
  go_wp2_with fail
  obtain ⟨w5, h5⟩ : ∃ w', w' = w4.alloc (.cells #[.int .i64 n0, .slice (some ⟨w3.heap.size + 3, 0, none⟩) zs0.length zs0.length] 28) := ⟨_, rfl⟩
  have X0_5 : Hid (Box w5 w4.heap.size (.int .i64 n0) (.slice (some ⟨w3.heap.size + 3, 0, none⟩) zs0.length zs0.length) 28) := by rw [h5]; exact Box.new w4 _ _ _
  have hb5 : Below w4.heap.size w4 w5 := by rw [h5]; exact (Below.refl _ _).alloc (Nat.le_refl _) _
  rw [← h5]
  clear h5
  have e5 := hb5.size
  have E5 : Below W.heap.size W w5 := E4.trans (hb5.mono (by omega))
  have OW_5 := Lib.hid (OW_4.out.below hb5)
  have Y_5 := Lib.hid (Y_4.out.below hb5)
  have HB0_5 := Lib.hid (HB0_4.out.belowAll hb5)
  clear hb5 E4 OW_4 Y_4 HB0_4
  have lX0 : w4.heap.size < w5.heap.size := X0_5.out.lt
  clear a10 a11
  refine (toGraph_any n1 v1 zs1 w5 (SW1.out.below E5) hl20_1).mono ?_
  rintro e w6 ⟨rfl, hB6, hb6⟩
  have HB1_6 := Lib.hid hB6; clear hB6
  have e6 := hb6.size
  have E6 : Below W.heap.size W w6 := E5.trans (hb6.mono (by omega))
  have OW_6 := Lib.hid (OW_5.out.below hb6)
  have Y_6 := Lib.hid (Y_5.out.below hb6)
  have HB0_6 := Lib.hid (HB0_5.out.belowAll hb6)
  have X0_6 := Lib.hid (X0_5.out.below hb6)
  clear hb6 E5 OW_5 Y_5 HB0_5 X0_5
  have lHB1 : w5.heap.size + 3 < w6.heap.size := HB1_6.out.lt
  have x0_0 := (Box.alloc X0_6.out (.cells #[.int .i64 n1, .slice (some ⟨w5.heap.size + 3, 0, none⟩) zs1.length zs1.length] 28)).c0; have x0_1 := (Box.alloc X0_6.out (.cells #[.int .i64 n1, .slice (some ⟨w5.heap.size + 3, 0, none⟩) zs1.length zs1.length] 28)).c1
  go_wp2_with fail
  obtain ⟨w7, h7⟩ : ∃ w', w' = w6.alloc (.cells #[.int .i64 n1, .slice (some ⟨w5.heap.size + 3, 0, none⟩) zs1.length zs1.length] 28) := ⟨_, rfl⟩
  have X1_7 : Hid (Box w7 w6.heap.size (.int .i64 n1) (.slice (some ⟨w5.heap.size + 3, 0, none⟩) zs1.length zs1.length) 28) := by rw [h7]; exact Box.new w6 _ _ _
  have hb7 : Below w6.heap.size w6 w7 := by rw [h7]; exact (Below.refl _ _).alloc (Nat.le_refl _) _
  rw [← h7]
  clear h7
  have e7 := hb7.size
  have E7 : Below W.heap.size W w7 := E6.trans (hb7.mono (by omega))
  have OW_7 := Lib.hid (OW_6.out.below hb7)
  have Y_7 := Lib.hid (Y_6.out.below hb7)
  have HB0_7 := Lib.hid (HB0_6.out.belowAll hb7)
  have X0_7 := Lib.hid (X0_6.out.below hb7)
  have HB1_7 := Lib.hid (HB1_6.out.belowAll hb7)
  clear hb7 E6 OW_6 Y_6 HB0_6 X0_6 HB1_6
  have lX1 : w6.heap.size < w7.heap.size := X1_7.out.lt
  clear x0_0 x0_1
  have hcon := implPb_any n0 n1 (.slice (some ⟨w3.heap.size + 3, 0, none⟩) zs0.length zs0.length) (.slice (some ⟨w5.heap.size + 3, 0, none⟩) zs1.length zs1.length) zs0 zs1 w7 (HB0_7.out.sl _) (HB1_7.out.sl _) hl0 hl1 (TW.out.below E7 TW.out.lt)
  rw [← HD.out, ← HC.out, ← HN.out] at hcon
  refine hcon.mono ?_
  rintro e w8 ⟨⟨upg, rfl, hO8⟩, hb8⟩
  clear hcon
  obtain ⟨pga, pgl, pgc, rfl⟩ := own_slice hO8
  have OG_8 : Hid (Own w8 w7.heap.size (Value.slice pga pgl pgc) D) := hO8
  have LOG : Hid (∀ k, (Value.slice pga pgl pgc).ownBlock = some k → w7.heap.size ≤ k ∧ k < w8.heap.size) := fun k e => ⟨hO8.ge k e, hO8.lt k e⟩
  clear hO8
  have e8 := hb8.size
  have E8 : Below W.heap.size W w8 := E7.trans (hb8.mono (by omega))
  have OW_8 := Lib.hid (OW_7.out.below hb8)
  have Y_8 := Lib.hid (Y_7.out.below hb8)
  have HB0_8 := Lib.hid (HB0_7.out.belowAll hb8)
  have X0_8 := Lib.hid (X0_7.out.below hb8)
  have HB1_8 := Lib.hid (HB1_7.out.belowAll hb8)
  have X1_8 := Lib.hid (X1_7.out.below hb8)
  clear hb8 E7 OW_7 Y_7 HB0_7 X0_7 HB1_7 X1_7
  have y0 := (Box.alloc Y_8.out (.cells #[.int .i64 N, (Value.slice pga pgl pgc)] 28)).c0; have y1 := (Box.alloc Y_8.out (.cells #[.int .i64 N, (Value.slice pga pgl pgc)] 28)).c1
  go_wp2_with fail
  obtain ⟨w9, h9⟩ : ∃ w', w' = w8.alloc (.cells #[.int .i64 N, (Value.slice pga pgl pgc)] 28) := ⟨_, rfl⟩
  have Z_9 : Hid (Box w9 w8.heap.size (.int .i64 N) (Value.slice pga pgl pgc) 28) := by rw [h9]; exact Box.new w8 _ _ _
  have hb9 : Below w8.heap.size w8 w9 := by rw [h9]; exact (Below.refl _ _).alloc (Nat.le_refl _) _
  rw [← h9]
  clear h9
  have e9 := hb9.size
  have E9 : Below W.heap.size W w9 := E8.trans (hb9.mono (by omega))
  have OW_9 := Lib.hid (OW_8.out.below hb9)
  have Y_9 := Lib.hid (Y_8.out.below hb9)
  have HB0_9 := Lib.hid (HB0_8.out.belowAll hb9)
  have X0_9 := Lib.hid (X0_8.out.below hb9)
  have HB1_9 := Lib.hid (HB1_8.out.belowAll hb9)
  have X1_9 := Lib.hid (X1_8.out.below hb9)
  have OG_9 := Lib.hid (OG_8.out.below hb9)
  clear hb9 E8 OW_8 Y_8 HB0_8 X0_8 HB1_8 X1_8 OG_8
  have lZ : w8.heap.size < w9.heap.size := Z_9.out.lt
  clear y0 y1
  refine (eqGraph_same N (Value.slice pga pgl pgc) (Value.slice pwa pwl pwc) D w9 OG_9.out.sl OW_9.out.sl (by omega)).mono ?_
  rintro e w10 ⟨rfl, hb10⟩
  have e10 := hb10.size
  have E10 : Below W.heap.size W w10 := E9.trans (hb10.mono (by omega))
  have OW_10 := Lib.hid (OW_9.out.below hb10)
  have Y_10 := Lib.hid (Y_9.out.below hb10)
  have HB0_10 := Lib.hid (HB0_9.out.belowAll hb10)
  have X0_10 := Lib.hid (X0_9.out.below hb10)
  have HB1_10 := Lib.hid (HB1_9.out.belowAll hb10)
  have X1_10 := Lib.hid (X1_9.out.below hb10)
  have OG_10 := Lib.hid (OG_9.out.below hb10)
  have Z_10 := Lib.hid (Z_9.out.below hb10)
  clear hb10 E9 OW_9 Y_9 HB0_9 X0_9 HB1_9 X1_9 OG_9 Z_9
  have a00 := (A0_0.out.from E10 (by omega)).c0; have a01 := (A0_0.out.from E10 (by omega)).c1
  have x0 := (X0_10.out).c0; have x1 := (X0_10.out).c1
  go_wp2_with fail
  go_region_held3 (fun w' => w'.cell? ⟨w.heap.size, 0, none⟩ = some (.int .i64 n0) ∧ w'.cell? ⟨w.heap.size, 1, none⟩ = some v0 ∧ w'.cell? ⟨w4.heap.size, 0, none⟩ = some (.int .i64 n0) ∧ w'.cell? ⟨w4.heap.size, 1, none⟩ = some (.slice (some ⟨w3.heap.size + 3, 0, none⟩) zs0.length zs0.length))
    (go_keep)
    (first | (go_at_call 17; refine (toGraph_any n0 v0 zs0 _ ((SW0.out.below E10).below ((Below.refl _ _).drew)) hl20_0).mono ?_; rintro e q11 ⟨rfl, hBq, hbq⟩; have HBQ := Lib.hid hBq; have hbq' : Below w10.heap.size w10 q11 := below_drew hbq (by simp); have a00 := (Box.below (A0_0.out.from E10 (by omega)) hbq').c0; have a01 := (Box.below (A0_0.out.from E10 (by omega)) hbq').c1; have x0 := (X0_10.out.below hbq').c0; have x1 := (X0_10.out.below hbq').c1; clear hBq) | (go_at_call 20; refine (eqGraph_same n0 _ _ zs0 _ ((HB0_10.out.belowAll hbq').sl _) (HBQ.out.sl _) hl0).mono ?_; rintro e w11 ⟨rfl, hbr⟩; have hb11 : Below w10.heap.size w10 w11 := hbq'.trans (hbr.mono hbq'.size); have a00 := (Box.below (A0_0.out.from E10 (by omega)) hb11).c0; have a01 := (Box.below (A0_0.out.from E10 (by omega)) hb11).c1; have x0 := (X0_10.out.below hb11).c0; have x1 := (X0_10.out.below hb11).c1))
  clear a00 a01 x0 x1 hbq hbq' hbr HBQ
  have e11 := hb11.size
  have E11 : Below W.heap.size W w11 := E10.trans (hb11.mono (by omega))
  have OW_11 := Lib.hid (OW_10.out.below hb11)
  have Y_11 := Lib.hid (Y_10.out.below hb11)
  have HB0_11 := Lib.hid (HB0_10.out.belowAll hb11)
  have X0_11 := Lib.hid (X0_10.out.below hb11)
  have HB1_11 := Lib.hid (HB1_10.out.belowAll hb11)
  have X1_11 := Lib.hid (X1_10.out.below hb11)
  have OG_11 := Lib.hid (OG_10.out.below hb11)
  have Z_11 := Lib.hid (Z_10.out.below hb11)
  clear hb11 E10 OW_10 Y_10 HB0_10 X0_10 HB1_10 X1_10 OG_10 Z_10
  have a10 := (A1_0.out.from E11 (by omega)).c0; have a11 := (A1_0.out.from E11 (by omega)).c1
  have x0 := (X1_11.out).c0; have x1 := (X1_11.out).c1
  go_wp2_with fail
  go_region_held3 (fun w' => w'.cell? ⟨w.heap.size + 1, 0, none⟩ = some (.int .i64 n1) ∧ w'.cell? ⟨w.heap.size + 1, 1, none⟩ = some v1 ∧ w'.cell? ⟨w6.heap.size, 0, none⟩ = some (.int .i64 n1) ∧ w'.cell? ⟨w6.heap.size, 1, none⟩ = some (.slice (some ⟨w5.heap.size + 3, 0, none⟩) zs1.length zs1.length))
    (go_keep)
    (first | (go_at_call 17; refine (toGraph_any n1 v1 zs1 _ ((SW1.out.below E11).below ((Below.refl _ _).drew)) hl20_1).mono ?_; rintro e q12 ⟨rfl, hBq, hbq⟩; have HBQ := Lib.hid hBq; have hbq' : Below w11.heap.size w11 q12 := below_drew hbq (by simp); have a10 := (Box.below (A1_0.out.from E11 (by omega)) hbq').c0; have a11 := (Box.below (A1_0.out.from E11 (by omega)) hbq').c1; have x0 := (X1_11.out.below hbq').c0; have x1 := (X1_11.out.below hbq').c1; clear hBq) | (go_at_call 20; refine (eqGraph_same n1 _ _ zs1 _ ((HB1_11.out.belowAll hbq').sl _) (HBQ.out.sl _) hl1).mono ?_; rintro e w12 ⟨rfl, hbr⟩; have hb12 : Below w11.heap.size w11 w12 := hbq'.trans (hbr.mono hbq'.size); have a10 := (Box.below (A1_0.out.from E11 (by omega)) hb12).c0; have a11 := (Box.below (A1_0.out.from E11 (by omega)) hb12).c1; have x0 := (X1_11.out.below hb12).c0; have x1 := (X1_11.out.below hb12).c1))
  clear a10 a11 x0 x1 hbq hbq' hbr HBQ
  have e12 := hb12.size
  have E12 : Below W.heap.size W w12 := E11.trans (hb12.mono (by omega))
  have OW_12 := Lib.hid (OW_11.out.below hb12)
  have Y_12 := Lib.hid (Y_11.out.below hb12)
  have HB0_12 := Lib.hid (HB0_11.out.belowAll hb12)
  have X0_12 := Lib.hid (X0_11.out.below hb12)
  have HB1_12 := Lib.hid (HB1_11.out.belowAll hb12)
  have X1_12 := Lib.hid (X1_11.out.below hb12)
  have OG_12 := Lib.hid (OG_11.out.below hb12)
  have Z_12 := Lib.hid (Z_11.out.below hb12)
  clear hb12 E11 OW_11 Y_11 HB0_11 X0_11 HB1_11 X1_11 OG_11 Z_11
  have x0 := (X0_12.out).c0; have x1 := (X0_12.out).c1
  have hk0 : (0 : Int) ≤ 1 := by omega
  go_wp2_with fail
  refine (markGraph_any n0 (.slice (some ⟨w3.heap.size + 3, 0, none⟩) zs0.length zs0.length) (w3.heap.size + 3) zs0 (1) w12 (Own.of_blk HB0_12.out (Nat.le_refl _) (by unfold maxLen; omega)) (by omega) (by omega) (by omega)).mono ?_
  rintro e w13 ⟨rfl, -, hg⟩
  clear x0 x1
  have hb13 : w12.grownBy w13 (some (w3.heap.size + 3)) := hg
  clear hg
  have e13 := hb13.size
  have E13 : Below W.heap.size W w13 := E12.grown hb13 (by omega) (fun k e => by cases e; omega)
  have OW_13 := Lib.hid (OW_12.out.kept hb13 (by (cases hu : (Value.slice pwa pwl pwc).ownBlock with | none => exact .inl rfl | some k => exact .inr fun e => by (cases e; have := LOW.out _ hu; omega))))
  have Y_13 := Lib.hid (Y_12.out.grown hb13 (by simp; omega))
  have X0_13 := Lib.hid (X0_12.out.grown hb13 (by simp; omega))
  have HB1_13 := Lib.hid (blk_grown HB1_12.out hb13 (by simp; omega))
  have X1_13 := Lib.hid (X1_12.out.grown hb13 (by simp; omega))
  have OG_13 := Lib.hid (OG_12.out.kept hb13 (by (cases hu : (Value.slice pga pgl pgc).ownBlock with | none => exact .inl rfl | some k => exact .inr fun e => by (cases e; have := LOG.out _ hu; omega))))
  have Z_13 := Lib.hid (Z_12.out.grown hb13 (by simp; omega))
  clear hb13 E12 OW_12 Y_12 X0_12 HB1_12 X1_12 OG_12 Z_12
  have x0 := (X1_13.out).c0; have x1 := (X1_13.out).c1
  have hk1 : (0 : Int) ≤ 1 + (zs0.length : Int) := by omega
  go_wp2_with fail
  refine (markGraph_any n1 (.slice (some ⟨w5.heap.size + 3, 0, none⟩) zs1.length zs1.length) (w5.heap.size + 3) zs1 (1 + (zs0.length : Int)) w13 (Own.of_blk HB1_13.out (Nat.le_refl _) (by unfold maxLen; omega)) (by omega) (by omega) (by omega)).mono ?_
  rintro e w14 ⟨rfl, -, hg⟩
  clear x0 x1
  have hb14 : w13.grownBy w14 (some (w5.heap.size + 3)) := hg
  clear hg
  have e14 := hb14.size
  have E14 : Below W.heap.size W w14 := E13.grown hb14 (by omega) (fun k e => by cases e; omega)
  have OW_14 := Lib.hid (OW_13.out.kept hb14 (by (cases hu : (Value.slice pwa pwl pwc).ownBlock with | none => exact .inl rfl | some k => exact .inr fun e => by (cases e; have := LOW.out _ hu; omega))))
  have Y_14 := Lib.hid (Y_13.out.grown hb14 (by simp; omega))
  have X0_14 := Lib.hid (X0_13.out.grown hb14 (by simp; omega))
  have X1_14 := Lib.hid (X1_13.out.grown hb14 (by simp; omega))
  have OG_14 := Lib.hid (OG_13.out.kept hb14 (by (cases hu : (Value.slice pga pgl pgc).ownBlock with | none => exact .inl rfl | some k => exact .inr fun e => by (cases e; have := LOG.out _ hu; omega))))
  have Z_14 := Lib.hid (Z_13.out.grown hb14 (by simp; omega))
  clear hb14 E13 OW_13 Y_13 X0_13 X1_13 OG_13 Z_13
  have z0 := (Z_14.out).c0; have z1 := (Z_14.out).c1
  have y0 := (Y_14.out).c0; have y1 := (Y_14.out).c1
  have hkk : (0 : Int) ≤ 1 + (zs0.length : Int) + (zs1.length : Int) := by omega
  go_wp2_with fail
  clear z0 z1 y0 y1
  refine (eqGraph_same N (Value.slice pga pgl pgc) (Value.slice pwa pwl pwc) D w14 OG_14.out.sl OW_14.out.sl (by omega)).mono ?_
  rintro e w15 ⟨rfl, hb15⟩
  have e15 := hb15.size
  have E15 : Below W.heap.size W w15 := E14.trans (hb15.mono (by omega))
  have OW_15 := Lib.hid (OW_14.out.below hb15)
  have Y_15 := Lib.hid (Y_14.out.below hb15)
  have X0_15 := Lib.hid (X0_14.out.below hb15)
  have X1_15 := Lib.hid (X1_14.out.below hb15)
  have OG_15 := Lib.hid (OG_14.out.below hb15)
  have Z_15 := Lib.hid (Z_14.out.below hb15)
  clear hb15 E14 OW_14 Y_14 X0_14 X1_14 OG_14 Z_14
  have z0 := (Z_15.out).c0; have z1 := (Z_15.out).c1
  go_wp2_with fail
  refine (markGraph_any N (Value.slice pga pgl pgc) w7.heap.size D 1 w15 OG_15.out (by decide) (by decide) (by omega)).mono ?_
  rintro e w16 ⟨rfl, hOm, hb16⟩
  clear z0 z1
  have e16 := hb16.size
  have E16 : Below W.heap.size W w16 := E15.grown hb16 (by omega) (fun k e => by have := LOG.out _ e; omega)
  have OW_16 := Lib.hid (OW_15.out.kept hb16 (by (cases hu : (Value.slice pwa pwl pwc).ownBlock with | none => exact .inl rfl | some k => exact .inr fun e => by (have h1 := LOW.out _ hu; have h2 := LOG.out _ e.symm; omega))))
  have Y_16 := Lib.hid (Y_15.out.grown hb16 (fun e => by have := LOG.out _ e.symm; omega))
  have X0_16 := Lib.hid (X0_15.out.grown hb16 (fun e => by have := LOG.out _ e.symm; omega))
  have X1_16 := Lib.hid (X1_15.out.grown hb16 (fun e => by have := LOG.out _ e.symm; omega))
  have Z_16 := Lib.hid (Z_15.out.grown hb16 (fun e => by have := LOG.out _ e.symm; omega))
  clear hb16 E15 OW_15 Y_15 X0_15 X1_15 Z_15
  have OG_16 : Hid (Own w16 w7.heap.size (Value.slice pga pgl pgc) (markL 1 D.length)) := hOm
  clear hOm
  have hd0 : (0 : Int) ≤ 1 + (D.length : Int) := by omega
  have z0 := (Z_16.out).c0; have z1 := (Z_16.out).c1
  go_wp2_with fail
  clear z0 z1
  refine (heldGraph_any N (Value.slice pga pgl pgc) D.length 1 _ OG_16.out.sl (by decide) (by decide) (by omega)).mono ?_
  rintro e w17 ⟨rfl, hb17⟩
  have e17 := hb17.size
  have E17 : Below W.heap.size W w17 := E16.trans (hb17.mono (by omega))
  have OW_17 := Lib.hid (OW_16.out.below hb17)
  have Y_17 := Lib.hid (Y_16.out.below hb17)
  have X0_17 := Lib.hid (X0_16.out.below hb17)
  have X1_17 := Lib.hid (X1_16.out.below hb17)
  have Z_17 := Lib.hid (Z_16.out.below hb17)
  have OG_17 := Lib.hid (OG_16.out.below hb17)
  clear hb17 E16 OW_16 Y_16 X0_16 X1_16 Z_16 OG_16
  have a00 := (A0_0.out.from E17 (by omega)).c0; have a01 := (A0_0.out.from E17 (by omega)).c1
  have a10 := (A1_0.out.from E17 (by omega)).c0; have a11 := (A1_0.out.from E17 (by omega)).c1
  have hsl17 : W.heap.size ≤ w17.heap.size := E17.size
  have hcp0 : Hid (∀ W1, Below w17.heap.size w17 W1 → Calls Tryd.prog 17 #[.agg #[.int .i64 n0, v0]] W1 fun e w' => e = .returned (.agg #[.int .i64 n0, .slice (some ⟨W1.heap.size + 3, 0, none⟩) zs0.length zs0.length]) ∧ Blk w' (W1.heap.size + 3) zs0 ∧ Below W1.heap.size W1 w' ∧ Below w17.heap.size w17 w') := fun W1 h =>
      (toGraph_any n0 v0 zs0 W1 ((SW0.out.below E17).below h) hl20_0).mono fun e w' ⟨a, b, c⟩ => ⟨a, b, c, h.trans (c.mono h.size)⟩
  have hcp1 : Hid (∀ W1, Below w17.heap.size w17 W1 → Calls Tryd.prog 17 #[.agg #[.int .i64 n1, v1]] W1 fun e w' => e = .returned (.agg #[.int .i64 n1, .slice (some ⟨W1.heap.size + 3, 0, none⟩) zs1.length zs1.length]) ∧ Blk w' (W1.heap.size + 3) zs1 ∧ Below W1.heap.size W1 w' ∧ Below w17.heap.size w17 w') := fun W1 h =>
      (toGraph_any n1 v1 zs1 W1 ((SW1.out.below E17).below h) hl20_1).mono fun e w' ⟨a, b, c⟩ => ⟨a, b, c, h.trans (c.mono h.size)⟩
  have hfn : Hid (∀ (g0 g1 : Nat) (W1 : World), Blk W1 g0 zs0 → Blk W1 g1 zs1 → Below w17.heap.size w17 W1 → Calls Tryd.prog 42 #[.agg #[.int .i64 n0, .slice (some ⟨g0, 0, none⟩) zs0.length zs0.length], .agg #[.int .i64 n1, .slice (some ⟨g1, 0, none⟩) zs1.length zs1.length]] W1 fun e w' => GRes W1.heap.size N D c e w' ∧ Below W1.heap.size W1 w' ∧ Below w17.heap.size w17 w') := fun g0 g1 W1 hB0 hB1 h => by
      have hcon := implPb_any n0 n1 (.slice (some ⟨g0, 0, none⟩) zs0.length zs0.length) (.slice (some ⟨g1, 0, none⟩) zs1.length zs1.length) zs0 zs1 W1 (hB0.sl _) (hB1.sl _) hl0 hl1 ((TW.out.below E17 TW.out.lt).belowAll h)
      rw [← HD.out, ← HC.out, ← HN.out] at hcon
      exact hcon.mono fun e w' ⟨a, b⟩ => ⟨a, b, h.trans (b.mono h.size)⟩
  have hA17 : Hid (∀ W1, Below w17.heap.size w17 W1 → W1.cell? ⟨w.heap.size, 0, none⟩ = some (.int .i64 n0) ∧ W1.cell? ⟨w.heap.size, 1, none⟩ = some v0 ∧ W1.cell? ⟨w.heap.size + 1, 0, none⟩ = some (.int .i64 n1) ∧ W1.cell? ⟨w.heap.size + 1, 1, none⟩ = some v1) := fun W1 h =>
      ⟨(A0_0.out.from (E17.trans (h.mono hsl17)) (by omega)).c0, (A0_0.out.from (E17.trans (h.mono hsl17)) (by omega)).c1, (A1_0.out.from (E17.trans (h.mono hsl17)) (by omega)).c0, (A1_0.out.from (E17.trans (h.mono hsl17)) (by omega)).c1⟩
  go_upto_region 31 with fail
  go_cut [15, 16] (fun ta tb wx => ∃ (k : Nat) (u : Value), ta = .pointer (some ⟨k, 0, none⟩) ∧ tb = .int .i64 c ∧ Box wx k (.int .i64 N) u 28 ∧ Own wx w17.heap.size u D ∧ Below w17.heap.size w17 wx ∧ w17.heap.size ≤ k ∧ u.ownBlock ≠ some k)
  case first =>
    go_region_held3 (fun w' => w'.cell? ⟨w.heap.size, 0, none⟩ = some (.int .i64 n0) ∧ w'.cell? ⟨w.heap.size, 1, none⟩ = some v0 ∧ w'.cell? ⟨w.heap.size + 1, 0, none⟩ = some (.int .i64 n1) ∧ w'.cell? ⟨w.heap.size + 1, 1, none⟩ = some v1)
      (go_keep)
      (first
        | (go_at_call 17; (with_reducible refine (hcp0.out _ (((Below.refl _ _).alloc (Nat.le_refl _) _).drew)).mono ?_); rintro e q1 ⟨rfl, hq1, hb1, B1⟩; (try simp at hq1); have Q0_1 := Lib.hid hq1; clear hq1; have RB := Lib.hid ((hb1.block w17.heap.size (by simp)).trans (World.alloc_heap_new w17 (.cells #[.int .i64 0, .slice none 0 0] 28))); have rl0 := (Array.getElem?_eq_some_iff.1 RB.out).1; obtain ⟨r0, r1, g0, g1⟩ := two_cells RB.out; have m0a : ¬ w.heap.size = w17.heap.size := (by omega); have m0b : ¬ w17.heap.size = w.heap.size := (by omega); have m1a : ¬ w.heap.size + 1 = w17.heap.size := (by omega); have m1b : ¬ w17.heap.size = w.heap.size + 1 := (by omega); obtain ⟨c00, c01, c10, c11⟩ := hA17.out q1 B1)
        | (go_at_call 17; (with_reducible refine (hcp0.out _ ((Below.refl _ _).drew)).mono ?_); rintro e q1 ⟨rfl, hq1, hb1, B1⟩; (try simp at hq1); have Q0_1 := Lib.hid hq1; clear hq1; obtain ⟨c00, c01, c10, c11⟩ := hA17.out q1 B1)
        | (go_at_call 17; have RBo := RB; clear RB; (with_reducible refine (hcp1.out _ B1).mono ?_); rintro e q2 ⟨rfl, hq2, hb2, B2⟩; (try simp at hq2); have Q1_2 := Lib.hid hq2; clear hq2; have Q0_2 := Lib.hid (Blk.belowAll Q0_1.out hb2); have RB := Lib.hid (kept_block hb2 RBo.out); clear RBo; have rl1 := (Array.getElem?_eq_some_iff.1 RB.out).1; obtain ⟨r0, r1, g0, g1⟩ := two_cells RB.out; obtain ⟨c00, c01, c10, c11⟩ := hA17.out q2 B2)
        | (go_at_call 17; (with_reducible refine (hcp1.out _ (B1.alloc B1.size _)).mono ?_); rintro e q2 ⟨rfl, hq2, hb2, B2⟩; (try simp at hq2); have Q1_2 := Lib.hid hq2; clear hq2; have Q0_2 := Lib.hid (Blk.belowAll (Blk.alloc Q0_1.out _) hb2); have RB := Lib.hid ((hb2.block q1.heap.size (by simp)).trans (World.alloc_heap_new q1 (.cells #[.int .i64 0, .slice none 0 0] 28))); have rl1 := (Array.getElem?_eq_some_iff.1 RB.out).1; obtain ⟨r0, r1, g0, g1⟩ := two_cells RB.out; have m0a : ¬ w.heap.size = q1.heap.size := (by have := B1.size; omega); have m0b : ¬ q1.heap.size = w.heap.size := (by have := B1.size; omega); have m1a : ¬ w.heap.size + 1 = q1.heap.size := (by have := B1.size; omega); have m1b : ¬ q1.heap.size = w.heap.size + 1 := (by have := B1.size; omega); obtain ⟨c00, c01, c10, c11⟩ := hA17.out q2 B2)
        | (go_at_call 17; (with_reducible refine (hcp1.out _ B1).mono ?_); rintro e q2 ⟨rfl, hq2, hb2, B2⟩; (try simp at hq2); have Q1_2 := Lib.hid hq2; clear hq2; have Q0_2 := Lib.hid (Blk.belowAll Q0_1.out hb2); obtain ⟨c00, c01, c10, c11⟩ := hA17.out q2 B2)
        | (go_at_call 42; have RBo := RB; clear RB; (with_reducible refine (hfn.out _ _ _ Q0_2.out Q1_2.out B2).mono ?_); rintro e q3 ⟨⟨u, rfl, hO⟩, hb3, B3⟩; obtain ⟨ua, ul, uc, rfl⟩ := own_slice hO; have RB := Lib.hid (kept_block hb3 RBo.out); clear RBo; have rl2 := (Array.getElem?_eq_some_iff.1 RB.out).1; obtain ⟨r0, r1, g0, g1⟩ := two_cells RB.out; obtain ⟨c00, c01, c10, c11⟩ := hA17.out q3 B3)
        | (go_at_call 42; (with_reducible refine (hfn.out _ _ _ (Blk.alloc Q0_2.out _) (Blk.alloc Q1_2.out _) (B2.alloc B2.size _)).mono ?_); rintro e q3 ⟨⟨u, rfl, hO⟩, hb3, B3⟩; obtain ⟨ua, ul, uc, rfl⟩ := own_slice hO; have RB := Lib.hid ((hb3.block q2.heap.size (by simp)).trans (World.alloc_heap_new q2 (.cells #[.int .i64 0, .slice none 0 0] 28))); have rl2 := (Array.getElem?_eq_some_iff.1 RB.out).1; obtain ⟨r0, r1, g0, g1⟩ := two_cells RB.out; have m0a : ¬ w.heap.size = q2.heap.size := (by have := B2.size; omega); have m0b : ¬ q2.heap.size = w.heap.size := (by have := B2.size; omega); have m1a : ¬ w.heap.size + 1 = q2.heap.size := (by have := B2.size; omega); have m1b : ¬ q2.heap.size = w.heap.size + 1 := (by have := B2.size; omega); obtain ⟨c00, c01, c10, c11⟩ := hA17.out q3 B3)
        | (go_at_call 42; (with_reducible refine (hfn.out _ _ _ Q0_2.out Q1_2.out B2).mono ?_); rintro e q3 ⟨⟨u, rfl, hO⟩, hb3, B3⟩; obtain ⟨ua, ul, uc, rfl⟩ := own_slice hO; obtain ⟨c00, c01, c10, c11⟩ := hA17.out q3 B3))
    all_goals go_wp2_with fail
    all_goals go_meet
    all_goals first | exact ⟨_, _, rfl, rfl, fin_alloc hO (by have := B2.size; first | omega | (simp; done) | (simp; omega)) B3⟩ | exact ⟨_, _, rfl, rfl, fin_set hO (by have := B2.size; first | omega | (simp; done) | (simp; omega)) (by have := B2.size; first | omega | (simp; done) | (simp; omega)) (by first | omega | (simp; done) | (have := B1.size; omega) | (have := B2.size; omega)) RB.out B3⟩
  case rest =>
  obtain ⟨kV, uph, rfl, rfl, hbx, hO, hb18, hkV, hneV⟩ := hcut
  obtain ⟨pha, phl, phc, rfl⟩ := own_slice hO
  obtain ⟨w18, rfl⟩ : ∃ w0 : World, w0 = wc := ⟨_, rfl⟩
  clear a00 a01 a10 a11
  clear hA17 hfn hcp0 hcp1
  have OH_18 : Hid (Own w18 w17.heap.size (Value.slice pha phl phc) D) := hO
  have LOH : Hid (∀ k, (Value.slice pha phl phc).ownBlock = some k → w17.heap.size ≤ k ∧ k < w18.heap.size) := fun k e => ⟨hO.ge k e, hO.lt k e⟩
  have V_18 := Lib.hid hbx
  have lV : kV < w18.heap.size := hbx.lt
  have NEOH := Lib.hid hneV
  clear hO hbx hneV
  have e18 := hb18.size
  have E18 : Below W.heap.size W w18 := E17.trans (hb18.mono (by omega))
  have OW_18 := Lib.hid (OW_17.out.below hb18)
  have Y_18 := Lib.hid (Y_17.out.below hb18)
  have X0_18 := Lib.hid (X0_17.out.below hb18)
  have X1_18 := Lib.hid (X1_17.out.below hb18)
  have Z_18 := Lib.hid (Z_17.out.below hb18)
  have OG_18 := Lib.hid (OG_17.out.below hb18)
  clear hb18 E17 OW_17 Y_17 X0_17 X1_17 Z_17 OG_17
  have v_0 := (V_18.out).c0; have v_1 := (V_18.out).c1
  have y0 := (Y_18.out).c0; have y1 := (Y_18.out).c1
  go_wp2_with fail
  clear v_0 v_1 y0 y1
  refine (eqGraph_same N (Value.slice pha phl phc) (Value.slice pwa pwl pwc) D w18 OH_18.out.sl OW_18.out.sl (by omega)).mono ?_
  rintro e w19 ⟨rfl, hb19⟩
  have e19 := hb19.size
  have E19 : Below W.heap.size W w19 := E18.trans (hb19.mono (by omega))
  have OW_19 := Lib.hid (OW_18.out.below hb19)
  have Y_19 := Lib.hid (Y_18.out.below hb19)
  have X0_19 := Lib.hid (X0_18.out.below hb19)
  have X1_19 := Lib.hid (X1_18.out.below hb19)
  have Z_19 := Lib.hid (Z_18.out.below hb19)
  have OG_19 := Lib.hid (OG_18.out.below hb19)
  have OH_19 := Lib.hid (OH_18.out.below hb19)
  have V_19 := Lib.hid (V_18.out.below hb19)
  clear hb19 E18 OW_18 Y_18 X0_18 X1_18 Z_18 OG_18 OH_18 V_18
  have z0 := (Z_19.out).c0; have z1 := (Z_19.out).c1
  go_wp2_with fail
  clear z0 z1
  refine (heldGraph_any N (Value.slice pga pgl pgc) D.length 1 _ OG_19.out.sl (by decide) (by decide) (by omega)).mono ?_
  rintro e w20 ⟨rfl, hb20⟩
  have e20 := hb20.size
  have E20 : Below W.heap.size W w20 := E19.trans (hb20.mono (by omega))
  have OW_20 := Lib.hid (OW_19.out.below hb20)
  have Y_20 := Lib.hid (Y_19.out.below hb20)
  have X0_20 := Lib.hid (X0_19.out.below hb20)
  have X1_20 := Lib.hid (X1_19.out.below hb20)
  have Z_20 := Lib.hid (Z_19.out.below hb20)
  have OG_20 := Lib.hid (OG_19.out.below hb20)
  have OH_20 := Lib.hid (OH_19.out.below hb20)
  have V_20 := Lib.hid (V_19.out.below hb20)
  clear hb20 E19 OW_19 Y_19 X0_19 X1_19 Z_19 OG_19 OH_19 V_19
  go_wp2_with fail
  go_ret
  exact ⟨rfl, D0.trans (E20.mono D0.size)⟩
end Go.Proofs.YtbpcdgfcdahnlaaDoor.fnExactPutBeside
