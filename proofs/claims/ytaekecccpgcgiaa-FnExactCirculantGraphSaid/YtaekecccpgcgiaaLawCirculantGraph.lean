/-
  laws.FnExactCirculantGraph: the walk: for every argument that comes in the law returns true and leaves what was there.
-/
import Derived.Test.YtaekecccpgcgiaaPg
import Derived.Test.YtaekecccpgcgiaaCi
import Derived.Test.YtaekecccpgcgiaaTo
import Derived.Deep.RegionHeld3
import Derived.Deep.DeepCutAuto
namespace Go.Proofs.Ytaekecccpgcgiaa.fnExactCirculantGraph
open Go.RowKit

theorem below_drew {B B' : Nat} {w w' : World} (h : Below B' w.drew w') (hB : B ≤ B') : Below B w w' := ((Below.refl B w).drew).trans (h.mono hB)
theorem kept_block {w w' : World} (h : Below w.heap.size w w') {k : Nat} {x : Obj} (hx : w.heap[k]? = some x) : w'.heap[k]? = some x := (h.block k (Array.getElem?_eq_some_iff.1 hx).1).trans hx

/-- Block k holds a pair. -/
def Box (w : World) (k : Nat) (x y : Value) (t : TypeId) : Prop := w.heap[k]? = some (.cells #[x, y] t (0, 0))
theorem Box.lt {w : World} {k : Nat} {x y : Value} {t : TypeId} (h : Box w k x y t) : k < w.heap.size := (Array.getElem?_eq_some_iff.1 h).1
theorem Box.new (w : World) (x y : Value) (t : TypeId) : Box (w.alloc (.cells #[x, y] t)) w.heap.size x y t := World.alloc_heap_new w _
theorem Box.below {w w' : World} {k : Nat} {x y : Value} {t : TypeId} (h : Box w k x y t) (hb : Below w.heap.size w w') : Box w' k x y t := (hb.block k h.lt).trans h
theorem Box.from {B : Nat} {w w' : World} {k : Nat} {x y : Value} {t : TypeId} (h : Box w k x y t) (hb : Below B w w') (hk : k < B) : Box w' k x y t := (hb.block k hk).trans h
theorem Box.alloc {w : World} {k : Nat} {x y : Value} {t : TypeId} (h : Box w k x y t) (o : Obj) : Box (w.alloc o) k x y t := h.below ((Below.refl _ _).alloc (Nat.le_refl _) o)
theorem Box.grown {w w' : World} {k : Nat} {x y : Value} {t : TypeId} {row : Option Nat} (h : Box w k x y t) (hg : w.grownBy w' row) (hne : some k ≠ row) : Box w' k x y t := (hg.block k h.lt hne).trans h
theorem Box.c0 {w : World} {k : Nat} {x y : Value} {t : TypeId} (h : Box w k x y t) : w.cell? ⟨k, 0, none⟩ = some x := (two_cells h).1
theorem Box.c1 {w : World} {k : Nat} {x y : Value} {t : TypeId} (h : Box w k x y t) : w.cell? ⟨k, 1, none⟩ = some y := (two_cells h).2.1
theorem blk_grown {w w' : World} {g : Nat} {zs : List Int} {row : Option Nat} (h : Blk w g zs) (hg : w.grownBy w' row) (hne : some g ≠ row) : Blk w' g zs := (hg.block g h.lt hne).trans h
theorem eqInts_same (v1 v2 : Value) (xs : List Int) (w : World) (h1 : Sl w v1 xs) (h2 : Sl w v2 xs) (hx : xs.length ≤ 9223372036854775807) :
    Calls Try.prog 13 #[v1, v2] w fun e w' => e = .returned (.bool true) ∧ Below w.heap.size w w' := by
  have := eqInts_any v1 v2 xs xs w h1 h2 hx
  simpa using this

theorem own_slice {w : World} {B : Nat} {u : Value} {L : List Int} (h : Own w B u L) : ∃ a l c, u = .slice a l c := by
  rcases h.form with ⟨rfl, _⟩ | ⟨g, cap, rfl, _⟩
  · exact ⟨_, _, _, rfl⟩
  · exact ⟨_, _, _, rfl⟩

theorem fin_alloc {w q : World} {B : Nat} {N : Int} {u : Value} {D : List Int} (hO : Own q B u D) (hc : w.heap.size ≤ B) (hB : Below w.heap.size w q) :
    Box (q.alloc (.cells #[.int .i64 N, u] 35)) q.heap.size (.int .i64 N) u 35 ∧ Own (q.alloc (.cells #[.int .i64 N, u] 35)) w.heap.size u D ∧ Below w.heap.size w (q.alloc (.cells #[.int .i64 N, u] 35)) ∧ w.heap.size ≤ q.heap.size ∧ u.ownBlock ≠ some q.heap.size :=
  ⟨Box.new q _ _ _, (hO.base hc).below ((Below.refl _ _).alloc (Nat.le_refl _) _), hB.alloc hB.size _, hB.size, fun e => by have := hO.lt _ e; omega⟩
theorem fin_set {w q : World} {b B : Nat} {N : Int} {u : Value} {D : List Int} (hO : Own q B u D) (hc : w.heap.size ≤ B) (hb : b < B) (hw : w.heap.size ≤ b) (RB : q.heap[b]? = some (.cells #[.int .i64 0, .slice none 0 0] 35 (0, 0))) (hB : Below w.heap.size w q) :
    Box ((q.setCell ⟨b, 0, none⟩ (.int .i64 N)).setCell ⟨b, 1, none⟩ u) b (.int .i64 N) u 35 ∧ Own ((q.setCell ⟨b, 0, none⟩ (.int .i64 N)).setCell ⟨b, 1, none⟩ u) w.heap.size u D ∧ Below w.heap.size w ((q.setCell ⟨b, 0, none⟩ (.int .i64 N)).setCell ⟨b, 1, none⟩ u) ∧ w.heap.size ≤ b ∧ u.ownBlock ≠ some b := by
  have hne : u.ownBlock ≠ some b := fun e => by have := hO.ge _ e; omega
  exact ⟨two_set RB, (hO.base hc).kept (grown_set (grown_set ⟨rfl, rfl, rfl, Nat.le_refl _, fun _ _ _ => rfl⟩ b 0 _) b 1 _) (.inr hne), (hB.setCell (p := ⟨b, 0, none⟩) hw _).setCell (p := ⟨b, 1, none⟩) hw _, hw, hne⟩

set_option maxHeartbeats 6400000 in
set_option maxRecDepth 100000 in
theorem law (x0 : Int) (v1 : Value) (zs1 : List Int) (w : World) (hs1 : Sl w v1 zs1) (hl1 : zs1.length ≤ 9223372036854775807) :
    Calls Try.prog 8 #[.int .i64 x0, v1] w fun e w' => e = .returned (.bool true) ∧ Below w.heap.size w w' := by
  obtain ⟨pa1, pc1, rfl⟩ : ∃ a c, v1 = .slice a zs1.length c := ⟨_, _, slForm hs1⟩
  have HS1 := Lib.hid hs1; clear hs1
  have D0 : Below w.heap.size w w := Below.refl _ _
  have E0 : Below w.heap.size w w := Below.refl _ _
  have SW1 := Lib.hid (HS1.out.below D0)
  by_cases hbig1 : (1048576 : Int) < zs1.length
  · go_enter Try.func8, Try.ntmps8
    go_wp2_with fail
    go_ret
    exact ⟨rfl, D0⟩
  have hl20_1 : zs1.length ≤ 1048576 := by omega
  obtain ⟨D, hd⟩ : ∃ d, d = CirL x0 zs1 := ⟨_, rfl⟩
  obtain ⟨N, hn⟩ : ∃ d, d = CirN x0 zs1 := ⟨_, rfl⟩
  obtain ⟨c, hc⟩ : ∃ c, c = CirC x0 zs1 := ⟨_, rfl⟩
  have hD20 : D.length ≤ 1048576 := by rw [hd]; exact Nat.le_trans (CirL_length _ _) (by decide)
  have HD := Lib.hid hd; have HC := Lib.hid hc; have HN := Lib.hid hn
  clear  hd hc hn
  have hbg1 : ¬ (1048576 : Int) < zs1.length := hbig1; clear hbig1
  go_enter Try.func8, Try.ntmps8
  go_wp2_with fail
  go_wp2_with fail
  refine (toInts_any _ zs1 w (SW1.out.below E0) hl20_1).mono ?_
  rintro e w1 ⟨rfl, hB1, hb1⟩
  have T1_1 := Lib.hid hB1; clear hB1
  have e1 := hb1.size
  have E1 : Below w.heap.size w w1 := E0.trans (hb1.mono (by omega))
  clear hb1 E0 
  have lT1 : w.heap.size < w1.heap.size := T1_1.out.lt
  have hcon := specCir_any x0 (.slice (some ⟨w.heap.size, 0, none⟩) zs1.length zs1.length) zs1 w1 (T1_1.out.sl _)
  go_wp2_with fail
  rw [← HD.out, ← HC.out, ← HN.out] at hcon
  refine hcon.mono ?_
  rintro e w2 ⟨⟨upw, rfl, hO2⟩, hb2⟩
  clear hcon
  obtain ⟨pwa, pwl, pwc, rfl⟩ := own_slice hO2
  have OW_2 : Hid (Own w2 w1.heap.size (Value.slice pwa pwl pwc) D) := hO2
  have LOW : Hid (∀ k, (Value.slice pwa pwl pwc).ownBlock = some k → w1.heap.size ≤ k ∧ k < w2.heap.size) := fun k e => ⟨hO2.ge k e, hO2.lt k e⟩
  clear hO2
  have e2 := hb2.size
  have E2 : Below w.heap.size w w2 := E1.trans (hb2.mono (by omega))
  clear hb2 E1 
  go_wp2_with fail
  obtain ⟨w3, h3⟩ : ∃ w', w' = w2.alloc (.cells #[.int .i64 N, (Value.slice pwa pwl pwc)] 35) := ⟨_, rfl⟩
  have Y_3 : Hid (Box w3 w2.heap.size (.int .i64 N) (Value.slice pwa pwl pwc) 35) := by rw [h3]; exact Box.new w2 _ _ _
  have hb3 : Below w2.heap.size w2 w3 := by rw [h3]; exact (Below.refl _ _).alloc (Nat.le_refl _) _
  rw [← h3]
  clear h3
  have e3 := hb3.size
  have E3 : Below w.heap.size w w3 := E2.trans (hb3.mono (by omega))
  have OW_3 := Lib.hid (OW_2.out.below hb3)
  clear hb3 E2 OW_2
  have lY : w2.heap.size < w3.heap.size := Y_3.out.lt
  refine (toInts_any _ zs1 w3 (SW1.out.below E3) hl20_1).mono ?_
  rintro e w4 ⟨rfl, hB4, hb4⟩
  have HB1_4 := Lib.hid hB4; clear hB4
  have e4 := hb4.size
  have E4 : Below w.heap.size w w4 := E3.trans (hb4.mono (by omega))
  have OW_4 := Lib.hid (OW_3.out.below hb4)
  have Y_4 := Lib.hid (Y_3.out.below hb4)
  clear hb4 E3 OW_3 Y_3
  have lHB1 : w3.heap.size < w4.heap.size := HB1_4.out.lt
  go_wp2_with fail
  have hcon := implCir_any x0 (.slice (some ⟨w3.heap.size, 0, none⟩) zs1.length zs1.length) zs1 w4 (HB1_4.out.sl _) hl1
  rw [← HD.out, ← HC.out, ← HN.out] at hcon
  refine hcon.mono ?_
  rintro e w5 ⟨⟨upg, rfl, hO5⟩, hb5⟩
  clear hcon
  obtain ⟨pga, pgl, pgc, rfl⟩ := own_slice hO5
  have OG_5 : Hid (Own w5 w4.heap.size (Value.slice pga pgl pgc) D) := hO5
  have LOG : Hid (∀ k, (Value.slice pga pgl pgc).ownBlock = some k → w4.heap.size ≤ k ∧ k < w5.heap.size) := fun k e => ⟨hO5.ge k e, hO5.lt k e⟩
  clear hO5
  have e5 := hb5.size
  have E5 : Below w.heap.size w w5 := E4.trans (hb5.mono (by omega))
  have OW_5 := Lib.hid (OW_4.out.below hb5)
  have Y_5 := Lib.hid (Y_4.out.below hb5)
  have HB1_5 := Lib.hid (HB1_4.out.belowAll hb5)
  clear hb5 E4 OW_4 Y_4 HB1_4
  have y0 := (Box.alloc Y_5.out (.cells #[.int .i64 N, (Value.slice pga pgl pgc)] 35)).c0; have y1 := (Box.alloc Y_5.out (.cells #[.int .i64 N, (Value.slice pga pgl pgc)] 35)).c1
  go_wp2_with fail
  obtain ⟨w6, h6⟩ : ∃ w', w' = w5.alloc (.cells #[.int .i64 N, (Value.slice pga pgl pgc)] 35) := ⟨_, rfl⟩
  have Z_6 : Hid (Box w6 w5.heap.size (.int .i64 N) (Value.slice pga pgl pgc) 35) := by rw [h6]; exact Box.new w5 _ _ _
  have hb6 : Below w5.heap.size w5 w6 := by rw [h6]; exact (Below.refl _ _).alloc (Nat.le_refl _) _
  rw [← h6]
  clear h6
  have e6 := hb6.size
  have E6 : Below w.heap.size w w6 := E5.trans (hb6.mono (by omega))
  have OW_6 := Lib.hid (OW_5.out.below hb6)
  have Y_6 := Lib.hid (Y_5.out.below hb6)
  have HB1_6 := Lib.hid (HB1_5.out.belowAll hb6)
  have OG_6 := Lib.hid (OG_5.out.below hb6)
  clear hb6 E5 OW_5 Y_5 HB1_5 OG_5
  have lZ : w5.heap.size < w6.heap.size := Z_6.out.lt
  clear y0 y1
  refine (eqGraph_same N (Value.slice pga pgl pgc) (Value.slice pwa pwl pwc) D w6 OG_6.out.sl OW_6.out.sl (by omega)).mono ?_
  rintro e w7 ⟨rfl, hb7⟩
  have e7 := hb7.size
  have E7 : Below w.heap.size w w7 := E6.trans (hb7.mono (by omega))
  have OW_7 := Lib.hid (OW_6.out.below hb7)
  have Y_7 := Lib.hid (Y_6.out.below hb7)
  have HB1_7 := Lib.hid (HB1_6.out.belowAll hb7)
  have OG_7 := Lib.hid (OG_6.out.below hb7)
  have Z_7 := Lib.hid (Z_6.out.below hb7)
  clear hb7 E6 OW_6 Y_6 HB1_6 OG_6 Z_6
  go_wp2_with fail
  refine (toInts_any _ zs1 w7 (SW1.out.below E7) hl20_1).mono ?_
  rintro e w8 ⟨rfl, hB8, hb8⟩
  have C1_8 := Lib.hid hB8; clear hB8
  have e8 := hb8.size
  have E8 : Below w.heap.size w w8 := E7.trans (hb8.mono (by omega))
  have OW_8 := Lib.hid (OW_7.out.below hb8)
  have Y_8 := Lib.hid (Y_7.out.below hb8)
  have HB1_8 := Lib.hid (HB1_7.out.belowAll hb8)
  have OG_8 := Lib.hid (OG_7.out.below hb8)
  have Z_8 := Lib.hid (Z_7.out.below hb8)
  clear hb8 E7 OW_7 Y_7 HB1_7 OG_7 Z_7
  have lC1 : w7.heap.size < w8.heap.size := C1_8.out.lt
  go_wp2_with fail
  refine (eqInts_same _ _ zs1 w8 (HB1_8.out.sl _) (C1_8.out.sl _) hl1).mono ?_
  rintro e w9 ⟨rfl, hb9⟩
  have e9 := hb9.size
  have E9 : Below w.heap.size w w9 := E8.trans (hb9.mono (by omega))
  have OW_9 := Lib.hid (OW_8.out.below hb9)
  have Y_9 := Lib.hid (Y_8.out.below hb9)
  have HB1_9 := Lib.hid (HB1_8.out.belowAll hb9)
  have OG_9 := Lib.hid (OG_8.out.below hb9)
  have Z_9 := Lib.hid (Z_8.out.below hb9)
  clear hb9 E8 OW_8 Y_8 HB1_8 OG_8 Z_8
  have hk1 : (0 : Int) ≤ 1 := by omega
  go_wp2_with fail
  refine (markInts_any (.slice (some ⟨w3.heap.size, 0, none⟩) zs1.length zs1.length) (w3.heap.size) zs1 (1) w9 (Own.of_blk HB1_9.out (Nat.le_refl _) (by unfold maxLen; omega)) (by omega) (by omega) (by omega)).mono ?_
  rintro e w10 ⟨rfl, -, hg, -⟩
  have hb10 : w9.grownBy w10 (some (w3.heap.size)) := hg
  clear hg
  have e10 := hb10.size
  have E10 : Below w.heap.size w w10 := E9.grown hb10 (by omega) (fun k e => by cases e; omega)
  have OW_10 := Lib.hid (OW_9.out.kept hb10 (by (cases hu : (Value.slice pwa pwl pwc).ownBlock with | none => exact .inl rfl | some k => exact .inr fun e => by (cases e; have := LOW.out _ hu; omega))))
  have Y_10 := Lib.hid (Y_9.out.grown hb10 (by simp; omega))
  have OG_10 := Lib.hid (OG_9.out.kept hb10 (by (cases hu : (Value.slice pga pgl pgc).ownBlock with | none => exact .inl rfl | some k => exact .inr fun e => by (cases e; have := LOG.out _ hu; omega))))
  have Z_10 := Lib.hid (Z_9.out.grown hb10 (by simp; omega))
  clear hb10 E9 OW_9 Y_9 OG_9 Z_9
  have z0 := (Z_10.out).c0; have z1 := (Z_10.out).c1
  have y0 := (Y_10.out).c0; have y1 := (Y_10.out).c1
  have hkk : (0 : Int) ≤ 1 + (zs1.length : Int) := by omega
  go_wp2_with fail
  clear z0 z1 y0 y1
  refine (eqGraph_same N (Value.slice pga pgl pgc) (Value.slice pwa pwl pwc) D w10 OG_10.out.sl OW_10.out.sl (by omega)).mono ?_
  rintro e w11 ⟨rfl, hb11⟩
  have e11 := hb11.size
  have E11 : Below w.heap.size w w11 := E10.trans (hb11.mono (by omega))
  have OW_11 := Lib.hid (OW_10.out.below hb11)
  have Y_11 := Lib.hid (Y_10.out.below hb11)
  have OG_11 := Lib.hid (OG_10.out.below hb11)
  have Z_11 := Lib.hid (Z_10.out.below hb11)
  clear hb11 E10 OW_10 Y_10 OG_10 Z_10
  have z0 := (Z_11.out).c0; have z1 := (Z_11.out).c1
  go_wp2_with fail
  refine (markGraph_any N (Value.slice pga pgl pgc) w4.heap.size D 1 w11 OG_11.out (by decide) (by decide) (by omega)).mono ?_
  rintro e w12 ⟨rfl, hOm, hb12⟩
  clear z0 z1
  have e12 := hb12.size
  have E12 : Below w.heap.size w w12 := E11.grown hb12 (by omega) (fun k e => by have := LOG.out _ e; omega)
  have OW_12 := Lib.hid (OW_11.out.kept hb12 (by (cases hu : (Value.slice pwa pwl pwc).ownBlock with | none => exact .inl rfl | some k => exact .inr fun e => by (have h1 := LOW.out _ hu; have h2 := LOG.out _ e.symm; omega))))
  have Y_12 := Lib.hid (Y_11.out.grown hb12 (fun e => by have := LOG.out _ e.symm; omega))
  have Z_12 := Lib.hid (Z_11.out.grown hb12 (fun e => by have := LOG.out _ e.symm; omega))
  clear hb12 E11 OW_11 Y_11 Z_11
  have OG_12 : Hid (Own w12 w4.heap.size (Value.slice pga pgl pgc) (markL 1 D.length)) := hOm
  clear hOm
  have hd0 : (0 : Int) ≤ 1 + (D.length : Int) := by omega
  have z0 := (Z_12.out).c0; have z1 := (Z_12.out).c1
  go_wp2_with fail
  clear z0 z1
  refine (heldGraph_any N (Value.slice pga pgl pgc) D.length 1 _ OG_12.out.sl (by decide) (by decide) (by omega)).mono ?_
  rintro e w13 ⟨rfl, hb13⟩
  have e13 := hb13.size
  have E13 : Below w.heap.size w w13 := E12.trans (hb13.mono (by omega))
  have OW_13 := Lib.hid (OW_12.out.below hb13)
  have Y_13 := Lib.hid (Y_12.out.below hb13)
  have Z_13 := Lib.hid (Z_12.out.below hb13)
  have OG_13 := Lib.hid (OG_12.out.below hb13)
  clear hb13 E12 OW_12 Y_12 Z_12 OG_12
  go_wp2_with fail
  refine (toInts_any _ zs1 w13 (SW1.out.below E13) hl20_1).mono ?_
  rintro e w14 ⟨rfl, hB14, hb14⟩
  have T1_14 := Lib.hid hB14; clear hB14
  have e14 := hb14.size
  have E14 : Below w.heap.size w w14 := E13.trans (hb14.mono (by omega))
  have OW_14 := Lib.hid (OW_13.out.below hb14)
  have Y_14 := Lib.hid (Y_13.out.below hb14)
  have Z_14 := Lib.hid (Z_13.out.below hb14)
  have OG_14 := Lib.hid (OG_13.out.below hb14)
  clear hb14 E13 OW_13 Y_13 Z_13 OG_13
  have lT1 : w13.heap.size < w14.heap.size := T1_14.out.lt
  have hcon := implCir_any x0 (.slice (some ⟨w13.heap.size, 0, none⟩) zs1.length zs1.length) zs1 w14 (T1_14.out.sl _) hl1
  go_wp2_with fail
  rw [← HD.out, ← HC.out, ← HN.out] at hcon
  refine hcon.mono ?_
  rintro e w15 ⟨⟨uph, rfl, hO15⟩, hb15⟩
  clear hcon
  obtain ⟨pha, phl, phc, rfl⟩ := own_slice hO15
  have OH_15 : Hid (Own w15 w14.heap.size (Value.slice pha phl phc) D) := hO15
  have LOH : Hid (∀ k, (Value.slice pha phl phc).ownBlock = some k → w14.heap.size ≤ k ∧ k < w15.heap.size) := fun k e => ⟨hO15.ge k e, hO15.lt k e⟩
  clear hO15
  have e15 := hb15.size
  have E15 : Below w.heap.size w w15 := E14.trans (hb15.mono (by omega))
  have OW_15 := Lib.hid (OW_14.out.below hb15)
  have Y_15 := Lib.hid (Y_14.out.below hb15)
  have Z_15 := Lib.hid (Z_14.out.below hb15)
  have OG_15 := Lib.hid (OG_14.out.below hb15)
  clear hb15 E14 OW_14 Y_14 Z_14 OG_14
  have y0 := (Box.alloc Y_15.out (.cells #[.int .i64 N, (Value.slice pha phl phc)] 35)).c0; have y1 := (Box.alloc Y_15.out (.cells #[.int .i64 N, (Value.slice pha phl phc)] 35)).c1
  go_wp2_with fail
  obtain ⟨w16, h16⟩ : ∃ w', w' = w15.alloc (.cells #[.int .i64 N, (Value.slice pha phl phc)] 35) := ⟨_, rfl⟩
  have V_16 : Hid (Box w16 w15.heap.size (.int .i64 N) (Value.slice pha phl phc) 35) := by rw [h16]; exact Box.new w15 _ _ _
  have hb16 : Below w15.heap.size w15 w16 := by rw [h16]; exact (Below.refl _ _).alloc (Nat.le_refl _) _
  rw [← h16]
  clear h16
  have e16 := hb16.size
  have E16 : Below w.heap.size w w16 := E15.trans (hb16.mono (by omega))
  have OW_16 := Lib.hid (OW_15.out.below hb16)
  have Y_16 := Lib.hid (Y_15.out.below hb16)
  have Z_16 := Lib.hid (Z_15.out.below hb16)
  have OG_16 := Lib.hid (OG_15.out.below hb16)
  have OH_16 := Lib.hid (OH_15.out.below hb16)
  clear hb16 E15 OW_15 Y_15 Z_15 OG_15 OH_15
  have lV : w15.heap.size < w16.heap.size := V_16.out.lt
  clear y0 y1
  refine (eqGraph_same N (Value.slice pha phl phc) (Value.slice pwa pwl pwc) D w16 OH_16.out.sl OW_16.out.sl (by omega)).mono ?_
  rintro e w17 ⟨rfl, hb17⟩
  have e17 := hb17.size
  have E17 : Below w.heap.size w w17 := E16.trans (hb17.mono (by omega))
  have OW_17 := Lib.hid (OW_16.out.below hb17)
  have Y_17 := Lib.hid (Y_16.out.below hb17)
  have Z_17 := Lib.hid (Z_16.out.below hb17)
  have OG_17 := Lib.hid (OG_16.out.below hb17)
  have OH_17 := Lib.hid (OH_16.out.below hb17)
  have V_17 := Lib.hid (V_16.out.below hb17)
  clear hb17 E16 OW_16 Y_16 Z_16 OG_16 OH_16 V_16
  have z0 := (Z_17.out).c0; have z1 := (Z_17.out).c1
  go_wp2_with fail
  clear z0 z1
  refine (heldGraph_any N (Value.slice pga pgl pgc) D.length 1 _ OG_17.out.sl (by decide) (by decide) (by omega)).mono ?_
  rintro e w18 ⟨rfl, hb18⟩
  have e18 := hb18.size
  have E18 : Below w.heap.size w w18 := E17.trans (hb18.mono (by omega))
  have OW_18 := Lib.hid (OW_17.out.below hb18)
  have Y_18 := Lib.hid (Y_17.out.below hb18)
  have Z_18 := Lib.hid (Z_17.out.below hb18)
  have OG_18 := Lib.hid (OG_17.out.below hb18)
  have OH_18 := Lib.hid (OH_17.out.below hb18)
  have V_18 := Lib.hid (V_17.out.below hb18)
  clear hb18 E17 OW_17 Y_17 Z_17 OG_17 OH_17 V_17
  go_wp2_with fail
  go_ret
  exact ⟨rfl, D0.trans (E18.mono D0.size)⟩
end Go.Proofs.Ytaekecccpgcgiaa.fnExactCirculantGraph
