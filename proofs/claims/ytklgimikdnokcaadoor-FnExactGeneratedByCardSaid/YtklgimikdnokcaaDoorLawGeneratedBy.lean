/-
  laws.FnExactGeneratedBy: the walk: for every argument that comes in the law returns true and leaves what was there.
-/
import Derived.Test.YtklgimikdnokcaaDoorTb
import Derived.Test.YtklgimikdnokcaaDoorNk
import Derived.Test.YtklgimikdnokcaaDoorTo
import Derived.Deep.RegionHeld3
import Derived.Deep.DeepCutAuto
namespace Go.Proofs.YtklgimikdnokcaaDoor.fnExactGeneratedBy
set_option maxRecDepth 100000
open Go.RowKit

theorem below_drew {B B' : Nat} {w w' : World} (h : Below B' w.drew w') (hB : B ≤ B') : Below B w w' := ((Below.refl B w).drew).trans (h.mono hB)
theorem kept_block {w w' : World} (h : Below w.heap.size w w') {k : Nat} {x : Obj} (hx : w.heap[k]? = some x) : w'.heap[k]? = some x := (h.block k (Array.getElem?_eq_some_iff.1 hx).1).trans hx

/-- Block k holds a pair. -/
def Box (w : World) (k : Nat) (x y : Value) (t : TypeId) : Prop := w.heap[k]? = some (.cells #[x, y] t (0, 0))
theorem Box.lt {w : World} {k : Nat} {x y : Value} {t : TypeId} (h : Box w k x y t) : k < w.heap.size := (Array.getElem?_eq_some_iff.1 h).1
theorem Box.new (w : World) (x y : Value) (t : TypeId) : Box (w.alloc (.cells #[x, y] t)) w.heap.size x y t := World.alloc_heap_new w _
theorem Box.below {w w' : World} {k : Nat} {x y : Value} {t : TypeId} (h : Box w k x y t) (hb : Below w.heap.size w w') : Box w' k x y t := (hb.block k h.lt).trans h
theorem Box.from {B : Nat} {w w' : World} {k : Nat} {x y : Value} {t : TypeId} (h : Box w k x y t) (hb : Below B w w') (hk : k < B) : Box w' k x y t := (hb.block k hk).trans h
theorem Box.alloc {w : World} {k : Nat} {x y : Value} {t : TypeId} (h : Box w k x y t) (o : Obj) : Box (w.alloc o) k x y t := h.below ((Below.refl _ _).alloc (Nat.le_refl _) o)
theorem Box.grown {w w' : World} {k : Nat} {x y : Value} {t : TypeId} {row : Option Nat} (h : Box w k x y t) (hg : w.grownBy w' row) (hne : some k ≠ row) : Box w' k x y t := (hg.block k h.lt hne).trans h
theorem Box.c0 {w : World} {k : Nat} {x y : Value} {t : TypeId} (h : Box w k x y t) : w.cell? ⟨k, 0, none⟩ = some x := (two_cells h).1
theorem Box.c1 {w : World} {k : Nat} {x y : Value} {t : TypeId} (h : Box w k x y t) : w.cell? ⟨k, 1, none⟩ = some y := (two_cells h).2.1
theorem blk_grown {w w' : World} {g : Nat} {zs : List Int} {row : Option Nat} (h : Blk w g zs) (hg : w.grownBy w' row) (hne : some g ≠ row) : Blk w' g zs := (hg.block g h.lt hne).trans h
theorem toG_any (a b : Int) (w : World) : Calls Tryd.prog 10 #[.agg #[.int .i64 a, .int .i64 b]] w fun e w1 => e = .returned (.agg #[.int .i64 a, .int .i64 b]) ∧ Below w.heap.size w w1 := toGroup_any a b w
theorem eqInts_same (v1 v2 : Value) (xs : List Int) (w : World) (h1 : Sl w v1 xs) (h2 : Sl w v2 xs) (hx : xs.length ≤ 9223372036854775807) :
    Calls Tryd.prog 13 #[v1, v2] w fun e w' => e = .returned (.bool true) ∧ Below w.heap.size w w' := by
  have := eqInts_any v1 v2 xs xs w h1 h2 hx
  simpa using this

theorem own_slice {w : World} {B : Nat} {u : Value} {L : List Int} (h : Own w B u L) : ∃ a l c, u = .slice a l c := by
  rcases h.form with ⟨rfl, _⟩ | ⟨g, cap, rfl, _⟩
  · exact ⟨_, _, _, rfl⟩
  · exact ⟨_, _, _, rfl⟩

theorem fin_alloc {w q : World} {B : Nat} {N : Int} {u : Value} {D : List Int} (hO : Own q B u D) (hc : w.heap.size ≤ B) (hB : Below w.heap.size w q) :
    Box (q.alloc (.cells #[.int .i64 N, u] 36)) q.heap.size (.int .i64 N) u 36 ∧ Own (q.alloc (.cells #[.int .i64 N, u] 36)) w.heap.size u D ∧ Below w.heap.size w (q.alloc (.cells #[.int .i64 N, u] 36)) ∧ w.heap.size ≤ q.heap.size ∧ u.ownBlock ≠ some q.heap.size :=
  ⟨Box.new q _ _ _, (hO.base hc).below ((Below.refl _ _).alloc (Nat.le_refl _) _), hB.alloc hB.size _, hB.size, fun e => by have := hO.lt _ e; omega⟩
theorem fin_set {w q : World} {b B : Nat} {N : Int} {u : Value} {D : List Int} (hO : Own q B u D) (hc : w.heap.size ≤ B) (hb : b < B) (hw : w.heap.size ≤ b) (RB : q.heap[b]? = some (.cells #[.int .i64 0, .slice none 0 0] 36 (0, 0))) (hB : Below w.heap.size w q) :
    Box ((q.setCell ⟨b, 0, none⟩ (.int .i64 N)).setCell ⟨b, 1, none⟩ u) b (.int .i64 N) u 36 ∧ Own ((q.setCell ⟨b, 0, none⟩ (.int .i64 N)).setCell ⟨b, 1, none⟩ u) w.heap.size u D ∧ Below w.heap.size w ((q.setCell ⟨b, 0, none⟩ (.int .i64 N)).setCell ⟨b, 1, none⟩ u) ∧ w.heap.size ≤ b ∧ u.ownBlock ≠ some b := by
  have hne : u.ownBlock ≠ some b := fun e => by have := hO.ge _ e; omega
  exact ⟨two_set RB, (hO.base hc).kept (grown_set (grown_set ⟨rfl, rfl, rfl, Nat.le_refl _, fun _ _ _ => rfl⟩ b 0 _) b 1 _) (.inr hne), (hB.setCell (p := ⟨b, 0, none⟩) hw _).setCell (p := ⟨b, 1, none⟩) hw _, hw, hne⟩

set_option maxHeartbeats 6400000 in
set_option maxRecDepth 100000 in
theorem law (b0 c0 : Int) (v1 : Value) (zs1 : List Int) (w : World) (hs1 : Sl w v1 zs1) (hl1 : zs1.length ≤ 9223372036854775807) (hT : Tab w) :
    Calls Tryd.prog 7 #[.agg #[.int .i64 b0, .int .i64 c0], v1] w fun e w' => e = .returned (.bool true) ∧ Below w.heap.size w w' := by
  obtain ⟨pa1, pc1, rfl⟩ : ∃ a c, v1 = .slice a zs1.length c := ⟨_, _, slForm hs1⟩
  have HS1 := Lib.hid hs1; clear hs1
  have HT := Lib.hid hT; clear hT
  obtain ⟨W, hW⟩ : ∃ W, W = (w.alloc (.cells #[.int .i64 b0, .int .i64 c0] 23)) := ⟨_, rfl⟩
  have D0 : Below w.heap.size w W := by rw [hW]; exact ((Below.refl _ _).alloc (Nat.le_refl _) _)
  have hsz : w.heap.size + 1 ≤ W.heap.size := by rw [hW]; simp
  have A0_0 : Hid (Box W (w.heap.size) (.int .i64 b0) (.int .i64 c0) 23) := by rw [hW]; exact heap_new_at w (.cells #[.int .i64 b0, .int .i64 c0] 23) (w.heap.size) (by simp)
  have SW1 := Lib.hid (HS1.out.below D0)
  have TW := Lib.hid (HT.out.belowAll D0)
  by_cases hbig1 : (1048576 : Int) < zs1.length
  · go_enter Tryd.func7, Tryd.ntmps7
    go_wp2_with fail
    go_ret
    exact ⟨rfl, by rw [← hW]; exact D0⟩
  have hl20_1 : zs1.length ≤ 1048576 := by omega
  obtain ⟨D, hd⟩ : ∃ d, d = gnL b0 c0 zs1 := ⟨_, rfl⟩
  obtain ⟨c, hc⟩ : ∃ c, c = clC b0 c0 zs1 := ⟨_, rfl⟩
  have hD20 : D.length ≤ 1048576 := by rw [hd]; exact Nat.le_trans (gnL_length _ _ _) (by decide)
  have HD := Lib.hid hd; have HC := Lib.hid hc
  clear  hd hc
  have hbg1 : ¬ (1048576 : Int) < zs1.length := hbig1; clear hbig1
  go_enter Tryd.func7, Tryd.ntmps7
  have a00 := A0_0.out.c0; have a01 := A0_0.out.c1
  rw [hW] at a00 a01
  go_wp2_with fail
  rw [← hW]
  clear hW
  clear a00 a01
  have E0 : Below W.heap.size W W := Below.refl _ _
  refine (toG_any b0 c0 W).mono ?_
  rintro e w1 ⟨rfl, hb1⟩
  have e1 := hb1.size
  have E1 : Below W.heap.size W w1 := E0.trans (hb1.mono (by omega))
  clear hb1 E0 
  have a00 := (A0_0.out.from E1 (by omega)).c0; have a01 := (A0_0.out.from E1 (by omega)).c1
  go_wp2_with fail
  refine (toInts_any _ zs1 w1 (SW1.out.below E1) hl20_1).mono ?_
  rintro e w2 ⟨rfl, hB2, hb2⟩
  have T1_2 := Lib.hid hB2; clear hB2
  have e2 := hb2.size
  have E2 : Below W.heap.size W w2 := E1.trans (hb2.mono (by omega))
  clear hb2 E1 
  have lT1 : w1.heap.size < w2.heap.size := T1_2.out.lt
  clear a00 a01
  have a00 := (A0_0.out.from E2 (by omega)).c0; have a01 := (A0_0.out.from E2 (by omega)).c1
  have hcon := specGen_any b0 c0 (.slice (some ⟨w1.heap.size, 0, none⟩) zs1.length zs1.length) zs1 w2 (T1_2.out.sl _) hl1
  go_wp2_with fail
  clear a00 a01
  rw [← HD.out, ← HC.out] at hcon
  refine hcon.mono ?_
  rintro e w3 ⟨⟨upw, rfl, hO3⟩, hb3⟩
  clear hcon
  obtain ⟨pwa, pwl, pwc, rfl⟩ := own_slice hO3
  have OW_3 : Hid (Own w3 w2.heap.size (Value.slice pwa pwl pwc) D) := hO3
  have LOW : Hid (∀ k, (Value.slice pwa pwl pwc).ownBlock = some k → w2.heap.size ≤ k ∧ k < w3.heap.size) := fun k e => ⟨hO3.ge k e, hO3.lt k e⟩
  clear hO3
  have e3 := hb3.size
  have E3 : Below W.heap.size W w3 := E2.trans (hb3.mono (by omega))
  clear hb3 E2 
  have a00 := (A0_0.out.from E3 (by omega)).c0; have a01 := (A0_0.out.from E3 (by omega)).c1
  go_wp2_with fail
  clear a00 a01
  refine (toInts_any _ zs1 w3 (SW1.out.below E3) hl20_1).mono ?_
  rintro e w4 ⟨rfl, hB4, hb4⟩
  have HB1_4 := Lib.hid hB4; clear hB4
  have e4 := hb4.size
  have E4 : Below W.heap.size W w4 := E3.trans (hb4.mono (by omega))
  have OW_4 := Lib.hid (OW_3.out.below hb4)
  clear hb4 E3 OW_3
  have lHB1 : w3.heap.size < w4.heap.size := HB1_4.out.lt
  have a00 := (A0_0.out.from E4 (by omega)).c0; have a01 := (A0_0.out.from E4 (by omega)).c1
  go_wp2_with fail
  clear a00 a01
  refine (toG_any b0 c0 w4).mono ?_
  rintro e w5 ⟨rfl, hb5⟩
  have e5 := hb5.size
  have E5 : Below W.heap.size W w5 := E4.trans (hb5.mono (by omega))
  have OW_5 := Lib.hid (OW_4.out.below hb5)
  have HB1_5 := Lib.hid (HB1_4.out.belowAll hb5)
  clear hb5 E4 OW_4 HB1_4
  go_wp2_with fail
  have hcon := implGen_any b0 c0 (.slice (some ⟨w3.heap.size, 0, none⟩) zs1.length zs1.length) zs1 w5 (HB1_5.out.sl _) hl1 (TW.out.below E5 TW.out.lt)
  rw [← HD.out, ← HC.out] at hcon
  refine hcon.mono ?_
  rintro e w6 ⟨⟨upg, rfl, hO6⟩, hb6⟩
  clear hcon
  obtain ⟨pga, pgl, pgc, rfl⟩ := own_slice hO6
  have OG_6 : Hid (Own w6 w5.heap.size (Value.slice pga pgl pgc) D) := hO6
  have LOG : Hid (∀ k, (Value.slice pga pgl pgc).ownBlock = some k → w5.heap.size ≤ k ∧ k < w6.heap.size) := fun k e => ⟨hO6.ge k e, hO6.lt k e⟩
  clear hO6
  have e6 := hb6.size
  have E6 : Below W.heap.size W w6 := E5.trans (hb6.mono (by omega))
  have OW_6 := Lib.hid (OW_5.out.below hb6)
  have HB1_6 := Lib.hid (HB1_5.out.belowAll hb6)
  clear hb6 E5 OW_5 HB1_5
  go_wp2_with fail
  refine (eqInts_same (Value.slice pga pgl pgc) (Value.slice pwa pwl pwc) D w6 OG_6.out.sl OW_6.out.sl (by omega)).mono ?_
  rintro e w7 ⟨rfl, hb7⟩
  have e7 := hb7.size
  have E7 : Below W.heap.size W w7 := E6.trans (hb7.mono (by omega))
  have OW_7 := Lib.hid (OW_6.out.below hb7)
  have HB1_7 := Lib.hid (HB1_6.out.belowAll hb7)
  have OG_7 := Lib.hid (OG_6.out.below hb7)
  clear hb7 E6 OW_6 HB1_6 OG_6
  go_wp2_with fail
  refine (toInts_any _ zs1 w7 (SW1.out.below E7) hl20_1).mono ?_
  rintro e w8 ⟨rfl, hB8, hb8⟩
  have C1_8 := Lib.hid hB8; clear hB8
  have e8 := hb8.size
  have E8 : Below W.heap.size W w8 := E7.trans (hb8.mono (by omega))
  have OW_8 := Lib.hid (OW_7.out.below hb8)
  have HB1_8 := Lib.hid (HB1_7.out.belowAll hb8)
  have OG_8 := Lib.hid (OG_7.out.below hb8)
  clear hb8 E7 OW_7 HB1_7 OG_7
  have lC1 : w7.heap.size < w8.heap.size := C1_8.out.lt
  go_wp2_with fail
  refine (eqInts_same _ _ zs1 w8 (HB1_8.out.sl _) (C1_8.out.sl _) hl1).mono ?_
  rintro e w9 ⟨rfl, hb9⟩
  have e9 := hb9.size
  have E9 : Below W.heap.size W w9 := E8.trans (hb9.mono (by omega))
  have OW_9 := Lib.hid (OW_8.out.below hb9)
  have HB1_9 := Lib.hid (HB1_8.out.belowAll hb9)
  have OG_9 := Lib.hid (OG_8.out.below hb9)
  clear hb9 E8 OW_8 HB1_8 OG_8
  have hk1 : (0 : Int) ≤ 1 := by omega
  go_wp2_with fail
  refine (markInts_any (.slice (some ⟨w3.heap.size, 0, none⟩) zs1.length zs1.length) (w3.heap.size) zs1 (1) w9 (Own.of_blk HB1_9.out (Nat.le_refl _) (by unfold maxLen; omega)) (by omega) (by omega) (by omega)).mono ?_
  rintro e w10 ⟨rfl, -, hg, -⟩
  have hb10 : w9.grownBy w10 (some (w3.heap.size)) := hg
  clear hg
  have e10 := hb10.size
  have E10 : Below W.heap.size W w10 := E9.grown hb10 (by omega) (fun k e => by cases e; omega)
  have OW_10 := Lib.hid (OW_9.out.kept hb10 (by (cases hu : (Value.slice pwa pwl pwc).ownBlock with | none => exact .inl rfl | some k => exact .inr fun e => by (cases e; have := LOW.out _ hu; omega))))
  have OG_10 := Lib.hid (OG_9.out.kept hb10 (by (cases hu : (Value.slice pga pgl pgc).ownBlock with | none => exact .inl rfl | some k => exact .inr fun e => by (cases e; have := LOG.out _ hu; omega))))
  clear hb10 E9 OW_9 OG_9
  have hkk : (0 : Int) ≤ 1 + (zs1.length : Int) := by omega
  go_wp2_with fail
  refine (eqInts_same (Value.slice pga pgl pgc) (Value.slice pwa pwl pwc) D w10 OG_10.out.sl OW_10.out.sl (by omega)).mono ?_
  rintro e w11 ⟨rfl, hb11⟩
  have e11 := hb11.size
  have E11 : Below W.heap.size W w11 := E10.trans (hb11.mono (by omega))
  have OW_11 := Lib.hid (OW_10.out.below hb11)
  have OG_11 := Lib.hid (OG_10.out.below hb11)
  clear hb11 E10 OW_10 OG_10
  go_wp2_with fail
  refine (markInts_any (Value.slice pga pgl pgc) w5.heap.size D 1 w11 OG_11.out (by decide) (by decide) (by omega)).mono ?_
  rintro e w12 ⟨rfl, hOm, hb12, -⟩
  have e12 := hb12.size
  have E12 : Below W.heap.size W w12 := E11.grown hb12 (by omega) (fun k e => by have := LOG.out _ e; omega)
  have OW_12 := Lib.hid (OW_11.out.kept hb12 (by (cases hu : (Value.slice pwa pwl pwc).ownBlock with | none => exact .inl rfl | some k => exact .inr fun e => by (have h1 := LOW.out _ hu; have h2 := LOG.out _ e.symm; omega))))
  clear hb12 E11 OW_11
  have OG_12 : Hid (Own w12 w5.heap.size (Value.slice pga pgl pgc) (markL 1 D.length)) := hOm
  clear hOm
  have hd0 : (0 : Int) ≤ 1 + (D.length : Int) := by omega
  go_wp2_with fail
  refine (heldInts_any (Value.slice pga pgl pgc) D.length 1 _ OG_12.out.sl (by decide) (by decide) (by omega)).mono ?_
  rintro e w13 ⟨rfl, rfl⟩
  have a00 := (A0_0.out.from E12 (by omega)).c0; have a01 := (A0_0.out.from E12 (by omega)).c1
  go_wp2_with fail
  refine (toG_any b0 c0 w12).mono ?_
  rintro e w13 ⟨rfl, hb13⟩
  have e13 := hb13.size
  have E13 : Below W.heap.size W w13 := E12.trans (hb13.mono (by omega))
  have OW_13 := Lib.hid (OW_12.out.below hb13)
  have OG_13 := Lib.hid (OG_12.out.below hb13)
  clear hb13 E12 OW_12 OG_12
  clear a00 a01
  have a00 := (A0_0.out.from E13 (by omega)).c0; have a01 := (A0_0.out.from E13 (by omega)).c1
  go_wp2_with fail
  refine (toInts_any _ zs1 w13 (SW1.out.below E13) hl20_1).mono ?_
  rintro e w14 ⟨rfl, hB14, hb14⟩
  have T1_14 := Lib.hid hB14; clear hB14
  have e14 := hb14.size
  have E14 : Below W.heap.size W w14 := E13.trans (hb14.mono (by omega))
  have OW_14 := Lib.hid (OW_13.out.below hb14)
  have OG_14 := Lib.hid (OG_13.out.below hb14)
  clear hb14 E13 OW_13 OG_13
  have lT1 : w13.heap.size < w14.heap.size := T1_14.out.lt
  clear a00 a01
  have a00 := (A0_0.out.from E14 (by omega)).c0; have a01 := (A0_0.out.from E14 (by omega)).c1
  have hcon := implGen_any b0 c0 (.slice (some ⟨w13.heap.size, 0, none⟩) zs1.length zs1.length) zs1 w14 (T1_14.out.sl _) hl1 (TW.out.below E14 TW.out.lt)
  go_wp2_with fail
  clear a00 a01
  rw [← HD.out, ← HC.out] at hcon
  refine hcon.mono ?_
  rintro e w15 ⟨⟨uph, rfl, hO15⟩, hb15⟩
  clear hcon
  obtain ⟨pha, phl, phc, rfl⟩ := own_slice hO15
  have OH_15 : Hid (Own w15 w14.heap.size (Value.slice pha phl phc) D) := hO15
  have LOH : Hid (∀ k, (Value.slice pha phl phc).ownBlock = some k → w14.heap.size ≤ k ∧ k < w15.heap.size) := fun k e => ⟨hO15.ge k e, hO15.lt k e⟩
  clear hO15
  have e15 := hb15.size
  have E15 : Below W.heap.size W w15 := E14.trans (hb15.mono (by omega))
  have OW_15 := Lib.hid (OW_14.out.below hb15)
  have OG_15 := Lib.hid (OG_14.out.below hb15)
  clear hb15 E14 OW_14 OG_14
  go_wp2_with fail
  refine (eqInts_same (Value.slice pha phl phc) (Value.slice pwa pwl pwc) D w15 OH_15.out.sl OW_15.out.sl (by omega)).mono ?_
  rintro e w16 ⟨rfl, hb16⟩
  have e16 := hb16.size
  have E16 : Below W.heap.size W w16 := E15.trans (hb16.mono (by omega))
  have OW_16 := Lib.hid (OW_15.out.below hb16)
  have OG_16 := Lib.hid (OG_15.out.below hb16)
  have OH_16 := Lib.hid (OH_15.out.below hb16)
  clear hb16 E15 OW_15 OG_15 OH_15
  go_wp2_with fail
  refine (heldInts_any (Value.slice pga pgl pgc) D.length 1 _ OG_16.out.sl (by decide) (by decide) (by omega)).mono ?_
  rintro e w17 ⟨rfl, rfl⟩
  go_wp2_with fail
  go_ret
  exact ⟨rfl, D0.trans (E16.mono D0.size)⟩
end Go.Proofs.YtklgimikdnokcaaDoor.fnExactGeneratedBy
