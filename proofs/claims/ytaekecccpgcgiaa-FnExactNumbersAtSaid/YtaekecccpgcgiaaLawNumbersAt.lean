/-
  laws.FnExactNumbersAt: the walk: for every argument that comes in the law returns true and leaves what was there.
-/
import Derived.Test.YtaekecccpgcgiaaPg
import Derived.Test.YtaekecccpgcgiaaNd6
import Derived.Test.YtaekecccpgcgiaaTo
import Derived.Deep.RegionHeld3
import Derived.Deep.DeepCutAuto
namespace Go.Proofs.Ytaekecccpgcgiaa.fnExactNumbersAt
open Go.RowKit

theorem below_drew {B B' : Nat} {w w' : World} (h : Below B' w.drew w') (hB : B ≤ B') : Below B w w' := ((Below.refl B w).drew).trans (h.mono hB)
theorem kept_block {w w' : World} (h : Below w.heap.size w w') {k : Nat} {x : Obj} (hx : w.heap[k]? = some x) : w'.heap[k]? = some x := (h.block k (Array.getElem?_eq_some_iff.1 hx).1).trans hx

/-- Block k holds a pair. -/
def Box (w : World) (k : Nat) (x y : Value) (t : TypeId) : Prop := w.heap[k]? = some (.cells #[x, y] t (0, 0))
theorem Box.lt {w : World} {k : Nat} {x y : Value} {t : TypeId} (h : Box w k x y t) : k < w.heap.size := (Array.getElem?_eq_some_iff.1 h).1
theorem Box.new (w : World) (x y : Value) (t : TypeId) : Box (w.alloc (.cells #[x, y] t)) w.heap.size x y t := World.alloc_heap_new w _
theorem Box.below {w w' : World} {k : Nat} {x y : Value} {t : TypeId} (h : Box w k x y t) (hb : Below w.heap.size w w') : Box w' k x y t := (hb.block k h.lt).trans h
theorem Box.from {B : Nat} {w w' : World} {k : Nat} {x y : Value} {t : TypeId} (h : Box w k x y t) (hb : Below B w w') (hk : k < B) : Box w' k x y t := (hb.block k hk).trans h
theorem Box.alloc {w : World} {k : Nat} {x y : Value} {t : TypeId} (h : Box w k x y t) (o : Obj) : Box (w.alloc o) k x y t := h.below ((Below.refl _ _).alloc (Nat.le_refl _) o)
theorem Box.grown {w w' : World} {k : Nat} {x y : Value} {t : TypeId} {row : Option Nat} (h : Box w k x y t) (hg : w.grownBy w' row) (hne : some k ≠ row) : Box w' k x y t := (hg.block k h.lt hne).trans h
theorem Box.c0 {w : World} {k : Nat} {x y : Value} {t : TypeId} (h : Box w k x y t) : w.cell? ⟨k, 0, none⟩ = some x := (two_cells h).1
theorem Box.c1 {w : World} {k : Nat} {x y : Value} {t : TypeId} (h : Box w k x y t) : w.cell? ⟨k, 1, none⟩ = some y := (two_cells h).2.1
theorem blk_grown {w w' : World} {g : Nat} {zs : List Int} {row : Option Nat} (h : Blk w g zs) (hg : w.grownBy w' row) (hne : some g ≠ row) : Blk w' g zs := (hg.block g h.lt hne).trans h
theorem eqInts_same (v1 v2 : Value) (xs : List Int) (w : World) (h1 : Sl w v1 xs) (h2 : Sl w v2 xs) (hx : xs.length ≤ 9223372036854775807) :
    Calls Try.prog 13 #[v1, v2] w fun e w' => e = .returned (.bool true) ∧ Below w.heap.size w w' := by
  have := eqInts_any v1 v2 xs xs w h1 h2 hx
  simpa using this

theorem own_slice {w : World} {B : Nat} {u : Value} {L : List Int} (h : Own w B u L) : ∃ a l c, u = .slice a l c := by
  rcases h.form with ⟨rfl, _⟩ | ⟨g, cap, rfl, _⟩
  · exact ⟨_, _, _, rfl⟩
  · exact ⟨_, _, _, rfl⟩

theorem fin_alloc {w q : World} {B : Nat} {N : Int} {u : Value} {D : List Int} (hO : Own q B u D) (hc : w.heap.size ≤ B) (hB : Below w.heap.size w q) :
    Box (q.alloc (.cells #[.int .i64 N, u] 35)) q.heap.size (.int .i64 N) u 35 ∧ Own (q.alloc (.cells #[.int .i64 N, u] 35)) w.heap.size u D ∧ Below w.heap.size w (q.alloc (.cells #[.int .i64 N, u] 35)) ∧ w.heap.size ≤ q.heap.size ∧ u.ownBlock ≠ some q.heap.size :=
  ⟨Box.new q _ _ _, (hO.base hc).below ((Below.refl _ _).alloc (Nat.le_refl _) _), hB.alloc hB.size _, hB.size, fun e => by have := hO.lt _ e; omega⟩
theorem fin_set {w q : World} {b B : Nat} {N : Int} {u : Value} {D : List Int} (hO : Own q B u D) (hc : w.heap.size ≤ B) (hb : b < B) (hw : w.heap.size ≤ b) (RB : q.heap[b]? = some (.cells #[.int .i64 0, .slice none 0 0] 35 (0, 0))) (hB : Below w.heap.size w q) :
    Box ((q.setCell ⟨b, 0, none⟩ (.int .i64 N)).setCell ⟨b, 1, none⟩ u) b (.int .i64 N) u 35 ∧ Own ((q.setCell ⟨b, 0, none⟩ (.int .i64 N)).setCell ⟨b, 1, none⟩ u) w.heap.size u D ∧ Below w.heap.size w ((q.setCell ⟨b, 0, none⟩ (.int .i64 N)).setCell ⟨b, 1, none⟩ u) ∧ w.heap.size ≤ b ∧ u.ownBlock ≠ some b := by
  have hne : u.ownBlock ≠ some b := fun e => by have := hO.ge _ e; omega
  exact ⟨two_set RB, (hO.base hc).kept (grown_set (grown_set ⟨rfl, rfl, rfl, Nat.le_refl _, fun _ _ _ => rfl⟩ b 0 _) b 1 _) (.inr hne), (hB.setCell (p := ⟨b, 0, none⟩) hw _).setCell (p := ⟨b, 1, none⟩) hw _, hw, hne⟩

set_option maxHeartbeats 6400000 in
set_option maxRecDepth 100000 in
theorem law (v0 : Value) (zs0 : List Int) (v1 : Value) (zs1 : List Int) (w : World) (hs0 : Sl w v0 zs0) (hl0 : zs0.length ≤ 9223372036854775807) (hs1 : Sl w v1 zs1) (hl1 : zs1.length ≤ 9223372036854775807) :
    Calls Try.prog 5 #[v0, v1] w fun e w' => e = .returned (.bool true) ∧ Below w.heap.size w w' := by
  obtain ⟨pa0, pc0, rfl⟩ : ∃ a c, v0 = .slice a zs0.length c := ⟨_, _, slForm hs0⟩
  obtain ⟨pa1, pc1, rfl⟩ : ∃ a c, v1 = .slice a zs1.length c := ⟨_, _, slForm hs1⟩
  have HS0 := Lib.hid hs0; clear hs0
  have HS1 := Lib.hid hs1; clear hs1
  have D0 : Below w.heap.size w w := Below.refl _ _
  have E0 : Below w.heap.size w w := Below.refl _ _
  have SW0 := Lib.hid (HS0.out.below D0)
  have SW1 := Lib.hid (HS1.out.below D0)
  by_cases hbig0 : (1048576 : Int) < zs0.length
  · go_enter Try.func5, Try.ntmps5
    go_wp2_with fail
    go_ret
    exact ⟨rfl, D0⟩
  have hl20_0 : zs0.length ≤ 1048576 := by omega
  by_cases hbig1 : (1048576 : Int) < zs1.length
  · go_enter Try.func5, Try.ntmps5
    go_wp2_with fail
    go_ret
    exact ⟨rfl, D0⟩
  have hl20_1 : zs1.length ≤ 1048576 := by omega
  obtain ⟨D, hd⟩ : ∃ d, d = NmL zs0 zs1 := ⟨_, rfl⟩
  obtain ⟨c, hc⟩ : ∃ c, c = NmC zs0 zs1 := ⟨_, rfl⟩
  have hD20 : D.length ≤ 1048576 := by rw [hd]; exact Nat.le_trans (NmL_length _ _) (by decide)
  have HD := Lib.hid hd; have HC := Lib.hid hc
  clear  hd hc
  have hbg0 : ¬ (1048576 : Int) < zs0.length := hbig0; clear hbig0
  have hbg1 : ¬ (1048576 : Int) < zs1.length := hbig1; clear hbig1
  go_enter Try.func5, Try.ntmps5
  go_wp2_with fail
  go_wp2_with fail
  refine (toInts_any _ zs0 w (SW0.out.below E0) hl20_0).mono ?_
  rintro e w1 ⟨rfl, hB1, hb1⟩
  have T0_1 := Lib.hid hB1; clear hB1
  have e1 := hb1.size
  have E1 : Below w.heap.size w w1 := E0.trans (hb1.mono (by omega))
  clear hb1 E0 
  have lT0 : w.heap.size < w1.heap.size := T0_1.out.lt
  go_wp2_with fail
  refine (toInts_any _ zs1 w1 (SW1.out.below E1) hl20_1).mono ?_
  rintro e w2 ⟨rfl, hB2, hb2⟩
  have T1_2 := Lib.hid hB2; clear hB2
  have e2 := hb2.size
  have E2 : Below w.heap.size w w2 := E1.trans (hb2.mono (by omega))
  have T0_2 := Lib.hid (T0_1.out.belowAll hb2)
  clear hb2 E1 T0_1
  have lT1 : w1.heap.size < w2.heap.size := T1_2.out.lt
  have hcon := specNm_any (.slice (some ⟨w.heap.size, 0, none⟩) zs0.length zs0.length) (.slice (some ⟨w1.heap.size, 0, none⟩) zs1.length zs1.length) zs0 zs1 w2 (T0_2.out.sl _) (T1_2.out.sl _)
  go_wp2_with fail
  rw [← HD.out, ← HC.out] at hcon
  refine hcon.mono ?_
  rintro e w3 ⟨⟨upw, rfl, hO3⟩, hb3⟩
  clear hcon
  obtain ⟨pwa, pwl, pwc, rfl⟩ := own_slice hO3
  have OW_3 : Hid (Own w3 w2.heap.size (Value.slice pwa pwl pwc) D) := hO3
  have LOW : Hid (∀ k, (Value.slice pwa pwl pwc).ownBlock = some k → w2.heap.size ≤ k ∧ k < w3.heap.size) := fun k e => ⟨hO3.ge k e, hO3.lt k e⟩
  clear hO3
  have e3 := hb3.size
  have E3 : Below w.heap.size w w3 := E2.trans (hb3.mono (by omega))
  clear hb3 E2 
  go_wp2_with fail
  refine (toInts_any _ zs0 w3 (SW0.out.below E3) hl20_0).mono ?_
  rintro e w4 ⟨rfl, hB4, hb4⟩
  have HB0_4 := Lib.hid hB4; clear hB4
  have e4 := hb4.size
  have E4 : Below w.heap.size w w4 := E3.trans (hb4.mono (by omega))
  have OW_4 := Lib.hid (OW_3.out.below hb4)
  clear hb4 E3 OW_3
  have lHB0 : w3.heap.size < w4.heap.size := HB0_4.out.lt
  go_wp2_with fail
  refine (toInts_any _ zs1 w4 (SW1.out.below E4) hl20_1).mono ?_
  rintro e w5 ⟨rfl, hB5, hb5⟩
  have HB1_5 := Lib.hid hB5; clear hB5
  have e5 := hb5.size
  have E5 : Below w.heap.size w w5 := E4.trans (hb5.mono (by omega))
  have OW_5 := Lib.hid (OW_4.out.below hb5)
  have HB0_5 := Lib.hid (HB0_4.out.belowAll hb5)
  clear hb5 E4 OW_4 HB0_4
  have lHB1 : w4.heap.size < w5.heap.size := HB1_5.out.lt
  go_wp2_with fail
  have hcon := implNm_any (.slice (some ⟨w3.heap.size, 0, none⟩) zs0.length zs0.length) (.slice (some ⟨w4.heap.size, 0, none⟩) zs1.length zs1.length) zs0 zs1 w5 (HB0_5.out.sl _) (HB1_5.out.sl _) hl0 hl1
  rw [← HD.out, ← HC.out] at hcon
  refine hcon.mono ?_
  rintro e w6 ⟨⟨upg, rfl, hO6⟩, hb6⟩
  clear hcon
  obtain ⟨pga, pgl, pgc, rfl⟩ := own_slice hO6
  have OG_6 : Hid (Own w6 w5.heap.size (Value.slice pga pgl pgc) D) := hO6
  have LOG : Hid (∀ k, (Value.slice pga pgl pgc).ownBlock = some k → w5.heap.size ≤ k ∧ k < w6.heap.size) := fun k e => ⟨hO6.ge k e, hO6.lt k e⟩
  clear hO6
  have e6 := hb6.size
  have E6 : Below w.heap.size w w6 := E5.trans (hb6.mono (by omega))
  have OW_6 := Lib.hid (OW_5.out.below hb6)
  have HB0_6 := Lib.hid (HB0_5.out.belowAll hb6)
  have HB1_6 := Lib.hid (HB1_5.out.belowAll hb6)
  clear hb6 E5 OW_5 HB0_5 HB1_5
  go_wp2_with fail
  refine (eqInts_same (Value.slice pga pgl pgc) (Value.slice pwa pwl pwc) D w6 OG_6.out.sl OW_6.out.sl (by omega)).mono ?_
  rintro e w7 ⟨rfl, hb7⟩
  have e7 := hb7.size
  have E7 : Below w.heap.size w w7 := E6.trans (hb7.mono (by omega))
  have OW_7 := Lib.hid (OW_6.out.below hb7)
  have HB0_7 := Lib.hid (HB0_6.out.belowAll hb7)
  have HB1_7 := Lib.hid (HB1_6.out.belowAll hb7)
  have OG_7 := Lib.hid (OG_6.out.below hb7)
  clear hb7 E6 OW_6 HB0_6 HB1_6 OG_6
  go_wp2_with fail
  refine (toInts_any _ zs0 w7 (SW0.out.below E7) hl20_0).mono ?_
  rintro e w8 ⟨rfl, hB8, hb8⟩
  have C0_8 := Lib.hid hB8; clear hB8
  have e8 := hb8.size
  have E8 : Below w.heap.size w w8 := E7.trans (hb8.mono (by omega))
  have OW_8 := Lib.hid (OW_7.out.below hb8)
  have HB0_8 := Lib.hid (HB0_7.out.belowAll hb8)
  have HB1_8 := Lib.hid (HB1_7.out.belowAll hb8)
  have OG_8 := Lib.hid (OG_7.out.below hb8)
  clear hb8 E7 OW_7 HB0_7 HB1_7 OG_7
  have lC0 : w7.heap.size < w8.heap.size := C0_8.out.lt
  go_wp2_with fail
  refine (eqInts_same _ _ zs0 w8 (HB0_8.out.sl _) (C0_8.out.sl _) hl0).mono ?_
  rintro e w9 ⟨rfl, hb9⟩
  have e9 := hb9.size
  have E9 : Below w.heap.size w w9 := E8.trans (hb9.mono (by omega))
  have OW_9 := Lib.hid (OW_8.out.below hb9)
  have HB0_9 := Lib.hid (HB0_8.out.belowAll hb9)
  have HB1_9 := Lib.hid (HB1_8.out.belowAll hb9)
  have OG_9 := Lib.hid (OG_8.out.below hb9)
  clear hb9 E8 OW_8 HB0_8 HB1_8 OG_8
  go_wp2_with fail
  refine (toInts_any _ zs1 w9 (SW1.out.below E9) hl20_1).mono ?_
  rintro e w10 ⟨rfl, hB10, hb10⟩
  have C1_10 := Lib.hid hB10; clear hB10
  have e10 := hb10.size
  have E10 : Below w.heap.size w w10 := E9.trans (hb10.mono (by omega))
  have OW_10 := Lib.hid (OW_9.out.below hb10)
  have HB0_10 := Lib.hid (HB0_9.out.belowAll hb10)
  have HB1_10 := Lib.hid (HB1_9.out.belowAll hb10)
  have OG_10 := Lib.hid (OG_9.out.below hb10)
  clear hb10 E9 OW_9 HB0_9 HB1_9 OG_9
  have lC1 : w9.heap.size < w10.heap.size := C1_10.out.lt
  go_wp2_with fail
  refine (eqInts_same _ _ zs1 w10 (HB1_10.out.sl _) (C1_10.out.sl _) hl1).mono ?_
  rintro e w11 ⟨rfl, hb11⟩
  have e11 := hb11.size
  have E11 : Below w.heap.size w w11 := E10.trans (hb11.mono (by omega))
  have OW_11 := Lib.hid (OW_10.out.below hb11)
  have HB0_11 := Lib.hid (HB0_10.out.belowAll hb11)
  have HB1_11 := Lib.hid (HB1_10.out.belowAll hb11)
  have OG_11 := Lib.hid (OG_10.out.below hb11)
  clear hb11 E10 OW_10 HB0_10 HB1_10 OG_10
  have hk0 : (0 : Int) ≤ 1 := by omega
  go_wp2_with fail
  refine (markInts_any (.slice (some ⟨w3.heap.size, 0, none⟩) zs0.length zs0.length) (w3.heap.size) zs0 (1) w11 (Own.of_blk HB0_11.out (Nat.le_refl _) (by unfold maxLen; omega)) (by omega) (by omega) (by omega)).mono ?_
  rintro e w12 ⟨rfl, -, hg, -⟩
  have hb12 : w11.grownBy w12 (some (w3.heap.size)) := hg
  clear hg
  have e12 := hb12.size
  have E12 : Below w.heap.size w w12 := E11.grown hb12 (by omega) (fun k e => by cases e; omega)
  have OW_12 := Lib.hid (OW_11.out.kept hb12 (by (cases hu : (Value.slice pwa pwl pwc).ownBlock with | none => exact .inl rfl | some k => exact .inr fun e => by (cases e; have := LOW.out _ hu; omega))))
  have HB1_12 := Lib.hid (blk_grown HB1_11.out hb12 (by simp; omega))
  have OG_12 := Lib.hid (OG_11.out.kept hb12 (by (cases hu : (Value.slice pga pgl pgc).ownBlock with | none => exact .inl rfl | some k => exact .inr fun e => by (cases e; have := LOG.out _ hu; omega))))
  clear hb12 E11 OW_11 HB1_11 OG_11
  have hk1 : (0 : Int) ≤ 1 + (zs0.length : Int) := by omega
  go_wp2_with fail
  refine (markInts_any (.slice (some ⟨w4.heap.size, 0, none⟩) zs1.length zs1.length) (w4.heap.size) zs1 (1 + (zs0.length : Int)) w12 (Own.of_blk HB1_12.out (Nat.le_refl _) (by unfold maxLen; omega)) (by omega) (by omega) (by omega)).mono ?_
  rintro e w13 ⟨rfl, -, hg, -⟩
  have hb13 : w12.grownBy w13 (some (w4.heap.size)) := hg
  clear hg
  have e13 := hb13.size
  have E13 : Below w.heap.size w w13 := E12.grown hb13 (by omega) (fun k e => by cases e; omega)
  have OW_13 := Lib.hid (OW_12.out.kept hb13 (by (cases hu : (Value.slice pwa pwl pwc).ownBlock with | none => exact .inl rfl | some k => exact .inr fun e => by (cases e; have := LOW.out _ hu; omega))))
  have OG_13 := Lib.hid (OG_12.out.kept hb13 (by (cases hu : (Value.slice pga pgl pgc).ownBlock with | none => exact .inl rfl | some k => exact .inr fun e => by (cases e; have := LOG.out _ hu; omega))))
  clear hb13 E12 OW_12 OG_12
  have hkk : (0 : Int) ≤ 1 + (zs0.length : Int) + (zs1.length : Int) := by omega
  go_wp2_with fail
  refine (eqInts_same (Value.slice pga pgl pgc) (Value.slice pwa pwl pwc) D w13 OG_13.out.sl OW_13.out.sl (by omega)).mono ?_
  rintro e w14 ⟨rfl, hb14⟩
  have e14 := hb14.size
  have E14 : Below w.heap.size w w14 := E13.trans (hb14.mono (by omega))
  have OW_14 := Lib.hid (OW_13.out.below hb14)
  have OG_14 := Lib.hid (OG_13.out.below hb14)
  clear hb14 E13 OW_13 OG_13
  go_wp2_with fail
  refine (markInts_any (Value.slice pga pgl pgc) w5.heap.size D 1 w14 OG_14.out (by decide) (by decide) (by omega)).mono ?_
  rintro e w15 ⟨rfl, hOm, hb15, -⟩
  have e15 := hb15.size
  have E15 : Below w.heap.size w w15 := E14.grown hb15 (by omega) (fun k e => by have := LOG.out _ e; omega)
  have OW_15 := Lib.hid (OW_14.out.kept hb15 (by (cases hu : (Value.slice pwa pwl pwc).ownBlock with | none => exact .inl rfl | some k => exact .inr fun e => by (have h1 := LOW.out _ hu; have h2 := LOG.out _ e.symm; omega))))
  clear hb15 E14 OW_14
  have OG_15 : Hid (Own w15 w5.heap.size (Value.slice pga pgl pgc) (markL 1 D.length)) := hOm
  clear hOm
  have hd0 : (0 : Int) ≤ 1 + (D.length : Int) := by omega
  go_wp2_with fail
  refine (heldInts_any (Value.slice pga pgl pgc) D.length 1 _ OG_15.out.sl (by decide) (by decide) (by omega)).mono ?_
  rintro e w16 ⟨rfl, rfl⟩
  go_wp2_with fail
  refine (toInts_any _ zs0 w15 (SW0.out.below E15) hl20_0).mono ?_
  rintro e w16 ⟨rfl, hB16, hb16⟩
  have T0_16 := Lib.hid hB16; clear hB16
  have e16 := hb16.size
  have E16 : Below w.heap.size w w16 := E15.trans (hb16.mono (by omega))
  have OW_16 := Lib.hid (OW_15.out.below hb16)
  have OG_16 := Lib.hid (OG_15.out.below hb16)
  clear hb16 E15 OW_15 OG_15
  have lT0 : w15.heap.size < w16.heap.size := T0_16.out.lt
  go_wp2_with fail
  refine (toInts_any _ zs1 w16 (SW1.out.below E16) hl20_1).mono ?_
  rintro e w17 ⟨rfl, hB17, hb17⟩
  have T1_17 := Lib.hid hB17; clear hB17
  have e17 := hb17.size
  have E17 : Below w.heap.size w w17 := E16.trans (hb17.mono (by omega))
  have OW_17 := Lib.hid (OW_16.out.below hb17)
  have OG_17 := Lib.hid (OG_16.out.below hb17)
  have T0_17 := Lib.hid (T0_16.out.belowAll hb17)
  clear hb17 E16 OW_16 OG_16 T0_16
  have lT1 : w16.heap.size < w17.heap.size := T1_17.out.lt
  have hcon := implNm_any (.slice (some ⟨w15.heap.size, 0, none⟩) zs0.length zs0.length) (.slice (some ⟨w16.heap.size, 0, none⟩) zs1.length zs1.length) zs0 zs1 w17 (T0_17.out.sl _) (T1_17.out.sl _) hl0 hl1
  go_wp2_with fail
  rw [← HD.out, ← HC.out] at hcon
  refine hcon.mono ?_
  rintro e w18 ⟨⟨uph, rfl, hO18⟩, hb18⟩
  clear hcon
  obtain ⟨pha, phl, phc, rfl⟩ := own_slice hO18
  have OH_18 : Hid (Own w18 w17.heap.size (Value.slice pha phl phc) D) := hO18
  have LOH : Hid (∀ k, (Value.slice pha phl phc).ownBlock = some k → w17.heap.size ≤ k ∧ k < w18.heap.size) := fun k e => ⟨hO18.ge k e, hO18.lt k e⟩
  clear hO18
  have e18 := hb18.size
  have E18 : Below w.heap.size w w18 := E17.trans (hb18.mono (by omega))
  have OW_18 := Lib.hid (OW_17.out.below hb18)
  have OG_18 := Lib.hid (OG_17.out.below hb18)
  clear hb18 E17 OW_17 OG_17
  go_wp2_with fail
  refine (eqInts_same (Value.slice pha phl phc) (Value.slice pwa pwl pwc) D w18 OH_18.out.sl OW_18.out.sl (by omega)).mono ?_
  rintro e w19 ⟨rfl, hb19⟩
  have e19 := hb19.size
  have E19 : Below w.heap.size w w19 := E18.trans (hb19.mono (by omega))
  have OW_19 := Lib.hid (OW_18.out.below hb19)
  have OG_19 := Lib.hid (OG_18.out.below hb19)
  have OH_19 := Lib.hid (OH_18.out.below hb19)
  clear hb19 E18 OW_18 OG_18 OH_18
  go_wp2_with fail
  refine (heldInts_any (Value.slice pga pgl pgc) D.length 1 _ OG_19.out.sl (by decide) (by decide) (by omega)).mono ?_
  rintro e w20 ⟨rfl, rfl⟩
  go_wp2_with fail
  go_ret
  exact ⟨rfl, D0.trans (E19.mono D0.size)⟩
end Go.Proofs.Ytaekecccpgcgiaa.fnExactNumbersAt
