/-
  laws.FnExactComplementOf: the walk: for every graph value that comes in the law returns true and leaves what was there.
-/
import Derived.Test.YtbpcdgfcdahnlaaDoorMark
import Derived.Test.YtbpcdgfcdahnlaaDoorCoI
import Derived.Deep.RegionHeld3
namespace Go.Proofs.YtbpcdgfcdahnlaaDoor.fnExactComplementOf
set_option maxRecDepth 100000
open Go.RowKit

theorem below_drew {B B' : Nat} {w w' : World} (h : Below B' w.drew w') (hB : B ≤ B') : Below B w w' := ((Below.refl B w).drew).trans (h.mono hB)

/-- Block k holds a pair. -/
def Box (w : World) (k : Nat) (x y : Value) (t : TypeId) : Prop := w.heap[k]? = some (.cells #[x, y] t (0, 0))
theorem Box.lt {w : World} {k : Nat} {x y : Value} {t : TypeId} (h : Box w k x y t) : k < w.heap.size := (Array.getElem?_eq_some_iff.1 h).1
theorem Box.new (w : World) (x y : Value) (t : TypeId) : Box (w.alloc (.cells #[x, y] t)) w.heap.size x y t := World.alloc_heap_new w _
theorem Box.below {w w' : World} {k : Nat} {x y : Value} {t : TypeId} (h : Box w k x y t) (hb : Below w.heap.size w w') : Box w' k x y t := (hb.block k h.lt).trans h
theorem Box.alloc {w : World} {k : Nat} {x y : Value} {t : TypeId} (h : Box w k x y t) (o : Obj) : Box (w.alloc o) k x y t := h.below ((Below.refl _ _).alloc (Nat.le_refl _) o)
theorem Box.grown {w w' : World} {k : Nat} {x y : Value} {t : TypeId} {row : Option Nat} (h : Box w k x y t) (hg : w.grownBy w' row) (hne : some k ≠ row) : Box w' k x y t := (hg.block k h.lt hne).trans h
theorem Box.c0 {w : World} {k : Nat} {x y : Value} {t : TypeId} (h : Box w k x y t) : w.cell? ⟨k, 0, none⟩ = some x := (two_cells h).1
theorem Box.c1 {w : World} {k : Nat} {x y : Value} {t : TypeId} (h : Box w k x y t) : w.cell? ⟨k, 1, none⟩ = some y := (two_cells h).2.1

theorem own_slice {w : World} {B : Nat} {u : Value} {L : List Int} (h : Own w B u L) : ∃ a l c, u = .slice a l c := by
  rcases h.form with ⟨rfl, _⟩ | ⟨g, cap, rfl, _⟩
  · exact ⟨_, _, _, rfl⟩
  · exact ⟨_, _, _, rfl⟩

set_option maxHeartbeats 3200000 in
set_option maxRecDepth 100000 in
theorem law (n : Int) (v : Value) (zs : List Int) (w : World) (hs : Sl w v zs) (hT : Tab w) (hl : zs.length ≤ 9223372036854775807) :
    Calls Tryd.prog 8 #[.agg #[.int .i64 n, v]] w fun e w' => e = .returned (.bool true) ∧ Below w.heap.size w w' := by
  have HS := Lib.hid hs; clear hs
  have HT := Lib.hid hT; clear hT
  have D0 : Below w.heap.size w (w.alloc (.cells #[.int .i64 n, v] 24)) := (Below.refl _ _).alloc (Nat.le_refl _) _
  have hsz := szGraph_any n v zs 1048576 (w.alloc (.cells #[.int .i64 n, v] 24)) (HS.out.below D0) (by decide) (by decide) hl
  by_cases hbig : (1048576 : Int) < zs.length
  · rw [if_pos hbig] at hsz
    clear D0 hbig
    go_enter Tryd.func8, Tryd.ntmps8
    go_wp2_with (go_at_call 15; refine hsz.mono ?_; rintro e w1 ⟨rfl, hb1⟩)
    go_ret
    exact ⟨rfl, ((Below.refl _ _).alloc (Nat.le_refl _) _).trans (hb1.mono (by simp))⟩
  · rw [if_neg hbig] at hsz
    have hl20 : zs.length ≤ 1048576 := by omega
    have HA0 := Lib.hid (Box.new w (.int .i64 n) v 24)
    have hsub0 : (0 : Int) ≤ 1048576 - zs.length := by omega
    obtain ⟨D, hd⟩ : ∃ d, d = CL n zs := ⟨_, rfl⟩
    obtain ⟨N, hn⟩ : ∃ d, d = CN n zs := ⟨_, rfl⟩
    obtain ⟨c, hc⟩ : ∃ c, c = CC n zs := ⟨_, rfl⟩
    have hD20 : D.length ≤ 1048576 := by rw [hd]; exact Nat.le_trans (CL_length n zs) hl20
    have HD := Lib.hid hd; have HC := Lib.hid hc; have HN := Lib.hid hn
    clear hbig hd hc hn
    go_enter Tryd.func8, Tryd.ntmps8
    go_wp2_with (go_at_call 15; refine hsz.mono ?_; rintro e w1 ⟨rfl, hb1⟩; have A1 := Lib.hid (HA0.out.below hb1); have a0 := A1.out.c0; have a1 := A1.out.c1)
    have D1 : Below w.heap.size w w1 := D0.trans (hb1.mono (by simp))
    have e0 : w.heap.size < w1.heap.size := A1.out.lt
    clear hb1 hsz
    -- the answer of the specification
    refine (toGraph_any n v zs w1 (HS.out.below D1) hl20).mono ?_
    rintro e w2 ⟨rfl, hB2, hb2⟩
    have D2 := D1.trans (hb2.mono (by omega))
    have e1 := hb2.size
    have A2 := Lib.hid (A1.out.below hb2)
    have hsp := specCo_any n (.slice (some ⟨w1.heap.size + 3, 0, none⟩) zs.length zs.length) zs w2 (hB2.sl _) hl
    rw [← HD.out, ← HC.out, ← HN.out] at hsp
    clear hb2 hB2 A1 D1 a0 a1
    go_wp2_with fail
    refine hsp.mono ?_
    rintro e w3 ⟨⟨uw, rfl, hOw⟩, hb3⟩
    obtain ⟨wa, wl, wc, rfl⟩ := own_slice hOw
    have D3 := D2.trans (hb3.mono (by omega))
    have e2 := hb3.size
    have A3 := Lib.hid (A2.out.below hb3)
    have OW3 : Hid (Own w3 w2.heap.size (Value.slice wa wl wc) D) := hOw
    have LW : Hid (∀ k, (Value.slice wa wl wc).ownBlock = some k → k < w3.heap.size) := hOw.lt
    have A4' := A3.out.alloc (.cells #[.int .i64 N, (Value.slice wa wl wc)] 28)
    have a0 := A4'.c0; have a1 := A4'.c1
    clear hb3 A2 D2 hsp hOw
    go_wp2_with fail
    obtain ⟨w4, h4⟩ : ∃ w4, w4 = w3.alloc (.cells #[.int .i64 N, (Value.slice wa wl wc)] 28) := ⟨_, rfl⟩
    have hb4 : Below w3.heap.size w3 w4 := by rw [h4]; exact (Below.refl _ _).alloc (Nat.le_refl _) _
    have Y4 : Hid (Box w4 w3.heap.size (.int .i64 N) (Value.slice wa wl wc) 28) := by rw [h4]; exact Box.new w3 _ _ _
    rw [← h4]
    clear h4 A4' a0 a1
    have e3 := hb4.size
    have e3' := Y4.out.lt
    have D4 := D3.trans (hb4.mono (by omega))
    have A4 := Lib.hid (A3.out.below hb4)
    have OW4 : Hid (Own w4 w2.heap.size (Value.slice wa wl wc) D) := OW3.out.below hb4
    clear hb4 A3 D3 OW3
    -- the answer of the program
    refine (toGraph_any n v zs w4 (HS.out.below D4) hl20).mono ?_
    rintro e w5 ⟨rfl, hB5, hb5⟩
    have e4 := hb5.size
    have e4' : w4.heap.size + 3 < w5.heap.size := hB5.lt
    have D5 := D4.trans (hb5.mono (by omega))
    have A5 := Lib.hid (A4.out.below hb5)
    have Y5 := Lib.hid (Y4.out.below hb5)
    have OW5 : Hid (Own w5 w2.heap.size (Value.slice wa wl wc) D) := OW4.out.below hb5
    have HB5 := Lib.hid hB5
    clear hb5 hB5 A4 Y4 D4 OW4
    go_wp2_with fail
    obtain ⟨w6, h6⟩ : ∃ w6, w6 = w5.alloc (.cells #[.int .i64 n, .slice (some ⟨w4.heap.size + 3, 0, none⟩) zs.length zs.length] 28) := ⟨_, rfl⟩
    have X6 : Hid (Box w6 w5.heap.size (.int .i64 n) (.slice (some ⟨w4.heap.size + 3, 0, none⟩) zs.length zs.length) 28) := by rw [h6]; exact Box.new w5 _ _ _
    have hb6 : Below w5.heap.size w5 w6 := by rw [h6]; exact (Below.refl _ _).alloc (Nat.le_refl _) _
    rw [← h6]
    clear h6
    have e5 := hb6.size
    have e5' := X6.out.lt
    have D6 := D5.trans (hb6.mono (by omega))
    have A6 := Lib.hid (A5.out.below hb6)
    have Y6 := Lib.hid (Y5.out.below hb6)
    have OW6 : Hid (Own w6 w2.heap.size (Value.slice wa wl wc) D) := OW5.out.below hb6
    have HB6 := Lib.hid (HB5.out.belowAll hb6)
    have him := implCo_any n (.slice (some ⟨w4.heap.size + 3, 0, none⟩) zs.length zs.length) zs w6 (HB6.out.sl _) hl (HT.out.belowAll D6)
    rw [← HD.out, ← HC.out, ← HN.out] at him
    clear hb6 A5 Y5 D5 OW5 HB5
    refine him.mono ?_
    rintro e w7 ⟨⟨ug, rfl, hOg⟩, hb7⟩
    obtain ⟨ga, gl, gc, rfl⟩ := own_slice hOg
    have e6 := hb7.size
    have D7 := D6.trans (hb7.mono (by omega))
    have A7 := Lib.hid (A6.out.below hb7)
    have Y7 := Lib.hid (Y6.out.below hb7)
    have X7 := Lib.hid (X6.out.below hb7)
    have OW7 : Hid (Own w7 w2.heap.size (Value.slice wa wl wc) D) := OW6.out.below hb7
    have HB7 := Lib.hid (HB6.out.belowAll hb7)
    have OG7 : Hid (Own w7 w6.heap.size (Value.slice ga gl gc) D) := hOg
    have LG : Hid (∀ k, (Value.slice ga gl gc).ownBlock = some k → w6.heap.size ≤ k ∧ k < w7.heap.size) := fun k e => ⟨hOg.ge k e, hOg.lt k e⟩
    have Y8' := Y7.out.alloc (.cells #[.int .i64 N, (Value.slice ga gl gc)] 28)
    have y0 := Y8'.c0; have y1 := Y8'.c1
    clear hb7 A6 Y6 X6 D6 OW6 HB6 him hOg
    go_wp2_with fail
    obtain ⟨w8, h8⟩ : ∃ w8, w8 = w7.alloc (.cells #[.int .i64 N, (Value.slice ga gl gc)] 28) := ⟨_, rfl⟩
    have Z8 : Hid (Box w8 w7.heap.size (.int .i64 N) (Value.slice ga gl gc) 28) := by rw [h8]; exact Box.new w7 _ _ _
    have hb8 : Below w7.heap.size w7 w8 := by rw [h8]; exact (Below.refl _ _).alloc (Nat.le_refl _) _
    rw [← h8]
    clear h8 Y8' y0 y1
    have e7 := hb8.size
    have e7' := Z8.out.lt
    have D8 := D7.trans (hb8.mono (by omega))
    have A8 := Lib.hid (A7.out.below hb8)
    have Y8 := Lib.hid (Y7.out.below hb8)
    have X8 := Lib.hid (X7.out.below hb8)
    have OW8 : Hid (Own w8 w2.heap.size (Value.slice wa wl wc) D) := OW7.out.below hb8
    have OG8 : Hid (Own w8 w6.heap.size (Value.slice ga gl gc) D) := OG7.out.below hb8
    have HB8 := Lib.hid (HB7.out.belowAll hb8)
    clear hb8 A7 Y7 X7 D7 OW7 OG7 HB7
    -- the two answers compared
    refine (eqGraph_same N (Value.slice ga gl gc) (Value.slice wa wl wc) D w8 OG8.out.sl OW8.out.sl (by omega)).mono ?_
    rintro e w9 ⟨rfl, hb9⟩
    have e8 := hb9.size
    have D9 := D8.trans (hb9.mono (by omega))
    have A9 := Lib.hid (A8.out.below hb9)
    have Y9 := Lib.hid (Y8.out.below hb9)
    have X9 := Lib.hid (X8.out.below hb9)
    have Z9 := Lib.hid (Z8.out.below hb9)
    have OW9 : Hid (Own w9 w2.heap.size (Value.slice wa wl wc) D) := OW8.out.below hb9
    have OG9 : Hid (Own w9 w6.heap.size (Value.slice ga gl gc) D) := OG8.out.below hb9
    have HB9 := Lib.hid (HB8.out.belowAll hb9)
    have a0 := A9.out.c0; have a1 := A9.out.c1; have x0 := X9.out.c0; have x1 := X9.out.c1
    clear hb9 A8 Y8 X8 Z8 D8 OW8 OG8 HB8
    go_wp2_with fail
    -- the argument compared with a new copy
    go_region_held3 (fun w' => w'.cell? ⟨w.heap.size, 0, none⟩ = some (.int .i64 n) ∧ w'.cell? ⟨w.heap.size, 1, none⟩ = some v ∧ w'.cell? ⟨w5.heap.size, 0, none⟩ = some (.int .i64 n) ∧ w'.cell? ⟨w5.heap.size, 1, none⟩ = some (.slice (some ⟨w4.heap.size + 3, 0, none⟩) zs.length zs.length))
      (go_keep)
      (first | (go_at_call 17; refine (toGraph_any n v zs _ ((HS.out.below D9).below ((Below.refl _ _).drew)) hl20).mono ?_; rintro e w10 ⟨rfl, hB10, hb10⟩; have HB10 := Lib.hid hB10; have hb10' : Below w9.heap.size w9 w10 := below_drew hb10 (by simp); have a0 := (A9.out.below hb10').c0; have a1 := (A9.out.below hb10').c1; have x0 := (X9.out.below hb10').c0; have x1 := (X9.out.below hb10').c1; clear hB10) | (go_at_call 20; refine (eqGraph_same n _ _ zs _ ((HB9.out.belowAll hb10').sl _) (HB10.out.sl _) hl).mono ?_; rintro e w11 ⟨rfl, hb11⟩; have hb11' : Below w9.heap.size w9 w11 := hb10'.trans (hb11.mono hb10'.size); have a0 := (A9.out.below hb11').c0; have a1 := (A9.out.below hb11').c1; have x0 := (X9.out.below hb11').c0; have x1 := (X9.out.below hb11').c1))
    have e10 := hb11'.size
    have D11 := D9.trans (hb11'.mono (by omega))
    have A11 := Lib.hid (A9.out.below hb11')
    have Y11 := Lib.hid (Y9.out.below hb11')
    have X11 := Lib.hid (X9.out.below hb11')
    have Z11 := Lib.hid (Z9.out.below hb11')
    have OW11 : Hid (Own w11 w2.heap.size (Value.slice wa wl wc) D) := OW9.out.below hb11'
    have OG11 : Hid (Own w11 w6.heap.size (Value.slice ga gl gc) D) := OG9.out.below hb11'
    have HB11 := Lib.hid (HB9.out.belowAll hb11')
    clear hb11' hb11 hb10 hb10' HB10 A9 Y9 X9 Z9 D9 OW9 OG9 HB9
    -- marks into the argument's rows
    have hmx := markGraph_any n (.slice (some ⟨w4.heap.size + 3, 0, none⟩) zs.length zs.length) (w4.heap.size + 3) zs 1 w11 (Own.of_blk HB11.out (Nat.le_refl _) (by unfold maxLen; omega)) (by decide) (by decide) (by omega)
    go_wp2_with fail
    refine hmx.mono ?_
    rintro e w12 ⟨rfl, -, hg12⟩
    have hg12' : w11.grownBy w12 (some (w4.heap.size + 3)) := hg12
    have e11 := hg12'.size
    have D12 := D11.grown hg12' (by omega) (fun k e => by cases e; omega)
    have A12 := Lib.hid (A11.out.grown hg12' (by simp; omega))
    have Y12 := Lib.hid (Y11.out.grown hg12' (by simp; omega))
    have Z12 := Lib.hid (Z11.out.grown hg12' (by simp; omega))
    have OW12 : Hid (Own w12 w2.heap.size (Value.slice wa wl wc) D) := OW11.out.kept hg12' (by
      cases hu : (Value.slice wa wl wc).ownBlock with
      | none => exact .inl rfl
      | some k => refine .inr fun e => ?_; cases e; have := LW.out _ hu; omega)
    have OG12 : Hid (Own w12 w6.heap.size (Value.slice ga gl gc) D) := OG11.out.kept hg12' (by
      cases hu : (Value.slice ga gl gc).ownBlock with
      | none => exact .inl rfl
      | some k => refine .inr fun e => ?_; cases e; have := LG.out _ hu; omega)
    have y0 := Y12.out.c0; have y1 := Y12.out.c1; have z0 := Z12.out.c0; have z1 := Z12.out.c1
    clear hg12 hg12' hmx A11 Y11 X11 Z11 D11 OW11 OG11 HB11 a0 a1 x0 x1
    go_wp2_with fail
    refine (eqGraph_same N (Value.slice ga gl gc) (Value.slice wa wl wc) D w12 OG12.out.sl OW12.out.sl (by omega)).mono ?_
    rintro e w13 ⟨rfl, hb13⟩
    have e12 := hb13.size
    have D13 := D12.trans (hb13.mono (by omega))
    have A13 := Lib.hid (A12.out.below hb13)
    have Y13 := Lib.hid (Y12.out.below hb13)
    have Z13 := Lib.hid (Z12.out.below hb13)
    have OW13 : Hid (Own w13 w2.heap.size (Value.slice wa wl wc) D) := OW12.out.below hb13
    have OG13 : Hid (Own w13 w6.heap.size (Value.slice ga gl gc) D) := OG12.out.below hb13
    have z0 := Z13.out.c0; have z1 := Z13.out.c1
    clear hb13 A12 Y12 Z12 D12 OW12 OG12 y0 y1
    -- marks into the answer
    have hmg := markGraph_any N (Value.slice ga gl gc) w6.heap.size D 1 w13 OG13.out (by decide) (by decide) (by omega)
    go_wp2_with fail
    refine hmg.mono ?_
    rintro e w14 ⟨rfl, hOG14, hg14⟩
    have e13 := hg14.size
    have D14 := D13.grown hg14 (by omega) (fun k e => by have := LG.out _ e; omega)
    have A14 := Lib.hid (A13.out.grown hg14 (fun e => by have := LG.out _ e.symm; omega))
    have Y14 := Lib.hid (Y13.out.grown hg14 (fun e => by have := LG.out _ e.symm; omega))
    have Z14 := Lib.hid (Z13.out.grown hg14 (fun e => by have := LG.out _ e.symm; omega))
    have OW14 : Hid (Own w14 w2.heap.size (Value.slice wa wl wc) D) := OW13.out.kept hg14 (by
      cases hu : (Value.slice wa wl wc).ownBlock with
      | none => exact .inl rfl
      | some k => refine .inr fun e => ?_; have h1 := LW.out _ hu; have h2 := LG.out _ e.symm; omega)
    have OG14 : Hid (Own w14 w6.heap.size (Value.slice ga gl gc) (markL 1 D.length)) := hOG14
    have z0 := Z14.out.c0; have z1 := Z14.out.c1
    clear hg14 hmg A13 Y13 Z13 D13 OW13 OG13 hOG14
    have hd0 : (0 : Int) ≤ 1 + (D.length : Int) := by omega
    go_wp2_with fail
    refine (heldGraph_any N (Value.slice ga gl gc) D.length 1 _ OG14.out.sl (by decide) (by decide) (by omega)).mono ?_
    rintro e w15 ⟨rfl, hb15⟩
    have e14 := hb15.size
    have D15 := D14.trans (hb15.mono (by omega))
    have A15 := Lib.hid (A14.out.below hb15)
    have Y15 := Lib.hid (Y14.out.below hb15)
    have Z15 := Lib.hid (Z14.out.below hb15)
    have OW15 : Hid (Own w15 w2.heap.size (Value.slice wa wl wc) D) := OW14.out.below hb15
    have OG15 : Hid (Own w15 w6.heap.size (Value.slice ga gl gc) (markL 1 D.length)) := OG14.out.below hb15
    have a0 := A15.out.c0; have a1 := A15.out.c1
    clear hb15 A14 Y14 Z14 D14 OW14 OG14 z0 z1
    go_wp2_with fail
    -- a second answer
    refine (toGraph_any n v zs w15 (HS.out.below D15) hl20).mono ?_
    rintro e w16 ⟨rfl, hB16, hb16⟩
    have e15 := hb16.size
    have D16 := D15.trans (hb16.mono (by omega))
    have Y16 := Lib.hid (Y15.out.below hb16)
    have Z16 := Lib.hid (Z15.out.below hb16)
    have OW16 : Hid (Own w16 w2.heap.size (Value.slice wa wl wc) D) := OW15.out.below hb16
    have OG16 : Hid (Own w16 w6.heap.size (Value.slice ga gl gc) (markL 1 D.length)) := OG15.out.below hb16
    have him := implCo_any n (.slice (some ⟨w15.heap.size + 3, 0, none⟩) zs.length zs.length) zs w16 (hB16.sl _) hl (HT.out.belowAll D16)
    rw [← HD.out, ← HC.out, ← HN.out] at him
    clear hb16 hB16 A15 Y15 Z15 D15 OW15 OG15 a0 a1
    go_wp2_with fail
    refine him.mono ?_
    rintro e w17 ⟨⟨uh, rfl, hOh⟩, hb17⟩
    obtain ⟨ha, hb, hc, rfl⟩ := own_slice hOh
    have e16 := hb17.size
    have D17 := D16.trans (hb17.mono (by omega))
    have Y17 := Lib.hid (Y16.out.below hb17)
    have Z17 := Lib.hid (Z16.out.below hb17)
    have OW17 : Hid (Own w17 w2.heap.size (Value.slice wa wl wc) D) := OW16.out.below hb17
    have OG17 : Hid (Own w17 w6.heap.size (Value.slice ga gl gc) (markL 1 D.length)) := OG16.out.below hb17
    have OH17 : Hid (Own w17 w16.heap.size (Value.slice ha hb hc) D) := hOh
    have Y18' := Y17.out.alloc (.cells #[.int .i64 N, (Value.slice ha hb hc)] 28)
    have y0 := Y18'.c0; have y1 := Y18'.c1
    clear hb17 hOh Y16 Z16 D16 OW16 OG16 him
    go_wp2_with fail
    obtain ⟨w18, h18⟩ : ∃ w18, w18 = w17.alloc (.cells #[.int .i64 N, (Value.slice ha hb hc)] 28) := ⟨_, rfl⟩
    have hb18 : Below w17.heap.size w17 w18 := by rw [h18]; exact (Below.refl _ _).alloc (Nat.le_refl _) _
    rw [← h18]
    clear h18 Y18' y0 y1
    have e17 := hb18.size
    have D18 := D17.trans (hb18.mono (by omega))
    have Z18 := Lib.hid (Z17.out.below hb18)
    have OW18 : Hid (Own w18 w2.heap.size (Value.slice wa wl wc) D) := OW17.out.below hb18
    have OG18 : Hid (Own w18 w6.heap.size (Value.slice ga gl gc) (markL 1 D.length)) := OG17.out.below hb18
    have OH18 : Hid (Own w18 w16.heap.size (Value.slice ha hb hc) D) := OH17.out.below hb18
    clear hb18 Y17 Z17 D17 OW17 OG17 OH17
    refine (eqGraph_same N (Value.slice ha hb hc) (Value.slice wa wl wc) D w18 OH18.out.sl OW18.out.sl (by omega)).mono ?_
    rintro e w19 ⟨rfl, hb19⟩
    have e18 := hb19.size
    have D19 := D18.trans (hb19.mono (by omega))
    have Z19 := Lib.hid (Z18.out.below hb19)
    have OG19 : Hid (Own w19 w6.heap.size (Value.slice ga gl gc) (markL 1 D.length)) := OG18.out.below hb19
    have z0 := Z19.out.c0; have z1 := Z19.out.c1
    clear hb19 Z18 D18 OW18 OG18 OH18
    go_wp2_with fail
    refine (heldGraph_any N (Value.slice ga gl gc) D.length 1 _ OG19.out.sl (by decide) (by decide) (by omega)).mono ?_
    rintro e w20 ⟨rfl, hb20⟩
    have D20 := D19.trans (hb20.mono (by omega))
    clear hb20 D19 Z19 OG19 z0 z1
    go_wp2_with fail
    go_ret
    exact ⟨rfl, D20⟩
end Go.Proofs.YtbpcdgfcdahnlaaDoor.fnExactComplementOf
