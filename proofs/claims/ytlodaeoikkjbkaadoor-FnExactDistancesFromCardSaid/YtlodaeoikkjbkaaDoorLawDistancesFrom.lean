/-
  laws.FnExactDistancesFrom: the walk: for every graph value that comes in the law returns true and leaves what was there.
-/
import Derived.Test.YtlodaeoikkjbkaaDoorMark
import Derived.Test.YtlodaeoikkjbkaaDoorDf
import Derived.Test.YtlodaeoikkjbkaaDoorDs
import Derived.Deep.RegionHeld3
namespace Go.Proofs.YtlodaeoikkjbkaaDoor.fnExactDistancesFrom
set_option maxRecDepth 100000
set_option maxRecDepth 100000
open Go.RowKit

theorem below_drew {B B' : Nat} {w w' : World} (h : Below B' w.drew w') (hB : B ≤ B') : Below B w w' := ((Below.refl B w).drew).trans (h.mono hB)

theorem eqInts_same (v1 v2 : Value) (xs : List Int) (w : World) (h1 : Sl w v1 xs) (h2 : Sl w v2 xs) (hx : xs.length ≤ 9223372036854775807) :
    Calls Tryd.prog 14 #[v1, v2] w fun e w' => e = .returned (.bool true) ∧ Below w.heap.size w w' := by
  have := eqInts_any v1 v2 xs xs w h1 h2 hx
  simpa using this

set_option maxHeartbeats 3200000 in
set_option maxRecDepth 100000 in
theorem law (n : Int) (v : Value) (zs : List Int) (x : Int) (w : World) (hs : Sl w v zs) (hT : Tab w) (hl : zs.length ≤ 9223372036854775807) :
    Calls Tryd.prog 3 #[.agg #[.int .i64 n, v], .int .i64 x] w fun e w' => e = .returned (.bool true) ∧ Below w.heap.size w w' := by
  have HS := Lib.hid hs; clear hs
  have HT := Lib.hid hT; clear hT
  have D0 : Below w.heap.size w (w.alloc (.cells #[.int .i64 n, v] 24)) := (Below.refl _ _).alloc (Nat.le_refl _) _
  have hsz := szGraph_any n v zs 1048576 (w.alloc (.cells #[.int .i64 n, v] 24)) (HS.out.below D0) (by decide) (by decide) hl
  by_cases hbig : (1048576 : Int) < zs.length
  · rw [if_pos hbig] at hsz
    clear D0 hbig
    go_enter Tryd.func3, Tryd.ntmps3
    go_wp2_with (go_at_call 10; refine hsz.mono ?_; rintro e w1 ⟨rfl, hb1⟩)
    go_ret
    exact ⟨rfl, ((Below.refl _ _).alloc (Nat.le_refl _) _).trans (hb1.mono (by simp))⟩
  · rw [if_neg hbig] at hsz
    have hl20 : zs.length ≤ 1048576 := by omega
    have HB0 := Lib.hid (World.alloc_heap_new w (.cells #[.int .i64 n, v] 24))
    have hsub0 : (0 : Int) ≤ 1048576 - zs.length := by omega
    obtain ⟨D, hd⟩ : ∃ d, d = g1L dsL n zs x := ⟨_, rfl⟩
    obtain ⟨c, hc⟩ : ∃ c, c = NC n zs x := ⟨_, rfl⟩
    have hD20 : D.length ≤ 1048576 := by rw [hd]; exact Nat.le_trans (g1L_len (fun zs v _ => by rw [dsL_length]; exact Nat.le_refl _) n zs x) hl20
    have HD := Lib.hid hd; have HC := Lib.hid hc
    clear hbig hd hc
    go_enter Tryd.func3, Tryd.ntmps3
    go_wp2_with (go_at_call 10; refine hsz.mono ?_; rintro e w1 ⟨rfl, E1⟩; obtain ⟨a0, a1, _, _⟩ := two_cells ((E1.block w.heap.size (by simp)).trans HB0.out))
    have e0 : w.heap.size + 1 ≤ w1.heap.size := by have := E1.size; simpa using this
    have S1 : Hid (Sl w1 v zs) := HS.out.below (D0.trans (E1.mono (by simp)))
    refine (toGraph_any n v zs w1 S1.out hl20).mono ?_
    rintro e w2 ⟨rfl, hB2, hb2⟩
    have E2 := E1.trans (hb2.mono (by simpa using e0))
    have e2 := hb2.size
    obtain ⟨a0, a1, _, _⟩ := two_cells ((E2.block w.heap.size (by simp)).trans HB0.out)
    have hsp := specDs_any n (.slice (some ⟨w1.heap.size + 3, 0, none⟩) zs.length zs.length) zs x w2 (hB2.sl _) hl
    rw [← HD.out, ← HC.out] at hsp
    have S2 : Hid (Sl w2 v zs) := HS.out.below (D0.trans (E2.mono (by simp)))
    have T2 : Hid (Tab w2) := HT.out.belowAll (D0.trans (E2.mono (by simp)))
    clear hb2 hB2 E1 S1 hsz
    go_wp2_with fail
    refine hsp.mono ?_
    rintro e w3 ⟨⟨uw, rfl, hOw⟩, hb3⟩
    have E3 := E2.trans (hb3.mono (by simp; omega))
    have e3 := hb3.size
    have OW3 : Hid (Own w3 w2.heap.size uw D) := hOw
    have LW : Hid (∀ k, uw.ownBlock = some k → k < w3.heap.size) := hOw.lt
    obtain ⟨a0, a1, _, _⟩ := two_cells ((E3.block w.heap.size (by simp)).trans HB0.out)
    have S3 : Hid (Sl w3 v zs) := S2.out.below hb3
    have T3 : Hid (Tab w3) := T2.out.belowAll hb3
    clear hb3 E2 S2 T2 hsp hOw
    go_wp2_with fail
    refine (toGraph_any n v zs w3 S3.out hl20).mono ?_
    rintro e w4 ⟨rfl, hB4, hb4⟩
    have E4 := E3.trans (hb4.mono (by simp; omega))
    have e4 := hb4.size
    have e4' : w3.heap.size + 3 < w4.heap.size := hB4.lt
    obtain ⟨a0, a1, _, _⟩ := two_cells ((E4.block w.heap.size (by simp)).trans HB0.out)
    have S4 : Hid (Sl w4 v zs) := S3.out.below hb4
    have T4 : Hid (Tab w4) := T3.out.belowAll hb4
    have OW4 : Hid (Own w4 w2.heap.size uw D) := OW3.out.below hb4
    have HB4 := Lib.hid hB4
    clear hb4 E3 S3 T3 hB4 OW3
    go_wp2_with fail
    obtain ⟨w5, h5⟩ : ∃ w5, w5 = w4.alloc (.cells #[.int .i64 n, .slice (some ⟨w3.heap.size + 3, 0, none⟩) zs.length zs.length] 28) := ⟨_, rfl⟩
    have X5 : Hid (w5.heap[w4.heap.size]? = some (.cells #[.int .i64 n, .slice (some ⟨w3.heap.size + 3, 0, none⟩) zs.length zs.length] 28 (0, 0))) := by rw [h5]; exact World.alloc_heap_new w4 _
    have hb5 : Below w4.heap.size w4 w5 := by rw [h5]; exact (Below.refl _ _).alloc (Nat.le_refl _) _
    rw [← h5]
    clear h5
    have e5 := hb5.size
    have B5 := HB4.out.belowAll hb5
    have E5 := E4.trans (hb5.mono (by simp; omega))
    have S5 : Hid (Sl w5 v zs) := S4.out.below hb5
    have T5 : Hid (Tab w5) := T4.out.belowAll hb5
    have OW5 : Hid (Own w5 w2.heap.size uw D) := OW4.out.below hb5
    have him := implDf_any n (.slice (some ⟨w3.heap.size + 3, 0, none⟩) zs.length zs.length) zs x w5 (B5.sl _) hl T5.out
    rw [← HD.out, ← HC.out] at him
    refine him.mono ?_
    rintro e w6 ⟨⟨ug, rfl, hOg⟩, hb6⟩
    have e6 := hb6.size
    have B6 : Hid (Blk w6 (w3.heap.size + 3) zs) := B5.belowAll hb6
    have E6 := E5.trans (hb6.mono (by simp; omega))
    have S6 : Hid (Sl w6 v zs) := S5.out.below hb6
    have T6 : Hid (Tab w6) := T5.out.belowAll hb6
    have OW6 : Hid (Own w6 w2.heap.size uw D) := OW5.out.below hb6
    have OG6 : Hid (Own w6 w5.heap.size ug D) := hOg
    have LG : Hid (∀ k, ug.ownBlock = some k → w5.heap.size ≤ k) := hOg.ge
    have l5 : w4.heap.size + 1 ≤ w5.heap.size := (Array.getElem?_eq_some_iff.1 X5.out).1
    have X6 : Hid (w6.heap[w4.heap.size]? = some (.cells #[.int .i64 n, .slice (some ⟨w3.heap.size + 3, 0, none⟩) zs.length zs.length] 28 (0, 0))) := (hb6.block _ (by omega)).trans X5.out
    obtain ⟨a0, a1, _, _⟩ := two_cells ((E6.block w.heap.size (by simp)).trans HB0.out)
    obtain ⟨x0, x1, _, _⟩ := two_cells X6.out
    clear hb6 hb5 E5 E4 S5 S4 T5 T4 him B5 HB4 OW5 OW4 hOg X5
    go_wp2_with fail
    -- the two answers compared
    refine (eqInts_same ug uw D w6 OG6.out.sl OW6.out.sl (by omega)).mono ?_
    rintro e w7 ⟨rfl, hb7⟩
    have e7 := hb7.size
    have B7 : Hid (Blk w7 (w3.heap.size + 3) zs) := B6.out.belowAll hb7
    have E7 := E6.trans (hb7.mono (by simp; omega))
    have S7 : Hid (Sl w7 v zs) := S6.out.below hb7
    have T7 : Hid (Tab w7) := T6.out.belowAll hb7
    have OW7 : Hid (Own w7 w2.heap.size uw D) := OW6.out.below hb7
    have OG7 : Hid (Own w7 w5.heap.size ug D) := OG6.out.below hb7
    have X7 : Hid (w7.heap[w4.heap.size]? = some (.cells #[.int .i64 n, .slice (some ⟨w3.heap.size + 3, 0, none⟩) zs.length zs.length] 28 (0, 0))) := (hb7.block _ (by omega)).trans X6.out
    obtain ⟨a0, a1, _, _⟩ := two_cells ((E7.block w.heap.size (by simp)).trans HB0.out)
    obtain ⟨x0, x1, _, _⟩ := two_cells X7.out
    clear hb7 E6 S6 T6 OW6 OG6 B6 X6
    go_wp2_with fail
    -- the argument compared with a new copy
    go_region_held3 (fun w' => w'.cell? ⟨w.heap.size, 0, none⟩ = some (.int .i64 n) ∧ w'.cell? ⟨w.heap.size, 1, none⟩ = some v ∧ w'.cell? ⟨w4.heap.size, 0, none⟩ = some (.int .i64 n) ∧ w'.cell? ⟨w4.heap.size, 1, none⟩ = some (.slice (some ⟨w3.heap.size + 3, 0, none⟩) zs.length zs.length))
      (go_keep)
      (first | (go_at_call 12; refine (toGraph_any n v zs _ (S7.out.below ((Below.refl _ _).drew)) hl20).mono ?_; rintro e w8 ⟨rfl, hB8, hb8⟩; have HB8 := Lib.hid hB8; have hb8' : Below w7.heap.size w7 w8 := below_drew hb8 (by simp); obtain ⟨a0, a1, _, _⟩ := two_cells (((E7.trans (hb8'.mono (by simp; omega))).block w.heap.size (by simp)).trans HB0.out); obtain ⟨x0, x1, _, _⟩ := two_cells ((hb8'.block w4.heap.size (by omega)).trans X7.out); clear hB8) | (go_at_call 15; refine (eqGraph_same n _ _ zs _ ((B7.out.belowAll hb8').sl _) (HB8.out.sl _) hl).mono ?_; rintro e w9 ⟨rfl, hb9⟩; have hb9' : Below w7.heap.size w7 w9 := hb8'.trans (hb9.mono hb8'.size); obtain ⟨a0, a1, _, _⟩ := two_cells (((E7.trans (hb9'.mono (by simp; omega))).block w.heap.size (by simp)).trans HB0.out); obtain ⟨x0, x1, _, _⟩ := two_cells ((hb9'.block w4.heap.size (by omega)).trans X7.out)))
    have e9 := hb9'.size
    have B9 : Hid (Blk w9 (w3.heap.size + 3) zs) := B7.out.belowAll hb9'
    have E9 := E7.trans (hb9'.mono (by simp; omega))
    have S9 : Hid (Sl w9 v zs) := S7.out.below hb9'
    have T9 : Hid (Tab w9) := T7.out.belowAll hb9'
    have OW9 : Hid (Own w9 w2.heap.size uw D) := OW7.out.below hb9'
    have OG9 : Hid (Own w9 w5.heap.size ug D) := OG7.out.below hb9'
    clear hb9' hb9 hb8 hb8' HB8 E7 S7 T7 OW7 OG7 B7 X7
    -- marks into the argument's rows
    have hmx := markGraph_any n (.slice (some ⟨w3.heap.size + 3, 0, none⟩) zs.length zs.length) (w3.heap.size + 3) zs 1 w9 (Own.of_blk B9.out (Nat.le_refl _) (by unfold maxLen; omega)) (by decide) (by decide) (by omega)
    go_wp2_with fail
    refine hmx.mono ?_
    rintro e w10 ⟨rfl, -, hg10⟩
    have hg10' : w9.grownBy w10 (some (w3.heap.size + 3)) := hg10
    have e10 := hg10'.size
    have E10 := E9.grown hg10' (by simp; omega) (fun k e => by cases e; simp; omega)
    have D10 := D0.trans (E10.mono (by simp))
    have S10 : Hid (Sl w10 v zs) := HS.out.below D10
    have T10 : Hid (Tab w10) := HT.out.belowAll D10
    have OW10 : Hid (Own w10 w2.heap.size uw D) := OW9.out.kept hg10' (by
      cases hu : uw.ownBlock with
      | none => exact .inl rfl
      | some k => refine .inr fun e => ?_; cases e; have := LW.out _ hu; omega)
    have OG10 : Hid (Own w10 w5.heap.size ug D) := OG9.out.kept hg10' (by
      cases hu : ug.ownBlock with
      | none => exact .inl rfl
      | some k => refine .inr fun e => ?_; cases e; have := LG.out _ hu; omega)
    obtain ⟨a0, a1, _, _⟩ := two_cells ((E10.block w.heap.size (by simp)).trans HB0.out)
    clear hg10 hg10' hmx E9 S9 T9 OW9 OG9 B9 D10
    go_wp2_with fail
    refine (eqInts_same ug uw D w10 OG10.out.sl OW10.out.sl (by omega)).mono ?_
    rintro e w11 ⟨rfl, hb11⟩
    have e11 := hb11.size
    have E11 := E10.trans (hb11.mono (by simp; omega))
    have S11 : Hid (Sl w11 v zs) := S10.out.below hb11
    have T11 : Hid (Tab w11) := T10.out.belowAll hb11
    have OW11 : Hid (Own w11 w2.heap.size uw D) := OW10.out.below hb11
    have OG11 : Hid (Own w11 w5.heap.size ug D) := OG10.out.below hb11
    obtain ⟨a0, a1, _, _⟩ := two_cells ((E11.block w.heap.size (by simp)).trans HB0.out)
    clear hb11 E10 S10 T10 OW10 OG10
    -- marks into the answer
    have hmg := markInts_any ug w5.heap.size D 1 w11 OG11.out (by decide) (by decide) (by omega)
    go_wp2_with fail
    refine hmg.mono ?_
    rintro e w12 ⟨rfl, hOG12, hg12, -⟩
    have e12 := hg12.size
    have E12 := E11.grown hg12 (by simp; omega) (fun k e => by have := LG.out _ e; simp; omega)
    have D12 := D0.trans (E12.mono (by simp))
    have S12 : Hid (Sl w12 v zs) := HS.out.below D12
    have T12 : Hid (Tab w12) := HT.out.belowAll D12
    have OW12 : Hid (Own w12 w2.heap.size uw D) := OW11.out.kept hg12 (by
      cases hu : uw.ownBlock with
      | none => exact .inl rfl
      | some k => refine .inr fun e => ?_; have h1 := LW.out _ hu; have h2 := LG.out _ e.symm; omega)
    have OG12 : Hid (Own w12 w5.heap.size ug (markL 1 D.length)) := hOG12
    obtain ⟨a0, a1, _, _⟩ := two_cells ((E12.block w.heap.size (by simp)).trans HB0.out)
    clear hg12 hmg E11 S11 T11 OW11 OG11 D12 hOG12
    have hd0 : (0 : Int) ≤ 1 + (D.length : Int) := by omega
    go_wp2_with (go_at_call 18; refine (heldInts_any ug D.length 1 _ OG12.out.sl (by decide) (by decide) (by omega)).mono ?_; rintro e w13 ⟨rfl, rfl⟩)
    -- a second answer
    refine (toGraph_any n v zs w12 S12.out hl20).mono ?_
    rintro e w13 ⟨rfl, hB13, hb13⟩
    have e13 := hb13.size
    have E13 := E12.trans (hb13.mono (by simp; omega))
    have T13 : Hid (Tab w13) := T12.out.belowAll hb13
    have OW13 : Hid (Own w13 w2.heap.size uw D) := OW12.out.below hb13
    have OG13 : Hid (Own w13 w5.heap.size ug (markL 1 D.length)) := OG12.out.below hb13
    have him := implDf_any n (.slice (some ⟨w12.heap.size + 3, 0, none⟩) zs.length zs.length) zs x w13 (hB13.sl _) hl T13.out
    rw [← HD.out, ← HC.out] at him
    clear hb13 hB13 E12 S12 T12 OW12 OG12
    go_wp2_with fail
    refine him.mono ?_
    rintro e w14 ⟨⟨uh, rfl, hOh⟩, hb14⟩
    have e14 := hb14.size
    have E14 := E13.trans (hb14.mono (by simp; omega))
    have OW14 : Hid (Own w14 w2.heap.size uw D) := OW13.out.below hb14
    have OG14 : Hid (Own w14 w5.heap.size ug (markL 1 D.length)) := OG13.out.below hb14
    have OH14 : Hid (Own w14 w13.heap.size uh D) := hOh
    clear hb14 hOh E13 T13 OW13 OG13 him
    go_wp2_with fail
    refine (eqInts_same uh uw D w14 OH14.out.sl OW14.out.sl (by omega)).mono ?_
    rintro e w15 ⟨rfl, hb15⟩
    have E15 := E14.trans (hb15.mono (by simp; omega))
    have OG15 : Hid (Own w15 w5.heap.size ug (markL 1 D.length)) := OG14.out.below hb15
    clear hb15 E14 OW14 OG14 OH14
    go_wp2_with (go_at_call 18; refine (heldInts_any ug D.length 1 _ OG15.out.sl (by decide) (by decide) (by omega)).mono ?_; rintro e w16 ⟨rfl, rfl⟩)
    go_ret
    exact ⟨rfl, D0.trans (E15.mono (by simp))⟩
end Go.Proofs.YtlodaeoikkjbkaaDoor.fnExactDistancesFrom
