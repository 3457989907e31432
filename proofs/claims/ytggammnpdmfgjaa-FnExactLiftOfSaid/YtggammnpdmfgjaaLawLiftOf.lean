/-
  laws.FnExactLiftOf: the walk: for every base value that comes in the law returns true and leaves what was there.
-/
import Derived.Test.YtggammnpdmfgjaaMa6
import Derived.Test.YtggammnpdmfgjaaLk
import Derived.Deep.RegionHeld3
import Derived.Deep.DeepCutAuto
namespace Go.Proofs.Ytggammnpdmfgjaa.fnExactLiftOf
open Go.RowKit

theorem kept_block {w w' : World} (h : Below w.heap.size w w') {k : Nat} {x : Obj} (hx : w.heap[k]? = some x) : w'.heap[k]? = some x := (h.block k (Array.getElem?_eq_some_iff.1 hx).1).trans hx

/-- Block k holds a pair. -/
def Box (w : World) (k : Nat) (x y : Value) (t : TypeId) : Prop := w.heap[k]? = some (.cells #[x, y] t (0, 0))
theorem Box.lt {w : World} {k : Nat} {x y : Value} {t : TypeId} (h : Box w k x y t) : k < w.heap.size := (Array.getElem?_eq_some_iff.1 h).1
theorem Box.new (w : World) (x y : Value) (t : TypeId) : Box (w.alloc (.cells #[x, y] t)) w.heap.size x y t := World.alloc_heap_new w _
theorem Box.below {w w' : World} {k : Nat} {x y : Value} {t : TypeId} (h : Box w k x y t) (hb : Below w.heap.size w w') : Box w' k x y t := (hb.block k h.lt).trans h
theorem Box.from {B : Nat} {w w' : World} {k : Nat} {x y : Value} {t : TypeId} (h : Box w k x y t) (hb : Below B w w') (hk : k < B) : Box w' k x y t := (hb.block k hk).trans h
theorem Box.alloc {w : World} {k : Nat} {x y : Value} {t : TypeId} (h : Box w k x y t) (o : Obj) : Box (w.alloc o) k x y t := h.below ((Below.refl _ _).alloc (Nat.le_refl _) o)
theorem Box.grown {w w' : World} {k : Nat} {x y : Value} {t : TypeId} {row : Option Nat} (h : Box w k x y t) (hg : w.grownBy w' row) (hne : some k ≠ row) : Box w' k x y t := (hg.block k h.lt hne).trans h
theorem Box.c0 {w : World} {k : Nat} {x y : Value} {t : TypeId} (h : Box w k x y t) : w.cell? ⟨k, 0, none⟩ = some x := (two_cells h).1
theorem Box.c1 {w : World} {k : Nat} {x y : Value} {t : TypeId} (h : Box w k x y t) : w.cell? ⟨k, 1, none⟩ = some y := (two_cells h).2.1
theorem blk_grown {w w' : World} {g : Nat} {zs : List Int} {row : Option Nat} (h : Blk w g zs) (hg : w.grownBy w' row) (hne : some g ≠ row) : Blk w' g zs := (hg.block g h.lt hne).trans h
theorem eqInts_same (v1 v2 : Value) (xs : List Int) (w : World) (h1 : Sl w v1 xs) (h2 : Sl w v2 xs) (hx : xs.length ≤ 9223372036854775807) :
    Calls Try.prog 30 #[v1, v2] w fun e w' => e = .returned (.bool true) ∧ Below w.heap.size w w' := by
  have := eqInts_any v1 v2 xs xs w h1 h2 hx
  simpa using this

theorem own_slice {w : World} {B : Nat} {u : Value} {L : List Int} (h : Own w B u L) : ∃ a l c, u = .slice a l c := by
  rcases h.form with ⟨rfl, _⟩ | ⟨g, cap, rfl, _⟩
  · exact ⟨_, _, _, rfl⟩
  · exact ⟨_, _, _, rfl⟩

/-- Block k holds a base. -/
def BBox (w : World) (k : Nat) (n m : Int) (v : Value) : Prop := w.heap[k]? = some (.cells #[.int .i64 n, .int .i64 m, v] 33 (0, 0))
theorem BBox.lt {w : World} {k : Nat} {n m : Int} {v : Value} (h : BBox w k n m v) : k < w.heap.size := (Array.getElem?_eq_some_iff.1 h).1
theorem BBox.new (w : World) (n m : Int) (v : Value) : BBox (w.alloc (.cells #[.int .i64 n, .int .i64 m, v] 33)) w.heap.size n m v := World.alloc_heap_new w _
theorem BBox.below {w w' : World} {k : Nat} {n m : Int} {v : Value} (h : BBox w k n m v) (hb : Below w.heap.size w w') : BBox w' k n m v := (hb.block k h.lt).trans h
theorem BBox.grown {w w' : World} {k : Nat} {n m : Int} {v : Value} {row : Option Nat} (h : BBox w k n m v) (hg : w.grownBy w' row) (hne : some k ≠ row) : BBox w' k n m v := (hg.block k h.lt hne).trans h
theorem ablk_grown {w w' : World} {g : Nat} {zs : List Int} {row : Option Nat} (h : ABlk w g zs) (hg : w.grownBy w' row) (hne : some g ≠ row) : ABlk w' g zs := (hg.block g h.lt hne).trans h
theorem below_drew2 {B B' : Nat} {w w' : World} (h : Below B' w.drew w') (hB : B ≤ B') : Below B w w' := ((Below.refl B w).drew).trans (h.mono hB)

set_option maxHeartbeats 6400000 in
set_option maxRecDepth 100000 in
theorem law (n m : Int) (v : Value) (ka : Nat) (fs : List Int) (w : World) (hs : Sa w v ka fs) (hl : ka ≤ 9223372036854775807) :
    Calls Try.prog 3 #[.agg #[.int .i64 n, .int .i64 m, v]] w fun e w' => e = .returned (.bool true) ∧ Below w.heap.size w w' := by
  have HS := Lib.hid hs; clear hs
  have D0' : Below w.heap.size w (w.alloc (.cells #[.int .i64 n, .int .i64 m, v] 24)) := (Below.refl _ _).alloc (Nat.le_refl _) _
  have hsz := szBase_any n m v ka fs 1048576 (w.alloc (.cells #[.int .i64 n, .int .i64 m, v] 24)) (HS.out.below D0') (by decide) (by decide) hl
  by_cases hbig : (1048576 : Int) < ka
  · rw [if_pos hbig] at hsz
    clear hbig
    go_enter Try.func3, Try.ntmps3
    go_wp2_with (go_at_call 7; refine hsz.mono ?_; rintro e w1 ⟨rfl, hb1⟩)
    go_ret
    exact ⟨rfl, D0'.trans (hb1.mono (by simp))⟩
  · rw [if_neg hbig] at hsz
    have hl20 : ka ≤ 1048576 := by omega
    have hsub0 : (0 : Int) ≤ 1048576 - ka := by omega
    obtain ⟨A, hA⟩ : ∃ A, A = w.alloc (.cells #[.int .i64 n, .int .i64 m, v] 24) := ⟨_, rfl⟩
    have HB0 : Hid (A.heap[w.heap.size]? = some (.cells #[.int .i64 n, .int .i64 m, v] 24 (0, 0))) := by rw [hA]; exact World.alloc_heap_new w _
    have D0 : Below w.heap.size w A := by rw [hA]; exact D0'
    have sA : w.heap.size + 1 ≤ A.heap.size := by rw [hA]; simp
    rw [← hA] at hsz
    have HSZ := Lib.hid hsz
    obtain ⟨D, hd⟩ : ∃ d, d = LfL n m ka fs := ⟨_, rfl⟩
    obtain ⟨N, hn⟩ : ∃ d, d = LfN n m ka fs := ⟨_, rfl⟩
    obtain ⟨c, hc⟩ : ∃ c, c = LfC n m ka fs := ⟨_, rfl⟩
    have hD20 : D.length ≤ 1048576 := by rw [hd]; exact Nat.le_trans (LfL_length _ _ _ _) (by omega)
    have HD := Lib.hid hd; have HC := Lib.hid hc; have HN := Lib.hid hn
    clear hbig hd hc hn hsz D0'
    go_enter Try.func3, Try.ntmps3
    go_wp2_with fail
    rw [← hA]
    clear hA
    refine HSZ.out.mono ?_
    rintro e w1 ⟨rfl, E1⟩
    have e1 := E1.size
    have S_1 : Hid (Sa w1 v ka fs) := HS.out.below (D0.trans (E1.mono (by omega)))
    clear HSZ
    obtain ⟨⟨a0, a1, a2⟩, -⟩ := three_cells ((E1.block w.heap.size (by omega)).trans HB0.out)
    go_wp2_with fail
    refine (toBase_any n m v ka fs w1 S_1.out hl20).mono ?_
    rintro e w2 ⟨rfl, hB2, hb2⟩
    have hcon := specLf_any n m (.slice (some ⟨w1.heap.size + 3, 0, none⟩) ka ka) ka fs w2 (hB2.sa HS.out.1 _) hl
    clear hB2
    have e2 := hb2.size
    have E2 : Below A.heap.size A w2 := E1.trans (hb2.mono (by omega))
    have S_2 := Lib.hid (S_1.out.below hb2)
    clear hb2 E1 S_1
    obtain ⟨⟨a0, a1, a2⟩, -⟩ := three_cells ((E2.block w.heap.size (by omega)).trans HB0.out)
    go_wp2_with fail
    rw [← HD.out, ← HC.out, ← HN.out] at hcon
    refine (hcon).mono ?_
    rintro e w3 ⟨⟨upw, rfl, hO3⟩, hb3⟩
    clear hcon
    obtain ⟨pwa, pwl, pwc, rfl⟩ := own_slice hO3
    have OW_3 : Hid (Own w3 w2.heap.size (Value.slice pwa pwl pwc) D) := hO3
    have LOW : Hid (∀ k, (Value.slice pwa pwl pwc).ownBlock = some k → w2.heap.size ≤ k ∧ k < w3.heap.size) := fun k e => ⟨hO3.ge k e, hO3.lt k e⟩
    clear hO3
    have e3 := hb3.size
    have E3 : Below A.heap.size A w3 := E2.trans (hb3.mono (by omega))
    have S_3 := Lib.hid (S_2.out.below hb3)
    clear hb3 E2 S_2
    obtain ⟨⟨a0, a1, a2⟩, -⟩ := three_cells ((E3.block w.heap.size (by omega)).trans HB0.out)
    have q1 : w.heap.size < w3.heap.size := by omega
    have q2 : ¬ w.heap.size = w3.heap.size := by omega
    have q3 : ¬ w3.heap.size = w.heap.size := by omega
    go_wp2_with fail
    clear q1 q2 q3
    obtain ⟨w4, h4⟩ : ∃ w', w' = w3.alloc (.cells #[.int .i64 N, (Value.slice pwa pwl pwc)] 28) := ⟨_, rfl⟩
    have Y_4 : Hid (Box w4 w3.heap.size (.int .i64 N) (Value.slice pwa pwl pwc) 28) := by rw [h4]; exact Box.new w3 _ _ _
    have hb4 : Below w3.heap.size w3 w4 := by rw [h4]; exact (Below.refl _ _).alloc (Nat.le_refl _) _
    rw [← h4]
    clear h4
    have e4 := hb4.size
    have E4 : Below A.heap.size A w4 := E3.trans (hb4.mono (by omega))
    have S_4 := Lib.hid (S_3.out.below hb4)
    have OW_4 := Lib.hid (OW_3.out.below hb4)
    clear hb4 E3 S_3 OW_3
    have lY : w3.heap.size < w4.heap.size := Y_4.out.lt
    obtain ⟨⟨a0, a1, a2⟩, -⟩ := three_cells ((E4.block w.heap.size (by omega)).trans HB0.out)
    try go_wp2_with fail
    refine (toBase_any n m v ka fs w4 S_4.out hl20).mono ?_
    rintro e w5 ⟨rfl, hB5, hb5⟩
    have B_5 := Lib.hid hB5
    clear hB5
    have e5 := hb5.size
    have E5 : Below A.heap.size A w5 := E4.trans (hb5.mono (by omega))
    have S_5 := Lib.hid (S_4.out.below hb5)
    have OW_5 := Lib.hid (OW_4.out.below hb5)
    have Y_5 := Lib.hid (Y_4.out.below hb5)
    clear hb5 E4 S_4 OW_4 Y_4
    obtain ⟨⟨a0, a1, a2⟩, -⟩ := three_cells ((E5.block w.heap.size (by omega)).trans HB0.out)
    go_wp2_with fail
    obtain ⟨w6, h6⟩ : ∃ w', w' = w5.alloc (.cells #[.int .i64 n, .int .i64 m, (.slice (some ⟨w4.heap.size + 3, 0, none⟩) ka ka)] 33) := ⟨_, rfl⟩
    have X_6 : Hid (BBox w6 w5.heap.size n m (.slice (some ⟨w4.heap.size + 3, 0, none⟩) ka ka)) := by rw [h6]; exact BBox.new w5 _ _ _
    have hb6 : Below w5.heap.size w5 w6 := by rw [h6]; exact (Below.refl _ _).alloc (Nat.le_refl _) _
    rw [← h6]
    clear h6
    have e6 := hb6.size
    have E6 : Below A.heap.size A w6 := E5.trans (hb6.mono (by omega))
    have S_6 := Lib.hid (S_5.out.below hb6)
    have OW_6 := Lib.hid (OW_5.out.below hb6)
    have Y_6 := Lib.hid (Y_5.out.below hb6)
    have B_6 := Lib.hid (B_5.out.belowAll hb6)
    clear hb6 E5 S_5 OW_5 Y_5 B_5
    have lX : w5.heap.size < w6.heap.size := X_6.out.lt
    have lB : w4.heap.size + 3 < w6.heap.size := B_6.out.lt
    obtain ⟨⟨a0, a1, a2⟩, -⟩ := three_cells ((E6.block w.heap.size (by omega)).trans HB0.out)
    obtain ⟨⟨x0, x1, x2⟩, -⟩ := three_cells X_6.out
    have hcon := implLf_any n m (.slice (some ⟨w4.heap.size + 3, 0, none⟩) ka ka) ka fs w6 (B_6.out.sa HS.out.1 _) hl
    try go_wp2_with fail
    rw [← HD.out, ← HC.out, ← HN.out] at hcon
    refine (hcon).mono ?_
    rintro e w7 ⟨⟨upg, rfl, hO7⟩, hb7⟩
    clear hcon
    obtain ⟨pga, pgl, pgc, rfl⟩ := own_slice hO7
    have OG_7 : Hid (Own w7 w6.heap.size (Value.slice pga pgl pgc) D) := hO7
    have LOG : Hid (∀ k, (Value.slice pga pgl pgc).ownBlock = some k → w6.heap.size ≤ k ∧ k < w7.heap.size) := fun k e => ⟨hO7.ge k e, hO7.lt k e⟩
    clear hO7
    have e7 := hb7.size
    have E7 : Below A.heap.size A w7 := E6.trans (hb7.mono (by omega))
    have S_7 := Lib.hid (S_6.out.below hb7)
    have OW_7 := Lib.hid (OW_6.out.below hb7)
    have Y_7 := Lib.hid (Y_6.out.below hb7)
    have B_7 := Lib.hid (B_6.out.belowAll hb7)
    have X_7 := Lib.hid (X_6.out.below hb7)
    clear hb7 E6 S_6 OW_6 Y_6 B_6 X_6
    obtain ⟨⟨a0, a1, a2⟩, -⟩ := three_cells ((E7.block w.heap.size (by omega)).trans HB0.out)
    obtain ⟨⟨x0, x1, x2⟩, -⟩ := three_cells X_7.out
    have y0 := (Box.alloc Y_7.out (.cells #[.int .i64 N, (Value.slice pga pgl pgc)] 28)).c0; have y1 := (Box.alloc Y_7.out (.cells #[.int .i64 N, (Value.slice pga pgl pgc)] 28)).c1
    go_wp2_with fail
    obtain ⟨w8, h8⟩ : ∃ w', w' = w7.alloc (.cells #[.int .i64 N, (Value.slice pga pgl pgc)] 28) := ⟨_, rfl⟩
    have Z_8 : Hid (Box w8 w7.heap.size (.int .i64 N) (Value.slice pga pgl pgc) 28) := by rw [h8]; exact Box.new w7 _ _ _
    have hb8 : Below w7.heap.size w7 w8 := by rw [h8]; exact (Below.refl _ _).alloc (Nat.le_refl _) _
    rw [← h8]
    clear h8
    have e8 := hb8.size
    have E8 : Below A.heap.size A w8 := E7.trans (hb8.mono (by omega))
    have S_8 := Lib.hid (S_7.out.below hb8)
    have OW_8 := Lib.hid (OW_7.out.below hb8)
    have Y_8 := Lib.hid (Y_7.out.below hb8)
    have B_8 := Lib.hid (B_7.out.belowAll hb8)
    have X_8 := Lib.hid (X_7.out.below hb8)
    have OG_8 := Lib.hid (OG_7.out.below hb8)
    clear hb8 E7 S_7 OW_7 Y_7 B_7 X_7 OG_7
    have lZ : w7.heap.size < w8.heap.size := Z_8.out.lt
    clear y0 y1
    refine (eqGraph_same N (Value.slice pga pgl pgc) (Value.slice pwa pwl pwc) D w8 OG_8.out.sl OW_8.out.sl (by omega)).mono ?_
    rintro e w9 ⟨rfl, hb9⟩
    have e9 := hb9.size
    have E9 : Below A.heap.size A w9 := E8.trans (hb9.mono (by omega))
    have S_9 := Lib.hid (S_8.out.below hb9)
    have OW_9 := Lib.hid (OW_8.out.below hb9)
    have Y_9 := Lib.hid (Y_8.out.below hb9)
    have B_9 := Lib.hid (B_8.out.belowAll hb9)
    have X_9 := Lib.hid (X_8.out.below hb9)
    have OG_9 := Lib.hid (OG_8.out.below hb9)
    have Z_9 := Lib.hid (Z_8.out.below hb9)
    clear hb9 E8 S_8 OW_8 Y_8 B_8 X_8 OG_8 Z_8
    obtain ⟨⟨a0, a1, a2⟩, -⟩ := three_cells ((E9.block w.heap.size (by omega)).trans HB0.out)
    obtain ⟨⟨x0, x1, x2⟩, -⟩ := three_cells X_9.out
    go_wp2_with fail
    go_region_held3 (fun w' => w'.cell? ⟨w.heap.size, 0, none⟩ = some (.int .i64 n) ∧ w'.cell? ⟨w.heap.size, 1, none⟩ = some (.int .i64 m) ∧ w'.cell? ⟨w.heap.size, 2, none⟩ = some v ∧ w'.cell? ⟨w5.heap.size, 0, none⟩ = some (.int .i64 n) ∧ w'.cell? ⟨w5.heap.size, 1, none⟩ = some (.int .i64 m) ∧ w'.cell? ⟨w5.heap.size, 2, none⟩ = some (.slice (some ⟨w4.heap.size + 3, 0, none⟩) ka ka))
      (go_keep)
      (first | (go_at_call 9; refine (toBase_any n m v ka fs _ (S_9.out.below ((Below.refl _ _).drew)) hl20).mono ?_; rintro e w10 ⟨rfl, hB10, hb10⟩; have HB10 := Lib.hid hB10; have hb10' : Below w9.heap.size w9 w10 := below_drew2 hb10 (by simp); obtain ⟨⟨a0, a1, a2⟩, -⟩ := three_cells (((E9.trans (hb10'.mono (by omega))).block w.heap.size (by omega)).trans HB0.out); obtain ⟨⟨x0, x1, x2⟩, -⟩ := three_cells (X_9.out.below hb10'); have B10 := B_9.out.belowAll hb10'; clear hB10) | (go_at_call 12; refine (eqBase_same n m _ _ ka fs _ (B10.sa HS.out.1 _) (HB10.out.sa HS.out.1 _) hl).mono ?_; rintro e w11 ⟨rfl, hb11⟩; have hb11' : Below w9.heap.size w9 w11 := hb10'.trans (hb11.mono hb10'.size); obtain ⟨⟨a0, a1, a2⟩, -⟩ := three_cells (((E9.trans (hb11'.mono (by omega))).block w.heap.size (by omega)).trans HB0.out); obtain ⟨⟨x0, x1, x2⟩, -⟩ := three_cells (X_9.out.below hb11')))
    have e11 := hb11'.size
    have E11 : Below A.heap.size A w11 := E9.trans (hb11'.mono (by omega))
    have S_11 := Lib.hid (S_9.out.below hb11')
    have OW_11 := Lib.hid (OW_9.out.below hb11')
    have Y_11 := Lib.hid (Y_9.out.below hb11')
    have B_11 := Lib.hid (B_9.out.belowAll hb11')
    have X_11 := Lib.hid (X_9.out.below hb11')
    have OG_11 := Lib.hid (OG_9.out.below hb11')
    have Z_11 := Lib.hid (Z_9.out.below hb11')
    clear hb11' hb11 hb10 hb10' HB10 B10 E9 S_9 OW_9 Y_9 B_9 X_9 OG_9 Z_9
    have hmx := markBase_any n m (w4.heap.size + 3) ka ka fs 1 w11 B_11.out HS.out.1 (by decide) (by decide) hl20
    go_wp2_with fail
    refine hmx.mono ?_
    rintro e w12 ⟨rfl, hg12⟩
    have hg12' : w11.grownBy w12 (some (w4.heap.size + 3)) := hg12
    have e12 := hg12'.size
    have E12 : Below A.heap.size A w12 := E11.grown hg12' (by omega) (fun k e => by cases e; omega)
    have S_12 : Hid (Sa w12 v ka fs) := HS.out.below (D0.trans (E12.mono (by omega)))
    have OW_12 := Lib.hid (OW_11.out.kept hg12' (by
      cases hu : (Value.slice pwa pwl pwc).ownBlock with
      | none => exact .inl rfl
      | some k => refine .inr fun e => ?_; cases e; have := LOW.out _ hu; omega))
    have OG_12 := Lib.hid (OG_11.out.kept hg12' (by
      cases hu : (Value.slice pga pgl pgc).ownBlock with
      | none => exact .inl rfl
      | some k => refine .inr fun e => ?_; cases e; have := LOG.out _ hu; omega))
    have Y_12 := Lib.hid (Y_11.out.grown hg12' (fun e => by injection e with e; omega))
    have Z_12 := Lib.hid (Z_11.out.grown hg12' (fun e => by injection e with e; omega))
    clear hg12 hg12' hmx E11 S_11 OW_11 OG_11 Y_11 Z_11 B_11 X_11 x0 x1 x2
    obtain ⟨⟨a0, a1, a2⟩, -⟩ := three_cells ((E12.block w.heap.size (by omega)).trans HB0.out)
    have y0 := Y_12.out.c0; have y1 := Y_12.out.c1; have z0 := Z_12.out.c0; have z1 := Z_12.out.c1
    go_wp2_with fail
    refine (eqGraph_same N (Value.slice pga pgl pgc) (Value.slice pwa pwl pwc) D w12 OG_12.out.sl OW_12.out.sl (by omega)).mono ?_
    rintro e w13 ⟨rfl, hb13⟩
    clear y0 y1 z0 z1
    have e13 := hb13.size
    have E13 : Below A.heap.size A w13 := E12.trans (hb13.mono (by omega))
    have S_13 := Lib.hid (S_12.out.below hb13)
    have OW_13 := Lib.hid (OW_12.out.below hb13)
    have Y_13 := Lib.hid (Y_12.out.below hb13)
    have OG_13 := Lib.hid (OG_12.out.below hb13)
    have Z_13 := Lib.hid (Z_12.out.below hb13)
    clear hb13 E12 S_12 OW_12 Y_12 OG_12 Z_12
    obtain ⟨⟨a0, a1, a2⟩, -⟩ := three_cells ((E13.block w.heap.size (by omega)).trans HB0.out)
    have z0 := Z_13.out.c0; have z1 := Z_13.out.c1
    go_wp2_with fail
    refine (markGraph_any N (Value.slice pga pgl pgc) w6.heap.size D 1 w13 OG_13.out (by decide) (by decide) (by omega)).mono ?_
    rintro e w14 ⟨rfl, hOm, hb14⟩
    clear z0 z1
    have e14 := hb14.size
    have E14 : Below A.heap.size A w14 := E13.grown hb14 (by omega) (fun k e => by have := LOG.out _ e; omega)
    have S_14 : Hid (Sa w14 v ka fs) := HS.out.below (D0.trans (E14.mono (by omega)))
    have OW_14 := Lib.hid (OW_13.out.kept hb14 (by (cases hu : (Value.slice pwa pwl pwc).ownBlock with | none => exact .inl rfl | some k => exact .inr fun e => by (have h1 := LOW.out _ hu; have h2 := LOG.out _ e.symm; omega))))
    have Y_14 := Lib.hid (Y_13.out.grown hb14 (fun e => by have := LOG.out _ e.symm; omega))
    have Z_14 := Lib.hid (Z_13.out.grown hb14 (fun e => by have := LOG.out _ e.symm; omega))
    clear hb14 E13 S_13 OW_13 Y_13 Z_13
    have OG_14 : Hid (Own w14 w6.heap.size (Value.slice pga pgl pgc) (markL 1 D.length)) := hOm
    clear hOm
    have hd0 : (0 : Int) ≤ 1 + (D.length : Int) := by omega
    have z0 := Z_14.out.c0; have z1 := Z_14.out.c1
    obtain ⟨⟨a0, a1, a2⟩, -⟩ := three_cells ((E14.block w.heap.size (by omega)).trans HB0.out)
    go_wp2_with fail
    clear z0 z1
    refine (heldGraph_any N (Value.slice pga pgl pgc) D.length 1 _ OG_14.out.sl (by decide) (by decide) (by omega)).mono ?_
    rintro e w15 ⟨rfl, hb15⟩
    have e15 := hb15.size
    have E15 : Below A.heap.size A w15 := E14.trans (hb15.mono (by omega))
    have S_15 := Lib.hid (S_14.out.below hb15)
    have OW_15 := Lib.hid (OW_14.out.below hb15)
    have Y_15 := Lib.hid (Y_14.out.below hb15)
    have OG_15 := Lib.hid (OG_14.out.below hb15)
    have Z_15 := Lib.hid (Z_14.out.below hb15)
    clear hb15 E14 S_14 OW_14 Y_14 OG_14 Z_14
    obtain ⟨⟨a0, a1, a2⟩, -⟩ := three_cells ((E15.block w.heap.size (by omega)).trans HB0.out)
    go_wp2_with fail
    refine (toBase_any n m v ka fs w15 S_15.out hl20).mono ?_
    rintro e w16 ⟨rfl, hB16, hb16⟩
    have hcon := implLf_any n m (.slice (some ⟨w15.heap.size + 3, 0, none⟩) ka ka) ka fs w16 (hB16.sa HS.out.1 _) hl
    clear hB16
    have e16 := hb16.size
    have E16 : Below A.heap.size A w16 := E15.trans (hb16.mono (by omega))
    have S_16 := Lib.hid (S_15.out.below hb16)
    have OW_16 := Lib.hid (OW_15.out.below hb16)
    have Y_16 := Lib.hid (Y_15.out.below hb16)
    have OG_16 := Lib.hid (OG_15.out.below hb16)
    have Z_16 := Lib.hid (Z_15.out.below hb16)
    clear hb16 E15 S_15 OW_15 Y_15 OG_15 Z_15
    obtain ⟨⟨a0, a1, a2⟩, -⟩ := three_cells ((E16.block w.heap.size (by omega)).trans HB0.out)
    go_wp2_with fail
    rw [← HD.out, ← HC.out, ← HN.out] at hcon
    refine (hcon).mono ?_
    rintro e w17 ⟨⟨uph, rfl, hO17⟩, hb17⟩
    clear hcon
    obtain ⟨pha, phl, phc, rfl⟩ := own_slice hO17
    have OH_17 : Hid (Own w17 w16.heap.size (Value.slice pha phl phc) D) := hO17
    clear hO17
    have e17 := hb17.size
    have E17 : Below A.heap.size A w17 := E16.trans (hb17.mono (by omega))
    have S_17 := Lib.hid (S_16.out.below hb17)
    have OW_17 := Lib.hid (OW_16.out.below hb17)
    have Y_17 := Lib.hid (Y_16.out.below hb17)
    have OG_17 := Lib.hid (OG_16.out.below hb17)
    have Z_17 := Lib.hid (Z_16.out.below hb17)
    clear hb17 E16 S_16 OW_16 Y_16 OG_16 Z_16
    have y0 := (Box.alloc Y_17.out (.cells #[.int .i64 N, (Value.slice pha phl phc)] 28)).c0; have y1 := (Box.alloc Y_17.out (.cells #[.int .i64 N, (Value.slice pha phl phc)] 28)).c1
    go_wp2_with fail
    obtain ⟨w18, h18⟩ : ∃ w', w' = w17.alloc (.cells #[.int .i64 N, (Value.slice pha phl phc)] 28) := ⟨_, rfl⟩
    have V_18 : Hid (Box w18 w17.heap.size (.int .i64 N) (Value.slice pha phl phc) 28) := by rw [h18]; exact Box.new w17 _ _ _
    have hb18 : Below w17.heap.size w17 w18 := by rw [h18]; exact (Below.refl _ _).alloc (Nat.le_refl _) _
    rw [← h18]
    clear h18
    have e18 := hb18.size
    have E18 : Below A.heap.size A w18 := E17.trans (hb18.mono (by omega))
    have S_18 := Lib.hid (S_17.out.below hb18)
    have OW_18 := Lib.hid (OW_17.out.below hb18)
    have Y_18 := Lib.hid (Y_17.out.below hb18)
    have OG_18 := Lib.hid (OG_17.out.below hb18)
    have Z_18 := Lib.hid (Z_17.out.below hb18)
    have OH_18 := Lib.hid (OH_17.out.below hb18)
    clear hb18 E17 S_17 OW_17 Y_17 OG_17 Z_17 OH_17
    clear y0 y1
    refine (eqGraph_same N (Value.slice pha phl phc) (Value.slice pwa pwl pwc) D w18 OH_18.out.sl OW_18.out.sl (by omega)).mono ?_
    rintro e w19 ⟨rfl, hb19⟩
    have e19 := hb19.size
    have E19 : Below A.heap.size A w19 := E18.trans (hb19.mono (by omega))
    have S_19 := Lib.hid (S_18.out.below hb19)
    have OW_19 := Lib.hid (OW_18.out.below hb19)
    have Y_19 := Lib.hid (Y_18.out.below hb19)
    have OG_19 := Lib.hid (OG_18.out.below hb19)
    have Z_19 := Lib.hid (Z_18.out.below hb19)
    have OH_19 := Lib.hid (OH_18.out.below hb19)
    have V_19 := Lib.hid (V_18.out.below hb19)
    clear hb19 E18 S_18 OW_18 Y_18 OG_18 Z_18 OH_18 V_18
    have z0 := Z_19.out.c0; have z1 := Z_19.out.c1
    go_wp2_with fail
    clear z0 z1
    refine (heldGraph_any N (Value.slice pga pgl pgc) D.length 1 _ OG_19.out.sl (by decide) (by decide) (by omega)).mono ?_
    rintro e w20 ⟨rfl, hb20⟩
    have E20 : Below A.heap.size A w20 := E19.trans (hb20.mono (by omega))
    go_wp2_with fail
    go_ret
    exact ⟨rfl, D0.trans (E20.mono (by omega))⟩
end Go.Proofs.Ytggammnpdmfgjaa.fnExactLiftOf
