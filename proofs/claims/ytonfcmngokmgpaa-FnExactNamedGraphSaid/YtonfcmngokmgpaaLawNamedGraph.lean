/-
  laws.FnExactNamedGraph: the walk: for every argument that comes in the law returns true and leaves what was there.
-/
import Derived.Test.YtonfcmngokmgpaaPg
import Derived.Test.YtonfcmngokmgpaaNge
import Derived.Deep.RegionHeld3
import Derived.Deep.DeepCutAuto
namespace Go.Proofs.Ytonfcmngokmgpaa.fnExactNamedGraph
open Go.RowKit

theorem below_drew {B B' : Nat} {w w' : World} (h : Below B' w.drew w') (hB : B ≤ B') : Below B w w' := ((Below.refl B w).drew).trans (h.mono hB)
theorem kept_block {w w' : World} (h : Below w.heap.size w w') {k : Nat} {x : Obj} (hx : w.heap[k]? = some x) : w'.heap[k]? = some x := (h.block k (Array.getElem?_eq_some_iff.1 hx).1).trans hx

/-- Block k holds a pair. -/
def Box (w : World) (k : Nat) (x y : Value) (t : TypeId) : Prop := w.heap[k]? = some (.cells #[x, y] t (0, 0))
theorem Box.lt {w : World} {k : Nat} {x y : Value} {t : TypeId} (h : Box w k x y t) : k < w.heap.size := (Array.getElem?_eq_some_iff.1 h).1
theorem Box.new (w : World) (x y : Value) (t : TypeId) : Box (w.alloc (.cells #[x, y] t)) w.heap.size x y t := World.alloc_heap_new w _
theorem Box.below {w w' : World} {k : Nat} {x y : Value} {t : TypeId} (h : Box w k x y t) (hb : Below w.heap.size w w') : Box w' k x y t := (hb.block k h.lt).trans h
theorem Box.from {B : Nat} {w w' : World} {k : Nat} {x y : Value} {t : TypeId} (h : Box w k x y t) (hb : Below B w w') (hk : k < B) : Box w' k x y t := (hb.block k hk).trans h
theorem Box.alloc {w : World} {k : Nat} {x y : Value} {t : TypeId} (h : Box w k x y t) (o : Obj) : Box (w.alloc o) k x y t := h.below ((Below.refl _ _).alloc (Nat.le_refl _) o)
theorem Box.grown {w w' : World} {k : Nat} {x y : Value} {t : TypeId} {row : Option Nat} (h : Box w k x y t) (hg : w.grownBy w' row) (hne : some k ≠ row) : Box w' k x y t := (hg.block k h.lt hne).trans h
theorem Box.c0 {w : World} {k : Nat} {x y : Value} {t : TypeId} (h : Box w k x y t) : w.cell? ⟨k, 0, none⟩ = some x := (two_cells h).1
theorem Box.c1 {w : World} {k : Nat} {x y : Value} {t : TypeId} (h : Box w k x y t) : w.cell? ⟨k, 1, none⟩ = some y := (two_cells h).2.1
theorem blk_grown {w w' : World} {g : Nat} {zs : List Int} {row : Option Nat} (h : Blk w g zs) (hg : w.grownBy w' row) (hne : some g ≠ row) : Blk w' g zs := (hg.block g h.lt hne).trans h
theorem eqInts_same (v1 v2 : Value) (xs : List Int) (w : World) (h1 : Sl w v1 xs) (h2 : Sl w v2 xs) (hx : xs.length ≤ 9223372036854775807) :
    Calls Try.prog 21 #[v1, v2] w fun e w' => e = .returned (.bool true) ∧ Below w.heap.size w w' := by
  have := eqInts_any v1 v2 xs xs w h1 h2 hx
  simpa using this

theorem own_slice {w : World} {B : Nat} {u : Value} {L : List Int} (h : Own w B u L) : ∃ a l c, u = .slice a l c := by
  rcases h.form with ⟨rfl, _⟩ | ⟨g, cap, rfl, _⟩
  · exact ⟨_, _, _, rfl⟩
  · exact ⟨_, _, _, rfl⟩

theorem fin_alloc {w q : World} {B : Nat} {N : Int} {u : Value} {D : List Int} (hO : Own q B u D) (hc : w.heap.size ≤ B) (hB : Below w.heap.size w q) :
    Box (q.alloc (.cells #[.int .i64 N, u] 24)) q.heap.size (.int .i64 N) u 24 ∧ Own (q.alloc (.cells #[.int .i64 N, u] 24)) w.heap.size u D ∧ Below w.heap.size w (q.alloc (.cells #[.int .i64 N, u] 24)) ∧ w.heap.size ≤ q.heap.size ∧ u.ownBlock ≠ some q.heap.size :=
  ⟨Box.new q _ _ _, (hO.base hc).below ((Below.refl _ _).alloc (Nat.le_refl _) _), hB.alloc hB.size _, hB.size, fun e => by have := hO.lt _ e; omega⟩
theorem fin_set {w q : World} {b B : Nat} {N : Int} {u : Value} {D : List Int} (hO : Own q B u D) (hc : w.heap.size ≤ B) (hb : b < B) (hw : w.heap.size ≤ b) (RB : q.heap[b]? = some (.cells #[.int .i64 0, .slice none 0 0] 24 (0, 0))) (hB : Below w.heap.size w q) :
    Box ((q.setCell ⟨b, 0, none⟩ (.int .i64 N)).setCell ⟨b, 1, none⟩ u) b (.int .i64 N) u 24 ∧ Own ((q.setCell ⟨b, 0, none⟩ (.int .i64 N)).setCell ⟨b, 1, none⟩ u) w.heap.size u D ∧ Below w.heap.size w ((q.setCell ⟨b, 0, none⟩ (.int .i64 N)).setCell ⟨b, 1, none⟩ u) ∧ w.heap.size ≤ b ∧ u.ownBlock ≠ some b := by
  have hne : u.ownBlock ≠ some b := fun e => by have := hO.ge _ e; omega
  exact ⟨two_set RB, (hO.base hc).kept (grown_set (grown_set ⟨rfl, rfl, rfl, Nat.le_refl _, fun _ _ _ => rfl⟩ b 0 _) b 1 _) (.inr hne), (hB.setCell (p := ⟨b, 0, none⟩) hw _).setCell (p := ⟨b, 1, none⟩) hw _, hw, hne⟩

set_option maxHeartbeats 6400000 in
set_option maxRecDepth 100000 in
theorem law_yes (s : ByteArray) (w : World) (hs : s.size ≤ 1048576) :
    Calls Try.prog 3 #[.string s] w fun e w' => e = .returned (.bool true) ∧ Below w.heap.size w w' := by
  have hlen : ¬ (1048576 : Int) < (s.size : Int) := by omega
  have D0 : Below w.heap.size w w := Below.refl _ _
  have E0 : Below w.heap.size w w := Below.refl _ _
  obtain ⟨D, hd⟩ : ∃ d, d = NmL s := ⟨_, rfl⟩
  obtain ⟨N, hn⟩ : ∃ d, d = NmN s := ⟨_, rfl⟩
  obtain ⟨c, hc⟩ : ∃ c, c = NmC s := ⟨_, rfl⟩
  have hD20 : D.length ≤ 1048576 := by rw [hd]; exact NmL_length _
  have HD := Lib.hid hd; have HC := Lib.hid hc; have HN := Lib.hid hn
  clear  hd hc hn
  go_enter Try.func3, Try.ntmps3
  go_wp2_with fail
  have hcon := specNm_any s w
  go_wp2_with fail
  rw [← HD.out, ← HC.out, ← HN.out] at hcon
  refine hcon.mono ?_
  rintro e w1 ⟨⟨upw, rfl, hO1⟩, hb1⟩
  clear hcon
  obtain ⟨pwa, pwl, pwc, rfl⟩ := own_slice hO1
  have OW_1 : Hid (Own w1 w.heap.size (Value.slice pwa pwl pwc) D) := hO1
  have LOW : Hid (∀ k, (Value.slice pwa pwl pwc).ownBlock = some k → w.heap.size ≤ k ∧ k < w1.heap.size) := fun k e => ⟨hO1.ge k e, hO1.lt k e⟩
  clear hO1
  have e1 := hb1.size
  have E1 : Below w.heap.size w w1 := E0.trans (hb1.mono (by omega))
  clear hb1 E0 
  go_wp2_with fail
  obtain ⟨w2, h2⟩ : ∃ w', w' = w1.alloc (.cells #[.int .i64 N, (Value.slice pwa pwl pwc)] 24) := ⟨_, rfl⟩
  have Y_2 : Hid (Box w2 w1.heap.size (.int .i64 N) (Value.slice pwa pwl pwc) 24) := by rw [h2]; exact Box.new w1 _ _ _
  have hb2 : Below w1.heap.size w1 w2 := by rw [h2]; exact (Below.refl _ _).alloc (Nat.le_refl _) _
  rw [← h2]
  clear h2
  have e2 := hb2.size
  have E2 : Below w.heap.size w w2 := E1.trans (hb2.mono (by omega))
  have OW_2 := Lib.hid (OW_1.out.below hb2)
  clear hb2 E1 OW_1
  have lY : w1.heap.size < w2.heap.size := Y_2.out.lt
  have hcon := implNm_any s w2 (by unfold maxLen; omega)
  rw [← HD.out, ← HC.out, ← HN.out] at hcon
  refine hcon.mono ?_
  rintro e w3 ⟨⟨upg, rfl, hO3⟩, hb3⟩
  clear hcon
  obtain ⟨pga, pgl, pgc, rfl⟩ := own_slice hO3
  have OG_3 : Hid (Own w3 w2.heap.size (Value.slice pga pgl pgc) D) := hO3
  have LOG : Hid (∀ k, (Value.slice pga pgl pgc).ownBlock = some k → w2.heap.size ≤ k ∧ k < w3.heap.size) := fun k e => ⟨hO3.ge k e, hO3.lt k e⟩
  clear hO3
  have e3 := hb3.size
  have E3 : Below w.heap.size w w3 := E2.trans (hb3.mono (by omega))
  have OW_3 := Lib.hid (OW_2.out.below hb3)
  have Y_3 := Lib.hid (Y_2.out.below hb3)
  clear hb3 E2 OW_2 Y_2
  have y0 := (Box.alloc Y_3.out (.cells #[.int .i64 N, (Value.slice pga pgl pgc)] 24)).c0; have y1 := (Box.alloc Y_3.out (.cells #[.int .i64 N, (Value.slice pga pgl pgc)] 24)).c1
  go_wp2_with fail
  obtain ⟨w4, h4⟩ : ∃ w', w' = w3.alloc (.cells #[.int .i64 N, (Value.slice pga pgl pgc)] 24) := ⟨_, rfl⟩
  have Z_4 : Hid (Box w4 w3.heap.size (.int .i64 N) (Value.slice pga pgl pgc) 24) := by rw [h4]; exact Box.new w3 _ _ _
  have hb4 : Below w3.heap.size w3 w4 := by rw [h4]; exact (Below.refl _ _).alloc (Nat.le_refl _) _
  rw [← h4]
  clear h4
  have e4 := hb4.size
  have E4 : Below w.heap.size w w4 := E3.trans (hb4.mono (by omega))
  have OW_4 := Lib.hid (OW_3.out.below hb4)
  have Y_4 := Lib.hid (Y_3.out.below hb4)
  have OG_4 := Lib.hid (OG_3.out.below hb4)
  clear hb4 E3 OW_3 Y_3 OG_3
  have lZ : w3.heap.size < w4.heap.size := Z_4.out.lt
  clear y0 y1
  refine (eqGraph_same N (Value.slice pga pgl pgc) (Value.slice pwa pwl pwc) D w4 OG_4.out.sl OW_4.out.sl (by omega)).mono ?_
  rintro e w5 ⟨rfl, hb5⟩
  have e5 := hb5.size
  have E5 : Below w.heap.size w w5 := E4.trans (hb5.mono (by omega))
  have OW_5 := Lib.hid (OW_4.out.below hb5)
  have Y_5 := Lib.hid (Y_4.out.below hb5)
  have OG_5 := Lib.hid (OG_4.out.below hb5)
  have Z_5 := Lib.hid (Z_4.out.below hb5)
  clear hb5 E4 OW_4 Y_4 OG_4 Z_4
  have z0 := (Z_5.out).c0; have z1 := (Z_5.out).c1
  go_wp2_with fail
  refine (markGraph_any N (Value.slice pga pgl pgc) w2.heap.size D 1 w5 OG_5.out (by decide) (by decide) (by omega)).mono ?_
  rintro e w6 ⟨rfl, hOm, hb6⟩
  clear z0 z1
  have e6 := hb6.size
  have E6 : Below w.heap.size w w6 := E5.grown hb6 (by omega) (fun k e => by have := LOG.out _ e; omega)
  have OW_6 := Lib.hid (OW_5.out.kept hb6 (by (cases hu : (Value.slice pwa pwl pwc).ownBlock with | none => exact .inl rfl | some k => exact .inr fun e => by (have h1 := LOW.out _ hu; have h2 := LOG.out _ e.symm; omega))))
  have Y_6 := Lib.hid (Y_5.out.grown hb6 (fun e => by have := LOG.out _ e.symm; omega))
  have Z_6 := Lib.hid (Z_5.out.grown hb6 (fun e => by have := LOG.out _ e.symm; omega))
  clear hb6 E5 OW_5 Y_5 Z_5
  have OG_6 : Hid (Own w6 w2.heap.size (Value.slice pga pgl pgc) (markL 1 D.length)) := hOm
  clear hOm
  have hd0 : (0 : Int) ≤ 1 + (D.length : Int) := by omega
  have z0 := (Z_6.out).c0; have z1 := (Z_6.out).c1
  go_wp2_with fail
  clear z0 z1
  refine (heldGraph_any N (Value.slice pga pgl pgc) D.length 1 _ OG_6.out.sl (by decide) (by decide) (by omega)).mono ?_
  rintro e w7 ⟨rfl, hb7⟩
  have e7 := hb7.size
  have E7 : Below w.heap.size w w7 := E6.trans (hb7.mono (by omega))
  have OW_7 := Lib.hid (OW_6.out.below hb7)
  have Y_7 := Lib.hid (Y_6.out.below hb7)
  have Z_7 := Lib.hid (Z_6.out.below hb7)
  have OG_7 := Lib.hid (OG_6.out.below hb7)
  clear hb7 E6 OW_6 Y_6 Z_6 OG_6
  have hcon := implNm_any s w7 (by unfold maxLen; omega)
  go_wp2_with fail
  rw [← HD.out, ← HC.out, ← HN.out] at hcon
  refine hcon.mono ?_
  rintro e w8 ⟨⟨uph, rfl, hO8⟩, hb8⟩
  clear hcon
  obtain ⟨pha, phl, phc, rfl⟩ := own_slice hO8
  have OH_8 : Hid (Own w8 w7.heap.size (Value.slice pha phl phc) D) := hO8
  have LOH : Hid (∀ k, (Value.slice pha phl phc).ownBlock = some k → w7.heap.size ≤ k ∧ k < w8.heap.size) := fun k e => ⟨hO8.ge k e, hO8.lt k e⟩
  clear hO8
  have e8 := hb8.size
  have E8 : Below w.heap.size w w8 := E7.trans (hb8.mono (by omega))
  have OW_8 := Lib.hid (OW_7.out.below hb8)
  have Y_8 := Lib.hid (Y_7.out.below hb8)
  have Z_8 := Lib.hid (Z_7.out.below hb8)
  have OG_8 := Lib.hid (OG_7.out.below hb8)
  clear hb8 E7 OW_7 Y_7 Z_7 OG_7
  have y0 := (Box.alloc Y_8.out (.cells #[.int .i64 N, (Value.slice pha phl phc)] 24)).c0; have y1 := (Box.alloc Y_8.out (.cells #[.int .i64 N, (Value.slice pha phl phc)] 24)).c1
  go_wp2_with fail
  obtain ⟨w9, h9⟩ : ∃ w', w' = w8.alloc (.cells #[.int .i64 N, (Value.slice pha phl phc)] 24) := ⟨_, rfl⟩
  have V_9 : Hid (Box w9 w8.heap.size (.int .i64 N) (Value.slice pha phl phc) 24) := by rw [h9]; exact Box.new w8 _ _ _
  have hb9 : Below w8.heap.size w8 w9 := by rw [h9]; exact (Below.refl _ _).alloc (Nat.le_refl _) _
  rw [← h9]
  clear h9
  have e9 := hb9.size
  have E9 : Below w.heap.size w w9 := E8.trans (hb9.mono (by omega))
  have OW_9 := Lib.hid (OW_8.out.below hb9)
  have Y_9 := Lib.hid (Y_8.out.below hb9)
  have Z_9 := Lib.hid (Z_8.out.below hb9)
  have OG_9 := Lib.hid (OG_8.out.below hb9)
  have OH_9 := Lib.hid (OH_8.out.below hb9)
  clear hb9 E8 OW_8 Y_8 Z_8 OG_8 OH_8
  have lV : w8.heap.size < w9.heap.size := V_9.out.lt
  clear y0 y1
  refine (eqGraph_same N (Value.slice pha phl phc) (Value.slice pwa pwl pwc) D w9 OH_9.out.sl OW_9.out.sl (by omega)).mono ?_
  rintro e w10 ⟨rfl, hb10⟩
  have e10 := hb10.size
  have E10 : Below w.heap.size w w10 := E9.trans (hb10.mono (by omega))
  have OW_10 := Lib.hid (OW_9.out.below hb10)
  have Y_10 := Lib.hid (Y_9.out.below hb10)
  have Z_10 := Lib.hid (Z_9.out.below hb10)
  have OG_10 := Lib.hid (OG_9.out.below hb10)
  have OH_10 := Lib.hid (OH_9.out.below hb10)
  have V_10 := Lib.hid (V_9.out.below hb10)
  clear hb10 E9 OW_9 Y_9 Z_9 OG_9 OH_9 V_9
  have z0 := (Z_10.out).c0; have z1 := (Z_10.out).c1
  go_wp2_with fail
  clear z0 z1
  refine (heldGraph_any N (Value.slice pga pgl pgc) D.length 1 _ OG_10.out.sl (by decide) (by decide) (by omega)).mono ?_
  rintro e w11 ⟨rfl, hb11⟩
  have e11 := hb11.size
  have E11 : Below w.heap.size w w11 := E10.trans (hb11.mono (by omega))
  have OW_11 := Lib.hid (OW_10.out.below hb11)
  have Y_11 := Lib.hid (Y_10.out.below hb11)
  have Z_11 := Lib.hid (Z_10.out.below hb11)
  have OG_11 := Lib.hid (OG_10.out.below hb11)
  have OH_11 := Lib.hid (OH_10.out.below hb11)
  have V_11 := Lib.hid (V_10.out.below hb11)
  clear hb11 E10 OW_10 Y_10 Z_10 OG_10 OH_10 V_10
  go_wp2_with fail
  go_ret
  exact ⟨rfl, D0.trans (E11.mono D0.size)⟩

set_option maxHeartbeats 800000 in
set_option maxRecDepth 100000 in
theorem law (s : ByteArray) (w : World) :
    Calls Try.prog 3 #[.string s] w fun e w' => e = .returned (.bool true) ∧ Below w.heap.size w w' := by
  by_cases hs : s.size ≤ 1048576
  · exact law_yes s w hs
  · have hlen : (1048576 : Int) < (s.size : Int) := by omega
    go_enter Try.func3, Try.ntmps3
    go_wp2_with fail
    go_ret
    exact ⟨rfl, Below.refl _ _⟩
end Go.Proofs.Ytonfcmngokmgpaa.fnExactNamedGraph
