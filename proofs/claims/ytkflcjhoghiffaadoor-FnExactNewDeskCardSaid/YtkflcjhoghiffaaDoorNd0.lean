/-
  Desks on the plain base: the laws' helpers that compare, mark and hold them; spec.l01Put.
-/
import Derived.Test.YtkflcjhoghiffaaDoorRg
import Derived.Test.YtkflcjhoghiffaaDoorDh8
import Derived.Deep.RegionWith
import Derived.Deep.DeepCutAuto
namespace Go.Proofs.YtkflcjhoghiffaaDoor
set_option maxRecDepth 100000
open Go.RowKit

set_option maxHeartbeats 1600000 in
theorem put_some (N : Int) (g m : Nat) (L : List Int) (a b : Nat) (w : World) (hm : L.length = m) (h : Blk w g L) (ha : a < m) (hb : b < m) (hl : m ≤ 62) (hz : ∀ i, i < m → 0 ≤ el L i ∧ el L i ≤ 2 ^ m - 1) :
    Calls Tryd.prog 41 #[.agg #[.int .i64 N, .slice (some ⟨g, 0, none⟩) m m], .int .i64 a, .int .i64 b] w fun e w' => (∃ v, e = .returned v) ∧ Blk w' g (putL L a b) ∧ w.grownBy w' (some g) := by
  obtain ⟨W, hW⟩ : ∃ W, W = w.alloc (.cells #[.int .i64 N, .slice (some ⟨g, 0, none⟩) m m] 24) := ⟨_, rfl⟩
  have HH : Hid (W.heap[w.heap.size]? = some (.cells #[.int .i64 N, .slice (some ⟨g, 0, none⟩) m m] 24 (0, 0))) := by rw [hW]; exact World.alloc_heap_new w _
  have HO : Hid (Blk W g L) := by rw [hW]; exact h.alloc _
  have HGr : Hid (w.grownBy W (some g)) := by rw [hW]; exact World.grownBy_alloc w _ _
  have hgl := h.lt
  have pm := pow_bounds m hl
  have hza := hz a ha
  have hL1 : (put1 L a b).length = m := by rw [put1_length]; exact hm
  have hzb : 0 ≤ el (put1 L a b) b ∧ el (put1 L a b) b ≤ 2 ^ m - 1 := by
    unfold put1
    by_cases e : a = b
    · subst e; rw [el_set_same _ _ _ (by omega)]; exact por_ok _ _ _ hza.2 ha
    · rw [el_set_ne _ _ _ _ e]; exact hz b hb
  have P1 := Lib.hid (por_or (el L a) b hza.1 (by omega) (by omega))
  have P2 := Lib.hid (por_or (el (put1 L a b) b) a hzb.1 (by omega) (by omega))
  have HM := Lib.hid hm; have HL1 := Lib.hid hL1
  clear h hm hL1
  go_enter Tryd.func41, Tryd.ntmps41
  obtain ⟨b0, b1, -, -⟩ := two_cells HH.out
  have c1 := HO.out.cell (i := a) (by rw [HM.out]; exact ha)
  have f1 : W.frozen? ⟨g, a, none⟩ = false := HO.out.frozen a
  have ha0 : (0 : Int) ≤ a := by omega
  have hb0 : (0 : Int) ≤ b := by omega
  have ham : (a : Int) < m := by omega
  have hbm : (b : Int) < m := by omega
  have qa := pow_bounds a (by omega)
  have qb := pow_bounds b (by omega)
  go_wp2_with fail
  rw [← hW]
  clear hW
  go_region
  rw [P1.out]
  obtain ⟨W2, hW2⟩ : ∃ W2, W2 = (W.setCell ⟨g, a, none⟩ (.int .i64 (por (el L a) b))).drew := ⟨_, rfl⟩
  have HO2 : Hid (Blk W2 g (put1 L a b)) := by rw [hW2]; exact HO.out.set a _
  have HG2 : Hid (W.grownBy W2 (some g)) := by rw [hW2]; exact grown_trans (grown_set ⟨rfl, rfl, rfl, Nat.le_refl _, fun _ _ _ => rfl⟩ _ a _) (grown_drew _ _)
  have HH2 := Lib.hid ((HG2.out.block w.heap.size (Array.getElem?_eq_some_iff.1 HH.out).1 (by simp; omega)).trans HH.out)
  rw [← hW2]
  clear hW2 b0 b1 c1 f1
  obtain ⟨b0, b1, -, -⟩ := two_cells HH2.out
  have c2 := HO2.out.cell (i := b) (by rw [HL1.out]; exact hb)
  have f2 : W2.frozen? ⟨g, b, none⟩ = false := HO2.out.frozen b
  go_wp2_with fail
  go_region
  rw [P2.out]
  go_wp2
  go_end0
  refine ⟨⟨_, rfl⟩, ?_, ?_⟩
  · exact HO2.out.set b _
  · exact grown_trans HGr.out (grown_trans HG2.out (grown_trans (grown_set ⟨rfl, rfl, rfl, Nat.le_refl _, fun _ _ _ => rfl⟩ _ b _) (grown_drew _ _)))

theorem put_at (N : Int) (g m : Nat) (S : List (Nat × Nat)) (a b : Nat) (ai bi : Int) (w : World) (h : Blk w g (rowsF m (adjS S))) (ha : a < m) (hb : b < m) (hl : m ≤ 62) (ea : ai = (a : Int)) (eb : bi = (b : Int)) :
    Calls Tryd.prog 41 #[.agg #[.int .i64 N, .slice (some ⟨g, 0, none⟩) m m], .int .i64 ai, .int .i64 bi] w fun e w' => (∃ v, e = .returned v) ∧ Blk w' g (rowsF m (adjS (S ++ [(a, b)]))) ∧ w.grownBy w' (some g) := by
  subst ea; subst eb
  have := put_some N g m _ a b w (rowsF_length _ _) h ha hb hl (fun i hi => rowsF_bd m _ i hi)
  rw [rows_snoc m S a b ha hb] at this
  exact this


theorem four_cellsD {w : World} {k : Nat} {x y z u : Value} {t : TypeId} (h : w.heap[k]? = some (.cells #[x, y, z, u] t (0, 0))) :
    (w.cell? ⟨k, 0, none⟩ = some x ∧ w.cell? ⟨k, 1, none⟩ = some y ∧ w.cell? ⟨k, 2, none⟩ = some z ∧ w.cell? ⟨k, 3, none⟩ = some u) ∧ w.frozen? ⟨k, 0, none⟩ = false ∧ w.frozen? ⟨k, 1, none⟩ = false ∧ w.frozen? ⟨k, 2, none⟩ = false ∧ w.frozen? ⟨k, 3, none⟩ = false :=
  ⟨⟨by rw [cell_of_row w k 0 _ _ _ h]; rfl, by rw [cell_of_row w k 1 _ _ _ h]; rfl, by rw [cell_of_row w k 2 _ _ _ h]; rfl, by rw [cell_of_row w k 3 _ _ _ h]; rfl⟩, frozen_of_row w k 0 _ _ h, frozen_of_row w k 1 _ _ h, frozen_of_row w k 2 _ _ h, frozen_of_row w k 3 _ _ h⟩
theorem infoDk : (Tryd.prog.info? 27).map (·.size) = some 4 := by kernel_rfl

set_option maxHeartbeats 1600000 in
theorem eqDesk_same (n m : Int) (v1 v2 u1 u2 : Value) (zs ys : List Int) (w : World) (h1 : Sl w v1 zs) (h2 : Sl w v2 zs) (h3 : Sl w u1 ys) (h4 : Sl w u2 ys) (hl : zs.length ≤ 9223372036854775807) (hm : ys.length ≤ 9223372036854775807) :
    Calls Tryd.prog 6 #[.agg #[.int .i64 n, v1, .int .i64 m, u1], .agg #[.int .i64 n, v2, .int .i64 m, u2]] w fun e w' => e = .returned (.bool true) ∧ Below w.heap.size w w' := by
  obtain ⟨W, hW⟩ : ∃ W, W = (w.alloc (.cells #[.int .i64 n, v1, .int .i64 m, u1] 27)).alloc (.cells #[.int .i64 n, v2, .int .i64 m, u2] 27) := ⟨_, rfl⟩
  have sz : W.heap.size = w.heap.size + 2 := by rw [hW]; simp
  have D0 : Below w.heap.size w W := by rw [hW]; exact ((Below.refl _ _).alloc (Nat.le_refl _) _).alloc (by simp) _
  have X0 : Hid (W.heap[w.heap.size]? = some (.cells #[.int .i64 n, v1, .int .i64 m, u1] 27 (0, 0))) := by show _ = _; rw [hW]; exact heap_old_at (World.alloc_heap_new w _) _
  have X1 : Hid (W.heap[w.heap.size + 1]? = some (.cells #[.int .i64 n, v2, .int .i64 m, u2] 27 (0, 0))) := by show _ = _; rw [hW]; exact heap_new_at _ _ _ (by simp)
  have heg := eqGraph_same n v1 v2 zs W (h1.below D0) (h2.below D0) hl
  have HED : Hid (∀ W', Below w.heap.size w W' → Calls Tryd.prog 13 #[.agg #[.int .i64 m, u1], .agg #[.int .i64 m, u2]] W' fun e w' => e = .returned (.bool true) ∧ Below W'.heap.size W' w') := fun W' hW' => eqDigraph_same m u1 u2 ys W' (h3.below hW') (h4.below hW') hm
  have HD0 := Lib.hid D0
  obtain ⟨⟨a0, a1, a2, a3⟩, -⟩ := four_cellsD X0.out
  obtain ⟨⟨b0, b1, b2, b3⟩, -⟩ := four_cellsD X1.out
  have s2 : w.heap.size + 2 ≤ W.heap.size := by omega
  clear h1 h2 h3 h4 D0 sz
  go_enter Tryd.func6, Tryd.ntmps6
  go_upto_region 1 with fail
  rw [← hW]
  clear hW
  go_wp2_with fail
  refine heg.mono ?_
  rintro e w1 ⟨rfl, hb1⟩
  have Y0 := Lib.hid ((hb1.block w.heap.size (by omega)).trans X0.out)
  have Y1 := Lib.hid ((hb1.block (w.heap.size + 1) (by omega)).trans X1.out)
  have HB1 := Lib.hid (HD0.out.trans (hb1.mono HD0.out.size))
  clear a0 a1 a2 a3 b0 b1 b2 b3 hb1 heg X0 X1
  obtain ⟨⟨a0, a1, a2, a3⟩, -⟩ := four_cellsD Y0.out
  obtain ⟨⟨b0, b1, b2, b3⟩, -⟩ := four_cellsD Y1.out
  go_wp2_with (go_at_call 13; refine (HED.out _ HB1.out).mono ?_; rintro e w2 ⟨rfl, hb2⟩; have HB2 := Lib.hid (HB1.out.trans (hb2.mono HB1.out.size)); clear hb2)
  go_ret
  exact ⟨rfl, HB2.out⟩

/-- What a call leaves that writes into two lists' rows: those rows, and every other old block as it was. -/
def Kept2 (w w' : World) (u v : Value) : Prop := w.heap.size ≤ w'.heap.size ∧ ∀ j, j < w.heap.size → some j ≠ u.ownBlock → some j ≠ v.ownBlock → w'.heap[j]? = w.heap[j]?

set_option maxHeartbeats 1600000 in
theorem markDesk_any (n m : Int) (u v : Value) (B : Nat) (zs ys : List Int) (w : World) (h1 : Own w B u zs) (h2 : Own w B v ys) (hne : u.ownBlock = none ∨ u.ownBlock ≠ v.ownBlock) (hl : zs.length ≤ 1048576) (hm : ys.length ≤ 1048576) (hB : B ≤ w.heap.size) :
    Calls Tryd.prog 7 #[.agg #[.int .i64 n, u, .int .i64 m, v], .int .i64 1] w fun e w' => e = .returned (.int .i64 (1 + (zs.length : Int) + (ys.length : Int))) ∧ Own w' B u (markL 1 zs.length) ∧ Own w' B v (markL (1 + (zs.length : Int)) ys.length) ∧ Kept2 w w' u v ∧ Below B w w' := by
  obtain ⟨W, hW⟩ : ∃ W, W = w.alloc (.cells #[.int .i64 n, u, .int .i64 m, v] 27) := ⟨_, rfl⟩
  have D0 : Below w.heap.size w W := by rw [hW]; exact (Below.refl _ _).alloc (Nat.le_refl _) _
  have s0 : W.heap.size = w.heap.size + 1 := by rw [hW]; simp
  have X0 : Hid (W.heap[w.heap.size]? = some (.cells #[.int .i64 n, u, .int .i64 m, v] 27 (0, 0))) := by show _ = _; rw [hW]; exact World.alloc_heap_new w _
  have g1 := Own.ge h1; have l1 := Own.lt h1; have g2 := Own.ge h2; have l2 := Own.lt h2
  have HM1 := Lib.hid (markGraph_any n u B zs 1 W (h1.below D0) (by decide) (by decide) (by omega))
  have HO2 := Lib.hid (h2.below D0)
  have hu0 : some w.heap.size ≠ u.ownBlock := fun e => by have := l1 _ e.symm; omega
  have hv0 : some w.heap.size ≠ v.ownBlock := fun e => by have := l2 _ e.symm; omega
  obtain ⟨⟨a0, a1, a2, a3⟩, -⟩ := four_cellsD X0.out
  have HG1 := Lib.hid g1; have HG2 := Lib.hid g2
  have hk0 : (0 : Int) ≤ 1 + (zs.length : Int) := by omega
  have hk1 : 1 + (zs.length : Int) ≤ 1048577 := by omega
  obtain ⟨A, hA⟩ : ∃ A : Int, A = 1 + (zs.length : Int) := ⟨_, rfl⟩
  have HA := Lib.hid hA
  rw [← hA] at HM1 hk0 hk1
  rw [← hA]
  clear h1 h2 l1 l2 g1 g2 hA
  go_enter Tryd.func7, Tryd.ntmps7
  go_wp2_with fail
  rw [← hW]
  clear hW
  go_wp2_with fail
  refine HM1.out.mono ?_
  rintro e w1 ⟨rfl, hO1, hg1⟩
  clear HM1 a0 a1 a2 a3
  have s1 := hg1.size
  have X1 : Hid (w1.heap[w.heap.size]? = some (.cells #[.int .i64 n, u, .int .i64 m, v] 27 (0, 0))) := (hg1.block _ (by omega) hu0).trans X0.out
  have hOv : Own w1 B v ys := HO2.out.kept hg1 (by
    rcases hne with e | e
    · cases hv : v.ownBlock with
      | none => exact .inl rfl
      | some k => exact .inr (by rw [e]; exact fun h => by cases h)
    · exact .inr fun h => e h.symm)
  have HM2 := Lib.hid (markDigraph_any m v B ys A w1 hOv (by omega) (by omega) (by omega))
  have HO1 := Lib.hid hO1
  have HGR1 := Lib.hid hg1
  obtain ⟨⟨a0, a1, a2, a3⟩, -⟩ := four_cellsD X1.out
  clear hO1 hg1 hOv HO2
  go_wp2_with fail
  refine HM2.out.mono ?_
  rintro e w2 ⟨rfl, hO2, hg2⟩
  clear HM2 a0 a1 a2 a3
  have s2 := hg2.size
  have hOu : Hid (Own w2 B u (markL 1 zs.length)) := HO1.out.kept hg2 hne
  have HO2 := Lib.hid hO2
  have HGR2 := Lib.hid hg2
  clear hO2 hg2
  go_wp2_with fail
  go_ret
  refine ⟨rfl, hOu.out, HO2.out, ⟨by omega, fun j hj h1 h2 => ?_⟩, ?_⟩
  · exact (HGR2.out.block j (by omega) h2).trans ((HGR1.out.block j (by omega) h1).trans (D0.block j hj))
  · have hb1 : Below B w w1 := (D0.mono hB).grown HGR1.out (by omega) (fun k e => HG1.out k e)
    exact hb1.grown HGR2.out (by omega) (fun k e => HG2.out k e)

set_option maxHeartbeats 1600000 in
theorem heldDesk_any (n m : Int) (u v : Value) (p q : Nat) (w : World) (h1 : Sl w u (markL 1 p)) (h2 : Sl w v (markL (1 + (p : Int)) q)) (hl : p ≤ 1048576) (hm : q ≤ 1048576) :
    Calls Tryd.prog 8 #[.agg #[.int .i64 n, u, .int .i64 m, v], .int .i64 1] w fun e w' => e = .returned (.int .i64 (1 + (p : Int) + (q : Int))) ∧ Below w.heap.size w w' := by
  obtain ⟨W, hW⟩ : ∃ W, W = w.alloc (.cells #[.int .i64 n, u, .int .i64 m, v] 27) := ⟨_, rfl⟩
  have D0 : Below w.heap.size w W := by rw [hW]; exact (Below.refl _ _).alloc (Nat.le_refl _) _
  have s0 : W.heap.size = w.heap.size + 1 := by rw [hW]; simp
  have X0 : Hid (W.heap[w.heap.size]? = some (.cells #[.int .i64 n, u, .int .i64 m, v] 27 (0, 0))) := by show _ = _; rw [hW]; exact World.alloc_heap_new w _
  have HH1 := Lib.hid (heldGraph_any n u p 1 W (h1.below D0) (by decide) (by decide) (by omega))
  have HS2 := Lib.hid (h2.below D0)
  obtain ⟨⟨a0, a1, a2, a3⟩, -⟩ := four_cellsD X0.out
  have hk0 : (0 : Int) ≤ 1 + (p : Int) := by omega
  have hk1 : 1 + (p : Int) ≤ 1048577 := by omega
  obtain ⟨A, hA⟩ : ∃ A : Int, A = 1 + (p : Int) := ⟨_, rfl⟩
  rw [← hA] at HH1 HS2 hk0 hk1
  rw [← hA]
  have hq0 : 0 ≤ A + (q : Int) := by omega
  clear h1 h2 hA
  go_enter Tryd.func8, Tryd.ntmps8
  go_wp2_with fail
  rw [← hW]
  clear hW
  go_wp2_with fail
  refine HH1.out.mono ?_
  rintro e w1 ⟨rfl, hb1⟩
  clear HH1 a0 a1 a2 a3
  have X1 : Hid (w1.heap[w.heap.size]? = some (.cells #[.int .i64 n, u, .int .i64 m, v] 27 (0, 0))) := (hb1.block _ (by omega)).trans X0.out
  have HH2 := Lib.hid (heldDigraph_any m v q A w1 (HS2.out.below hb1) (by omega) (by omega) (by omega))
  have E1 := D0.trans (hb1.mono (by omega))
  obtain ⟨⟨a0, a1, a2, a3⟩, -⟩ := four_cellsD X1.out
  have s1 := hb1.size
  clear hb1 HS2
  go_wp2_with fail
  refine HH2.out.mono ?_
  rintro e w2 ⟨rfl, hb2⟩
  clear HH2 a0 a1 a2 a3
  go_wp2_with fail
  go_ret
  exact ⟨rfl, E1.trans (hb2.mono (by omega))⟩
end Go.Proofs.YtkflcjhoghiffaaDoor
