/-
  NewDesk, both programs.
-/
import Derived.Test.YtkflcjhoghiffaaDoorNd1
import Derived.Test.YtkflcjhoghiffaaDoorBj4
namespace Go.Proofs.YtkflcjhoghiffaaDoor
set_option maxRecDepth 100000
open Go.RowKit

def dkN : Int := KdN 2 2
def dkL : List Int := KdL 2 2
theorem dkL_length : dkL.length ≤ 62 := KdL_length 2 2
/-- A new desk. -/
def DkRes (B : Nat) (e : Ending) (w' : World) : Prop := ∃ u v, e = .returned (.agg #[.int .i64 10, u, .int .i64 dkN, v]) ∧ Own w' B u petL ∧ Own w' B v dkL ∧ (u.ownBlock = none ∨ u.ownBlock ≠ v.ownBlock)

theorem own_setB {w : World} {B b i : Nat} {x v : Value} {L : List Int} (h : Own w B x L) (hb : b < B) : Own (w.setCell ⟨b, i, none⟩ v) B x L :=
  h.kept (grown_set ⟨rfl, rfl, rfl, Nat.le_refl _, fun _ _ _ => rfl⟩ b i v) (.inr fun e => by have := h.ge _ e; omega)
theorem four_set {w : World} {k : Nat} {x y z u a b c d : Value} {t : TypeId} (h : w.heap[k]? = some (.cells #[x, y, z, u] t (0, 0))) : ((((w.setCell ⟨k, 0, none⟩ a).setCell ⟨k, 1, none⟩ b).setCell ⟨k, 2, none⟩ c).setCell ⟨k, 3, none⟩ d).heap[k]? = some (.cells #[a, b, c, d] t (0, 0)) :=
  heap_setCell_same _ _ 3 _ _ _ (heap_setCell_same _ _ 2 _ _ _ (heap_setCell_same _ _ 1 _ _ _ (heap_setCell_same w _ 0 _ _ a h)))
theorem own_sliceD {w : World} {B : Nat} {u : Value} {L : List Int} (h : Own w B u L) : ∃ a l c, u = .slice a l c := by
  rcases h.form with ⟨rfl, _⟩ | ⟨g, cap, rfl, _⟩
  · exact ⟨_, _, _, rfl⟩
  · exact ⟨_, _, _, rfl⟩

set_option maxHeartbeats 1600000 in
theorem l11New_any (w : World) :
    Calls Tryd.prog 9 #[] w fun e w' => DkRes w.heap.size e w' ∧ Below w.heap.size w w' := by
  obtain ⟨W, hW⟩ : ∃ W, W = w.alloc (.cells #[.int .i64 0, .slice none 0 0, .int .i64 0, .slice none 0 0] 27) := ⟨_, rfl⟩
  have D0 : Below w.heap.size w W := by rw [hW]; exact (Below.refl _ _).alloc (Nat.le_refl _) _
  have s0 : W.heap.size = w.heap.size + 1 := by rw [hW]; simp
  have HR0 : Hid (W.heap[w.heap.size]? = some (.cells #[.int .i64 0, .slice none 0 0, .int .i64 0, .slice none 0 0] 27 (0, 0))) := by show _ = _; rw [hW]; exact World.alloc_heap_new w _
  have hp := specPet_any W
  have hk : ∀ W', Calls Tryd.prog 19 #[.int .i64 2, .int .i64 2] W' fun e w' => GRes W'.heap.size dkN dkL (KzC 2 2) e w' ∧ Below W'.heap.size W' w' := fun W' => specKd_any 2 2 W'
  have HK := Lib.hid hk
  obtain ⟨n, HN⟩ : ∃ n, Hid (n = dkN) := ⟨_, rfl⟩
  obtain ⟨P, HP⟩ : ∃ P, Hid (P = petL) := ⟨_, rfl⟩
  obtain ⟨Q, HQ⟩ : ∃ Q, Hid (Q = dkL) := ⟨_, rfl⟩
  obtain ⟨c, hc⟩ : ∃ c, c = KzC 2 2 := ⟨_, rfl⟩
  rw [← HP.out] at hp
  rw [← hc, ← HN.out, ← HQ.out] at HK
  unfold DkRes
  rw [← HN.out, ← HP.out, ← HQ.out]
  have HPP := Lib.hid hp
  clear hk hc hp
  go_enter Tryd.func9, Tryd.ntmps9
  go_wp2_with fail
  rw [← hW]
  clear hW
  refine HPP.out.mono ?_
  rintro e w1 ⟨⟨u, rfl, hO⟩, hb1⟩
  clear HPP
  have s1 := hb1.size
  have E1 := D0.trans (hb1.mono (by omega))
  have HR1 := Lib.hid ((hb1.block w.heap.size (by omega)).trans HR0.out)
  obtain ⟨ua, ul, uc, rfl⟩ := own_sliceD hO
  have HO := Lib.hid hO
  clear hb1 hO HR0 D0
  go_wp2_with fail
  obtain ⟨w2, h2⟩ : ∃ w2, w2 = w1.alloc (.cells #[.int .i64 10, .slice ua ul uc] 24) := ⟨_, rfl⟩
  have X2 : Hid (w2.heap[w1.heap.size]? = some (.cells #[.int .i64 10, .slice ua ul uc] 24 (0, 0))) := by rw [h2]; exact World.alloc_heap_new w1 _
  have hb2 : Below w1.heap.size w1 w2 := by rw [h2]; exact (Below.refl _ _).alloc (Nat.le_refl _) _
  have s2 : w2.heap.size = w1.heap.size + 1 := by rw [h2]; simp
  rw [← h2]
  clear h2
  have HO2 := Lib.hid (HO.out.below hb2)
  have LO2 : Hid (∀ k, (Value.slice ua ul uc).ownBlock = some k → k < w2.heap.size) := fun k e => HO2.out.lt k e
  have HR2 := Lib.hid ((hb2.block w.heap.size (by omega)).trans HR1.out)
  have E2 := E1.trans (hb2.mono (by omega))
  clear hb2 HO HR1 E1
  refine (HK.out w2).mono ?_
  rintro e w3 ⟨⟨v, rfl, hV⟩, hb3⟩
  clear HK
  have s3 := hb3.size
  obtain ⟨va, vl, vc, rfl⟩ := own_sliceD hV
  have GV : Hid (∀ k, (Value.slice va vl vc).ownBlock = some k → w2.heap.size ≤ k) := fun k e => hV.ge k e
  have HV3 := Lib.hid hV
  have HO3 := Lib.hid (HO2.out.below hb3)
  have X3 := Lib.hid ((hb3.block w1.heap.size (by omega)).trans X2.out)
  have HR3 := Lib.hid ((hb3.block w.heap.size (by omega)).trans HR2.out)
  have E3 := E2.trans (hb3.mono (by omega))
  have x0 := (two_cells (heap_old_at X3.out (.cells #[.int .i64 n, .slice va vl vc] 25))).1
  have x1 := (two_cells (heap_old_at X3.out (.cells #[.int .i64 n, .slice va vl vc] 25))).2.1
  obtain ⟨w4, h4⟩ : ∃ w4, w4 = w3.alloc (.cells #[.int .i64 n, .slice va vl vc] 25) := ⟨_, rfl⟩
  have hb4 : Below w3.heap.size w3 w4 := by rw [h4]; exact (Below.refl _ _).alloc (Nat.le_refl _) _
  have HR4 := Lib.hid ((hb4.block w.heap.size (by omega)).trans HR3.out)
  have HO4 := Lib.hid (HO3.out.below hb4)
  have HV4 := Lib.hid (HV3.out.below hb4)
  have E4 := Lib.hid (E3.trans (hb4.mono (by omega)))
  obtain ⟨⟨r0, r1, r2, r3⟩, g0, g1, g2, g3⟩ := four_cellsD HR4.out
  rw [h4] at r0 r1 r2 r3 g0 g1 g2 g3
  clear hb3 hV HO2 X2 HR2 E2 hb4 HR3 HO3 HV3 E3 X3
  go_wp2_with fail
  rw [← h4]
  clear h4 r0 r1 r2 r3 g0 g1 g2 g3 x0 x1
  have hfin := four_set (a := .int .i64 10) (b := .slice ua ul uc) (c := .int .i64 n) (d := .slice va vl vc) HR4.out
  refine bodyPost_ret (v := .agg #[.int .i64 10, .slice ua ul uc, .int .i64 n, .slice va vl vc]) (results_cell_row (p := 0) (ty := 27) rfl _ _ w.heap.size 27 _ (0, 0) _ rfl hfin Tryd.underlying27 rfl (by exact infoDk)) rfl ⟨⟨_, _, rfl, ?_, ?_, ?_⟩, ?_⟩
  · exact (own_setB (own_setB (own_setB (own_setB HO4.out (by omega)) (by omega)) (by omega)) (by omega)).base (by omega)
  · exact (own_setB (own_setB (own_setB (own_setB HV4.out (by omega)) (by omega)) (by omega)) (by omega)).base (by omega)
  · cases hu : (Value.slice ua ul uc).ownBlock with
    | none => exact .inl rfl
    | some k => exact .inr fun e => by have h1 := LO2.out k hu; have h2 := GV.out k e.symm; omega
  · exact (((E4.out.setCell (p := ⟨w.heap.size, 0, none⟩) (by simp) _).setCell (p := ⟨w.heap.size, 1, none⟩) (by simp) _).setCell (p := ⟨w.heap.size, 2, none⟩) (by simp) _).setCell (p := ⟨w.heap.size, 3, none⟩) (by simp) _

set_option maxHeartbeats 800000 in
theorem specNd_any (w : World) :
    Calls Tryd.prog 4 #[] w fun e w' => DkRes w.heap.size e w' ∧ Below w.heap.size w w' := by
  obtain ⟨W, hW⟩ : ∃ W, W = w.alloc (.cells #[.int .i64 0, .slice none 0 0, .int .i64 0, .slice none 0 0] 27) := ⟨_, rfl⟩
  have D0 : Below w.heap.size w W := by rw [hW]; exact (Below.refl _ _).alloc (Nat.le_refl _) _
  have s0 : W.heap.size = w.heap.size + 1 := by rw [hW]; simp
  have HR0 : Hid (W.heap[w.heap.size]? = some (.cells #[.int .i64 0, .slice none 0 0, .int .i64 0, .slice none 0 0] 27 (0, 0))) := by show _ = _; rw [hW]; exact World.alloc_heap_new w _
  have hl := l11New_any W
  unfold DkRes at hl ⊢
  obtain ⟨n, HN⟩ : ∃ n, Hid (n = dkN) := ⟨_, rfl⟩
  obtain ⟨P, HP⟩ : ∃ P, Hid (P = petL) := ⟨_, rfl⟩
  obtain ⟨Q, HQ⟩ : ∃ Q, Hid (Q = dkL) := ⟨_, rfl⟩
  rw [← HN.out, ← HP.out, ← HQ.out] at hl ⊢
  go_enter Tryd.func4, Tryd.ntmps4
  go_wp2_with fail
  rw [← hW]
  clear hW
  refine hl.mono ?_
  rintro e w1 ⟨⟨u, v, rfl, hO, hV, hne⟩, hb1⟩
  clear hl
  have HR1 := Lib.hid ((hb1.block w.heap.size (by omega)).trans HR0.out)
  obtain ⟨ua, ul, uc, rfl⟩ := own_sliceD hO
  obtain ⟨va, vl, vc, rfl⟩ := own_sliceD hV
  have HO := Lib.hid hO; have HV := Lib.hid hV
  have HNE := Lib.hid hne
  have E1 := Lib.hid (D0.trans (hb1.mono (by omega)))
  obtain ⟨⟨r0, r1, r2, r3⟩, g0, g1, g2, g3⟩ := four_cellsD HR1.out
  clear hO hV hne hb1 HR0 D0
  go_wp2_with fail
  have hfin := four_set (a := .int .i64 10) (b := .slice ua ul uc) (c := .int .i64 n) (d := .slice va vl vc) HR1.out
  refine bodyPost_ret (v := .agg #[.int .i64 10, .slice ua ul uc, .int .i64 n, .slice va vl vc]) (results_cell_row (p := 0) (ty := 27) rfl _ _ w.heap.size 27 _ (0, 0) _ rfl hfin Tryd.underlying27 rfl (by exact infoDk)) rfl ⟨⟨_, _, rfl, ?_, ?_, HNE.out⟩, ?_⟩
  · exact (own_setB (own_setB (own_setB (own_setB HO.out (by omega)) (by omega)) (by omega)) (by omega)).base (by omega)
  · exact (own_setB (own_setB (own_setB (own_setB HV.out (by omega)) (by omega)) (by omega)) (by omega)).base (by omega)
  · exact (((E1.out.setCell (p := ⟨w.heap.size, 0, none⟩) (by simp) _).setCell (p := ⟨w.heap.size, 1, none⟩) (by simp) _).setCell (p := ⟨w.heap.size, 2, none⟩) (by simp) _).setCell (p := ⟨w.heap.size, 3, none⟩) (by simp) _

set_option maxHeartbeats 1600000 in
theorem implNd_any (w : World) (hT : Tab w) :
    Calls Tryd.prog 5 #[] w fun e w' => DkRes w.heap.size e w' ∧ Below w.heap.size w w' := by
  obtain ⟨W, hW⟩ : ∃ W, W = w.alloc (.cells #[.int .i64 0, .slice none 0 0, .int .i64 0, .slice none 0 0] 27) := ⟨_, rfl⟩
  have D0 : Below w.heap.size w W := by rw [hW]; exact (Below.refl _ _).alloc (Nat.le_refl _) _
  have s0 : W.heap.size = w.heap.size + 1 := by rw [hW]; simp
  have HR0 : Hid (W.heap[w.heap.size]? = some (.cells #[.int .i64 0, .slice none 0 0, .int .i64 0, .slice none 0 0] 27 (0, 0))) := by show _ = _; rw [hW]; exact World.alloc_heap_new w _
  have hp := implPet_any W
  have hk : ∀ W', Below w.heap.size w W' → Calls Tryd.prog 11 #[.int .i64 2, .int .i64 2] W' fun e w' => GRes W'.heap.size dkN dkL (KzC 2 2) e w' ∧ Below W'.heap.size W' w' := fun W' hW' => implKd_any 2 2 W' (hT.belowAll hW')
  have HK := Lib.hid hk
  obtain ⟨n, HN⟩ : ∃ n, Hid (n = dkN) := ⟨_, rfl⟩
  obtain ⟨P, HP⟩ : ∃ P, Hid (P = petL) := ⟨_, rfl⟩
  obtain ⟨Q, HQ⟩ : ∃ Q, Hid (Q = dkL) := ⟨_, rfl⟩
  obtain ⟨c, hc⟩ : ∃ c, c = KzC 2 2 := ⟨_, rfl⟩
  rw [← HP.out] at hp
  rw [← hc, ← HN.out, ← HQ.out] at HK
  unfold DkRes
  rw [← HN.out, ← HP.out, ← HQ.out]
  have HPP := Lib.hid hp
  clear hk hc hp hT
  go_enter Tryd.func5, Tryd.ntmps5
  go_wp2_with fail
  rw [← hW]
  clear hW
  refine HPP.out.mono ?_
  rintro e w1 ⟨⟨u, rfl, hO⟩, hb1⟩
  clear HPP
  have s1 := hb1.size
  have E1 := D0.trans (hb1.mono (by omega))
  have HR1 := Lib.hid ((hb1.block w.heap.size (by omega)).trans HR0.out)
  obtain ⟨ua, ul, uc, rfl⟩ := own_sliceD hO
  have HO := Lib.hid hO
  clear hb1 hO HR0 D0
  go_wp2_with fail
  obtain ⟨w2, h2⟩ : ∃ w2, w2 = w1.alloc (.cells #[.int .i64 10, .slice ua ul uc] 24) := ⟨_, rfl⟩
  have X2 : Hid (w2.heap[w1.heap.size]? = some (.cells #[.int .i64 10, .slice ua ul uc] 24 (0, 0))) := by rw [h2]; exact World.alloc_heap_new w1 _
  have hb2 : Below w1.heap.size w1 w2 := by rw [h2]; exact (Below.refl _ _).alloc (Nat.le_refl _) _
  have s2 : w2.heap.size = w1.heap.size + 1 := by rw [h2]; simp
  rw [← h2]
  clear h2
  have HO2 := Lib.hid (HO.out.below hb2)
  have LO2 : Hid (∀ k, (Value.slice ua ul uc).ownBlock = some k → k < w2.heap.size) := fun k e => HO2.out.lt k e
  have HR2 := Lib.hid ((hb2.block w.heap.size (by omega)).trans HR1.out)
  have E2 := E1.trans (hb2.mono (by omega))
  clear hb2 HO HR1 E1
  refine (HK.out w2 E2).mono ?_
  rintro e w3 ⟨⟨v, rfl, hV⟩, hb3⟩
  clear HK
  have s3 := hb3.size
  obtain ⟨va, vl, vc, rfl⟩ := own_sliceD hV
  have GV : Hid (∀ k, (Value.slice va vl vc).ownBlock = some k → w2.heap.size ≤ k) := fun k e => hV.ge k e
  have HV3 := Lib.hid hV
  have HO3 := Lib.hid (HO2.out.below hb3)
  have X3 := Lib.hid ((hb3.block w1.heap.size (by omega)).trans X2.out)
  have HR3 := Lib.hid ((hb3.block w.heap.size (by omega)).trans HR2.out)
  have E3 := E2.trans (hb3.mono (by omega))
  have x0 := (two_cells (heap_old_at X3.out (.cells #[.int .i64 n, .slice va vl vc] 25))).1
  have x1 := (two_cells (heap_old_at X3.out (.cells #[.int .i64 n, .slice va vl vc] 25))).2.1
  obtain ⟨w4, h4⟩ : ∃ w4, w4 = w3.alloc (.cells #[.int .i64 n, .slice va vl vc] 25) := ⟨_, rfl⟩
  have hb4 : Below w3.heap.size w3 w4 := by rw [h4]; exact (Below.refl _ _).alloc (Nat.le_refl _) _
  have HR4 := Lib.hid ((hb4.block w.heap.size (by omega)).trans HR3.out)
  have HO4 := Lib.hid (HO3.out.below hb4)
  have HV4 := Lib.hid (HV3.out.below hb4)
  have E4 := Lib.hid (E3.trans (hb4.mono (by omega)))
  obtain ⟨⟨r0, r1, r2, r3⟩, g0, g1, g2, g3⟩ := four_cellsD HR4.out
  rw [h4] at r0 r1 r2 r3 g0 g1 g2 g3
  clear hb3 hV HO2 X2 HR2 E2 hb4 HR3 HO3 HV3 E3 X3
  go_wp2_with fail
  rw [← h4]
  clear h4 r0 r1 r2 r3 g0 g1 g2 g3 x0 x1
  have hfin := four_set (a := .int .i64 10) (b := .slice ua ul uc) (c := .int .i64 n) (d := .slice va vl vc) HR4.out
  refine bodyPost_ret (v := .agg #[.int .i64 10, .slice ua ul uc, .int .i64 n, .slice va vl vc]) (results_cell_row (p := 0) (ty := 27) rfl _ _ w.heap.size 27 _ (0, 0) _ rfl hfin Tryd.underlying27 rfl (by exact infoDk)) rfl ⟨⟨_, _, rfl, ?_, ?_, ?_⟩, ?_⟩
  · exact (own_setB (own_setB (own_setB (own_setB HO4.out (by omega)) (by omega)) (by omega)) (by omega)).base (by omega)
  · exact (own_setB (own_setB (own_setB (own_setB HV4.out (by omega)) (by omega)) (by omega)) (by omega)).base (by omega)
  · cases hu : (Value.slice ua ul uc).ownBlock with
    | none => exact .inl rfl
    | some k => exact .inr fun e => by have h1 := LO2.out k hu; have h2 := GV.out k e.symm; omega
  · exact (((E4.out.setCell (p := ⟨w.heap.size, 0, none⟩) (by simp) _).setCell (p := ⟨w.heap.size, 1, none⟩) (by simp) _).setCell (p := ⟨w.heap.size, 2, none⟩) (by simp) _).setCell (p := ⟨w.heap.size, 3, none⟩) (by simp) _
end Go.Proofs.YtkflcjhoghiffaaDoor
