/-
  spec.l04With, spec.RingGraph.
-/
import Derived.Test.YtapnlheecplpgaaDoorRh
import Derived.Deep.RegionWith
namespace Go.Proofs.YtapnlheecplpgaaDoor
set_option maxRecDepth 100000
open Go.RowKit

set_option maxHeartbeats 1600000 in
theorem with_some (N : Int) (g m : Nat) (L : List Int) (a b : Nat) (w : World) (hm : L.length = m) (h : Blk w g L) (ha : a < m) (hb : b < m) (hl : m ≤ 62) (hz : ∀ i, i < m → 0 ≤ el L i ∧ el L i ≤ 2 ^ m - 1) :
    Calls Tryd.prog 12 #[.agg #[.int .i64 N, .slice (some ⟨g, 0, none⟩) m m], .int .i64 a, .int .i64 b] w fun e w' => e = .returned (.agg #[.int .i64 N, .slice (some ⟨g, 0, none⟩) m m]) ∧ Blk w' g (putL L a b) ∧ w.grownBy w' (some g) := by
  obtain ⟨W, hW⟩ : ∃ W, W = (w.alloc (.cells #[.int .i64 N, .slice (some ⟨g, 0, none⟩) m m] 24)).alloc (.cells #[.int .i64 0, .slice none 0 0] 24) := ⟨_, rfl⟩
  have HH : Hid (W.heap[w.heap.size]? = some (.cells #[.int .i64 N, .slice (some ⟨g, 0, none⟩) m m] 24 (0, 0))) := by rw [hW]; exact heap_old_at (World.alloc_heap_new w _) _
  have HR : Hid (W.heap[w.heap.size + 1]? = some (.cells #[.int .i64 0, .slice none 0 0] 24 (0, 0))) := by rw [hW]; exact heap_new_at _ _ _ (by simp)
  have HO : Hid (Blk W g L) := by rw [hW]; exact (h.alloc _).alloc _
  have HGr : Hid (w.grownBy W (some g)) := by rw [hW]; exact grown_trans (World.grownBy_alloc w _ _) (World.grownBy_alloc _ _ _)
  have hgl := h.lt
  have pm := pow_bounds m hl
  have hza := hz a ha
  have hL1 : (put1 L a b).length = m := by rw [put1_length]; exact hm
  have hzb : 0 ≤ el (put1 L a b) b ∧ el (put1 L a b) b ≤ 2 ^ m - 1 := by
    unfold put1
    by_cases e : a = b
    · subst e; rw [el_set_same _ _ _ (by omega)]; exact por_ok _ _ _ hza.2 ha
    · rw [el_set_ne _ _ _ _ e]; exact hz b hb
  have P1 := Lib.hid (por_or (el L a) b hza.1 (by omega) (by omega))
  have P2 := Lib.hid (por_or (el (put1 L a b) b) a hzb.1 (by omega) (by omega))
  have HM := Lib.hid hm; have HL1 := Lib.hid hL1
  clear h hm hL1
  go_enter Tryd.func12, Tryd.ntmps12
  obtain ⟨b0, b1, -, -⟩ := two_cells HH.out
  have c1 := HO.out.cell (i := a) (by rw [HM.out]; exact ha)
  have f1 : W.frozen? ⟨g, a, none⟩ = false := HO.out.frozen a
  have ha0 : (0 : Int) ≤ a := by omega
  have hb0 : (0 : Int) ≤ b := by omega
  have ham : (a : Int) < m := by omega
  have hbm : (b : Int) < m := by omega
  have qa := pow_bounds a (by omega)
  have qb := pow_bounds b (by omega)
  go_wp2_with fail
  rw [← hW]
  clear hW
  go_region
  rw [P1.out]
  obtain ⟨W2, hW2⟩ : ∃ W2, W2 = (W.setCell ⟨g, a, none⟩ (.int .i64 (por (el L a) b))).drew := ⟨_, rfl⟩
  have HO2 : Hid (Blk W2 g (put1 L a b)) := by rw [hW2]; exact HO.out.set a _
  have HG2 : Hid (W.grownBy W2 (some g)) := by rw [hW2]; exact grown_trans (grown_set ⟨rfl, rfl, rfl, Nat.le_refl _, fun _ _ _ => rfl⟩ _ a _) (grown_drew _ _)
  have HH2 := Lib.hid ((HG2.out.block w.heap.size (Array.getElem?_eq_some_iff.1 HH.out).1 (by simp; omega)).trans HH.out)
  have HR2 := Lib.hid ((HG2.out.block (w.heap.size + 1) (Array.getElem?_eq_some_iff.1 HR.out).1 (by simp; omega)).trans HR.out)
  rw [← hW2]
  clear hW2 b0 b1 c1 f1
  obtain ⟨b0, b1, -, -⟩ := two_cells HH2.out
  have c2 := HO2.out.cell (i := b) (by rw [HL1.out]; exact hb)
  have f2 : W2.frozen? ⟨g, b, none⟩ = false := HO2.out.frozen b
  go_wp2_with fail
  go_region
  rw [P2.out]
  obtain ⟨W3, hW3⟩ : ∃ W3, W3 = (W2.setCell ⟨g, b, none⟩ (.int .i64 (por (el (put1 L a b) b) a))).drew := ⟨_, rfl⟩
  have HO3 : Hid (Blk W3 g (putL L a b)) := by rw [hW3]; exact HO2.out.set b _
  have HG3 : Hid (W2.grownBy W3 (some g)) := by rw [hW3]; exact grown_trans (grown_set ⟨rfl, rfl, rfl, Nat.le_refl _, fun _ _ _ => rfl⟩ _ b _) (grown_drew _ _)
  have HH3 := Lib.hid ((HG3.out.block w.heap.size (Array.getElem?_eq_some_iff.1 HH2.out).1 (by simp; omega)).trans HH2.out)
  have HR3 := Lib.hid ((HG3.out.block (w.heap.size + 1) (Array.getElem?_eq_some_iff.1 HR2.out).1 (by simp; omega)).trans HR2.out)
  rw [← hW3]
  clear hW3 b0 b1 c2 f2
  obtain ⟨b0, b1, -, -⟩ := two_cells HH3.out
  obtain ⟨r0, r1, g0, g1⟩ := two_cells HR3.out
  go_wp2_with fail
  have hfin := two_set (a := .int .i64 N) (b := .slice (some ⟨g, 0, none⟩) m m) HR3.out
  refine bodyPost_ret (v := .agg #[.int .i64 N, .slice (some ⟨g, 0, none⟩) m m]) (results_cell_row (p := 6) (ty := 24) rfl _ _ (w.heap.size + 1) 24 _ (0, 0) _ rfl hfin Tryd.underlying24 rfl (by exact info27)) rfl ⟨rfl, ?_, ?_⟩
  · exact (HO3.out.other (by simp; omega) _).other (by simp; omega) _
  · have hg3 := grown_trans HGr.out (grown_trans HG2.out HG3.out)
    have hb3 : Below w.heap.size W3 ((W3.setCell ⟨w.heap.size + 1, 0, none⟩ (.int .i64 N)).setCell ⟨w.heap.size + 1, 1, none⟩ (.slice (some ⟨g, 0, none⟩) m m)) := ((Below.refl _ _).setCell (p := ⟨w.heap.size + 1, 0, none⟩) (by simp) _).setCell (p := ⟨w.heap.size + 1, 1, none⟩) (by simp) _
    exact ⟨hb3.os.trans hg3.os, hb3.tape.trans hg3.tape, hb3.output.trans hg3.output, Nat.le_trans hg3.size hb3.size, fun k hk hne => (hb3.block k hk).trans (hg3.block k hk hne)⟩

theorem with_at (N : Int) (g m : Nat) (S : List (Nat × Nat)) (a b : Nat) (ai bi : Int) (w : World) (h : Blk w g (rowsF m (adjS S))) (ha : a < m) (hb : b < m) (hl : m ≤ 62) (ea : ai = (a : Int)) (eb : bi = (b : Int)) :
    Calls Tryd.prog 12 #[.agg #[.int .i64 N, .slice (some ⟨g, 0, none⟩) m m], .int .i64 ai, .int .i64 bi] w fun e w' => e = .returned (.agg #[.int .i64 N, .slice (some ⟨g, 0, none⟩) m m]) ∧ Blk w' g (rowsF m (adjS (S ++ [(a, b)]))) ∧ w.grownBy w' (some g) := by
  subst ea; subst eb
  have := with_some N g m _ a b w (rowsF_length _ _) h ha hb hl (fun i hi => rowsF_bd m _ i hi)
  rw [rows_snoc m S a b ha hb] at this
  exact this
end Go.Proofs.YtapnlheecplpgaaDoor
