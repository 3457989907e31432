/-
  spec.l01Join, l01Cut: a graph with an edge more, or less.
-/
import Derived.Test.YtkgnebjpcmblfaaDoorPe2
import Derived.Test.YtkgnebjpcmblfaaDoorCoS
import Derived.BigRegion
namespace Go.Proofs.YtkgnebjpcmblfaaDoor
open Go.RowKit

theorem putL_length (L : List Int) (a b : Nat) : (putL L a b).length = L.length := by simp [putL]

/-- A slice that owns a number at least, written out. -/
theorem own_some {w : World} {B m : Nat} {u : Value} {L : List Int} (h : Own w B u L) (hm : L.length = m) (h0 : 0 < m) : ∃ g cap, u = .slice (some ⟨g, 0, none⟩) m cap ∧ B ≤ g ∧ g < w.heap.size := by
  subst hm
  rcases h.form with ⟨_, rfl⟩ | h
  · simp at h0
  · exact h

set_option maxHeartbeats 1600000 in
theorem l01Join_some (n : Int) (b off cap m : Nat) (zs : List Int) (x y : Nat) (w : World) (hm : zs.length = m) (hb : b < w.heap.size) (hc : Cells w b off zs) (hx : x < m) (hy : y < m) (hl : m ≤ 62) (hz : ∀ i, i < m → 0 ≤ el zs i ∧ el zs i ≤ 2 ^ m - 1) :
    Calls Tryd.prog 62 #[.agg #[.int .i64 n, .slice (some ⟨b, off, none⟩) m cap], .int .i64 x, .int .i64 y] w fun e w' => ∃ u, e = .returned (.agg #[.int .i64 n, u]) ∧ Own w' w.heap.size u (putL zs x y) ∧ Below w.heap.size w w' := by
  obtain ⟨W, hW⟩ : ∃ W, W = ((w.alloc (.cells #[.int .i64 n, .slice (some ⟨b, off, none⟩) m cap] 28)).alloc (.cells #[.int .i64 0, .slice none 0 0] 28)) := ⟨_, rfl⟩
  have D0 : Below w.heap.size w W := by rw [hW]; exact ((Below.refl _ _).alloc (Nat.le_refl _) _).alloc (by simp) _
  have hsz : W.heap.size = w.heap.size + 2 := by rw [hW]; simp
  have HH1 : Hid (W.heap[w.heap.size + 1]? = some (.cells #[.int .i64 0, .slice none 0 0] 28 (0, 0))) := by rw [hW]; exact heap_new_at (w.alloc (.cells #[.int .i64 n, .slice (some ⟨b, off, none⟩) m cap] 28)) (.cells #[.int .i64 0, .slice none 0 0] 28) (w.heap.size + 1) (by simp)
  have HH0 : Hid (W.heap[w.heap.size]? = some (.cells #[.int .i64 n, .slice (some ⟨b, off, none⟩) m cap] 28 (0, 0))) := by rw [hW]; exact heap_old_at (heap_new_at w (.cells #[.int .i64 n, .slice (some ⟨b, off, none⟩) m cap] 28) w.heap.size rfl) _
  have hcp := l01Copy_some n b off cap zs W (by omega) (hc.below D0 hb) (by omega)
  rw [hm] at hcp
  have HM := Lib.hid hm
  have HZ := Lib.hid hz
  have HSZ := Lib.hid hsz
  clear hc hm hsz hz
  go_enter Tryd.func62, Tryd.ntmps62
  obtain ⟨a0, a1, -, -⟩ := two_cells HH0.out
  rw [hW] at a0 a1
  go_wp2_with fail
  rw [← hW]
  clear hW a0 a1
  refine hcp.mono ?_
  rintro e w1 ⟨u, rfl, hO, hb1⟩
  obtain ⟨g, cu, rfl, hg0, hg1⟩ := own_some hO HM.out (by omega)
  have R1 := Lib.hid ((hb1.block (w.heap.size + 1) (by rw [HSZ.out]; omega)).trans HH1.out)
  have e1 := hb1.size
  have D1 := D0.trans (hb1.mono D0.size)
  have O1 := Lib.hid hO
  clear hcp hO hb1
  go_wp2_with fail
  obtain ⟨w2, h2⟩ : ∃ w2, w2 = w1.alloc (.cells #[.int .i64 n, .slice (some ⟨g, 0, none⟩) m cu] 28) := ⟨_, rfl⟩
  have X2 : Hid (w2.heap[w1.heap.size]? = some (.cells #[.int .i64 n, .slice (some ⟨g, 0, none⟩) m cu] 28 (0, 0))) := by rw [h2]; exact World.alloc_heap_new w1 _
  have hb2 : Below w1.heap.size w1 w2 := by rw [h2]; exact (Below.refl _ _).alloc (Nat.le_refl _) _
  rw [← h2]
  clear h2
  have hs := HSZ.out
  have R2 := Lib.hid ((hb2.block (w.heap.size + 1) (by omega)).trans R1.out)
  have D2 := D1.trans (hb2.mono (by omega))
  have e2 := hb2.size
  have O2 := Lib.hid (O1.out.below hb2)
  have hput := l01Put_some n g cu W.heap.size m zs x y w2 HM.out O2.out (by omega) hx hy hl HZ.out
  clear hs hb2 R1 D1 O1
  refine hput.mono ?_
  rintro e w3 ⟨⟨v, rfl⟩, hO3, hg3⟩
  have lw1 := (Array.getElem?_eq_some_iff.1 X2.out).1
  have X3 := Lib.hid ((hg3.block w1.heap.size lw1 (by simp; omega)).trans X2.out)
  have R3 := Lib.hid ((hg3.block (w.heap.size + 1) (Array.getElem?_eq_some_iff.1 R2.out).1 (by have := HSZ.out; simp; omega)).trans R2.out)
  have D3 := D2.grown hg3 D2.size (fun k e => by cases e; have := HSZ.out; omega)
  obtain ⟨x0, x1, -, -⟩ := two_cells X3.out
  obtain ⟨r0, r1, f0, f1⟩ := two_cells R3.out
  have O3 := Lib.hid hO3
  clear hput hO3 hg3 X2 R2 O2 D2
  go_wp2
  have hfin := two_set (a := .int .i64 n) (b := .slice (some ⟨g, 0, none⟩) m cu) R3.out
  have hgr : w3.grownBy ((w3.setCell ⟨w.heap.size + 1, 0, none⟩ (.int .i64 n)).setCell ⟨w.heap.size + 1, 1, none⟩ (.slice (some ⟨g, 0, none⟩) m cu)) (some (w.heap.size + 1)) := grown_set (grown_set ⟨rfl, rfl, rfl, Nat.le_refl _, fun _ _ _ => rfl⟩ _ 0 _) _ 1 _
  refine bodyPost_ret (v := .agg #[.int .i64 n, .slice (some ⟨g, 0, none⟩) m cu]) (results_cell_row (p := 6) (ty := 28) rfl _ _ (w.heap.size + 1) 28 _ (0, 0) _ rfl hfin Tryd.underlying28 rfl (by exact info27)) rfl ⟨_, rfl, ?_, ?_⟩
  · have hs := HSZ.out
    exact (O3.out.kept hgr (.inr (by simp [Value.ownBlock]; omega))).base (by omega)
  · exact (D3.setCell (p := ⟨w.heap.size + 1, 0, none⟩) (by simp) _).setCell (p := ⟨w.heap.size + 1, 1, none⟩) (by simp) _
end Go.Proofs.YtkgnebjpcmblfaaDoor
