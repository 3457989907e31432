/-
  spec.l01Cut: a graph without an edge.
-/
import Derived.Test.YtkgnebjpcmblfaaDoorPe3
namespace Go.Proofs.YtkgnebjpcmblfaaDoor
open Go.RowKit

theorem por_ge (z : Int) (b : Nat) : (2 : Int) ^ b ≤ por z b := by
  have e : ((2 : Int) ^ b) = ((2 ^ b : Nat) : Int) := by simp
  have h : 2 ^ b ≤ z.toNat ||| 2 ^ b := Nat.right_le_or
  unfold por
  rw [e]
  omega
theorem putL_a {L : List Int} {a b : Nat} (h : a ≠ b) (ha : a < L.length) : el (putL L a b) a = por (el L a) b := by
  unfold putL
  rw [el_set_ne _ _ _ _ (fun e => h e.symm), el_set_same _ _ _ ha]
theorem putL_b {L : List Int} {a b : Nat} (h : a ≠ b) (hb : b < L.length) : el (putL L a b) b = por (el L b) a := by
  unfold putL
  rw [el_set_same _ _ _ (by simpa using hb), el_set_ne _ _ _ _ h]

/-- The rows less both digits of an edge that is there or not. -/
def cut1 (L : List Int) (a b : Nat) : List Int := (putL L a b).set a (por (el L a) b - 2 ^ b)
def cutL (L : List Int) (a b : Nat) : List Int := (cut1 L a b).set b (por (el L b) a - 2 ^ a)
theorem cut1_length (L : List Int) (a b : Nat) : (cut1 L a b).length = L.length := by simp [cut1, putL_length]
theorem cutL_length (L : List Int) (a b : Nat) : (cutL L a b).length = L.length := by simp [cutL, cut1_length]
theorem cut1_b {L : List Int} {a b : Nat} (h : a ≠ b) (hb : b < L.length) : el (cut1 L a b) b = por (el L b) a := by
  unfold cut1
  rw [el_set_ne _ _ _ _ h, putL_b h hb]

set_option maxHeartbeats 1600000 in
theorem l01Cut_some (n : Int) (b off cap m : Nat) (zs : List Int) (x y : Nat) (w : World) (hm : zs.length = m) (hb : b < w.heap.size) (hc : Cells w b off zs) (hx : x < m) (hy : y < m) (hne : x ≠ y) (hl : m ≤ 62) (hz : ∀ i, i < m → 0 ≤ el zs i ∧ el zs i ≤ 2 ^ m - 1) :
    Calls Tryd.prog 64 #[.agg #[.int .i64 n, .slice (some ⟨b, off, none⟩) m cap], .int .i64 x, .int .i64 y] w fun e w' => ∃ u, e = .returned (.agg #[.int .i64 n, u]) ∧ Own w' w.heap.size u (cutL zs x y) ∧ Below w.heap.size w w' := by
  obtain ⟨W, hW⟩ : ∃ W, W = ((w.alloc (.cells #[.int .i64 n, .slice (some ⟨b, off, none⟩) m cap] 28)).alloc (.cells #[.int .i64 0, .slice none 0 0] 28)) := ⟨_, rfl⟩
  have D0 : Below w.heap.size w W := by rw [hW]; exact ((Below.refl _ _).alloc (Nat.le_refl _) _).alloc (by simp) _
  have hsz : W.heap.size = w.heap.size + 2 := by rw [hW]; simp
  have HH1 : Hid (W.heap[w.heap.size + 1]? = some (.cells #[.int .i64 0, .slice none 0 0] 28 (0, 0))) := by rw [hW]; exact heap_new_at (w.alloc (.cells #[.int .i64 n, .slice (some ⟨b, off, none⟩) m cap] 28)) (.cells #[.int .i64 0, .slice none 0 0] 28) (w.heap.size + 1) (by simp)
  have HH0 : Hid (W.heap[w.heap.size]? = some (.cells #[.int .i64 n, .slice (some ⟨b, off, none⟩) m cap] 28 (0, 0))) := by rw [hW]; exact heap_old_at (heap_new_at w (.cells #[.int .i64 n, .slice (some ⟨b, off, none⟩) m cap] 28) w.heap.size rfl) _
  have hcp := l01Join_some n b off cap m zs x y W hm (by omega) (hc.below D0 hb) hx hy hl hz
  have pm := pow_bounds m hl
  have qx := pow_bounds x (by omega)
  have qy := pow_bounds y (by omega)
  have za := por_ok (el zs x) y m (hz x hx).2 hy
  have zb := por_ok (el zs y) x m (hz y hy).2 hx
  have ga := por_ge (el zs x) y
  have gb := por_ge (el zs y) x
  have ea := Lib.hid (putL_a (L := zs) hne (by omega))
  have ec := Lib.hid (cut1_b (L := zs) hne (by omega))
  have EL1 := Lib.hid ((putL_length zs x y).trans hm)
  have EL2 := Lib.hid ((cut1_length zs x y).trans hm)
  have HM := Lib.hid hm
  have HSZ := Lib.hid hsz
  clear hc hm hsz hz
  have hx0 : (0 : Int) ≤ x := by omega
  have hy0 : (0 : Int) ≤ y := by omega
  have hxm : (x : Int) < m := by omega
  have hym : (y : Int) < m := by omega
  go_enter Tryd.func64, Tryd.ntmps64
  obtain ⟨a0, a1, -, -⟩ := two_cells HH0.out
  rw [hW] at a0 a1
  go_wp2_with fail
  rw [← hW]
  clear hW a0 a1
  refine hcp.mono ?_
  rintro e w1 ⟨u, rfl, hO, hb1⟩
  obtain ⟨g, cu, rfl, hg0, hg1⟩ := own_some hO EL1.out (by omega)
  have R1 := Lib.hid ((hb1.block (w.heap.size + 1) (by rw [HSZ.out]; omega)).trans HH1.out)
  have e1 := hb1.size
  have D1 := D0.trans (hb1.mono D0.size)
  have O1 := Lib.hid hO
  clear hcp hO hb1
  go_wp2_with fail
  obtain ⟨w2, h2⟩ : ∃ w2, w2 = w1.alloc (.cells #[.int .i64 n, .slice (some ⟨g, 0, none⟩) m cu] 28) := ⟨_, rfl⟩
  have X2 : Hid (w2.heap[w1.heap.size]? = some (.cells #[.int .i64 n, .slice (some ⟨g, 0, none⟩) m cu] 28 (0, 0))) := by rw [h2]; exact World.alloc_heap_new w1 _
  have hb2 : Below w1.heap.size w1 w2 := by rw [h2]; exact (Below.refl _ _).alloc (Nat.le_refl _) _
  rw [← h2]
  clear h2
  have hs := HSZ.out
  have R2 := Lib.hid ((hb2.block (w.heap.size + 1) (by omega)).trans R1.out)
  have D2 := D1.trans (hb2.mono (by omega))
  have e2 := hb2.size
  have lw1 := (Array.getElem?_eq_some_iff.1 X2.out).1
  have O2 := Lib.hid (O1.out.below hb2)
  clear hs hb2 R1 D1 O1
  -- the digit in the row of x
  obtain ⟨b0, b1, -, -⟩ := two_cells X2.out
  have hO' : Own w2 W.heap.size (.slice (some ⟨g, 0, none⟩) (putL zs x y).length cu) (putL zs x y) := by rw [EL1.out]; exact O2.out
  have c2 := own_cell hO' x (by rw [EL1.out]; exact hx)
  rw [ea.out] at c2
  have f2 : w2.frozen? ⟨g, x, none⟩ = false := World.ownsRow.frozenAt hO' x
  clear hO'
  go_region
  obtain ⟨w3, hw3⟩ : ∃ w3, w3 = (w2.setCell ⟨g, x, none⟩ (.int .i64 (por (el zs x) y - 2 ^ y))).drew := ⟨_, rfl⟩
  have O3 : Hid (Own w3 W.heap.size (.slice (some ⟨g, 0, none⟩) m cu) (cut1 zs x y)) := by rw [hw3]; exact own_drew (own_set EL1.out O2.out x _)
  have hg3 : w2.grownBy w3 (some g) := by rw [hw3]; exact grown_trans (grown_set ⟨rfl, rfl, rfl, Nat.le_refl _, fun _ _ _ => rfl⟩ _ x _) (grown_drew _ _)
  rw [← hw3]
  clear hw3 b0 b1 c2 f2 O2
  have X3 := Lib.hid ((hg3.block w1.heap.size lw1 (by simp; omega)).trans X2.out)
  have R3 := Lib.hid ((hg3.block (w.heap.size + 1) (Array.getElem?_eq_some_iff.1 R2.out).1 (by have := HSZ.out; simp; omega)).trans R2.out)
  have D3 := D2.grown hg3 D2.size (fun k e => by cases e; have := HSZ.out; omega)
  have e3 := hg3.size
  clear X2 R2 D2 hg3
  -- the digit in the row of y
  obtain ⟨b0, b1, -, -⟩ := two_cells X3.out
  have hO' : Own w3 W.heap.size (.slice (some ⟨g, 0, none⟩) (cut1 zs x y).length cu) (cut1 zs x y) := by rw [EL2.out]; exact O3.out
  have c3 := own_cell hO' y (by rw [EL2.out]; exact hy)
  rw [ec.out] at c3
  have f3 : w3.frozen? ⟨g, y, none⟩ = false := World.ownsRow.frozenAt hO' y
  clear hO'
  go_wp2_with fail
  go_region
  obtain ⟨w4, hw4⟩ : ∃ w4, w4 = (w3.setCell ⟨g, y, none⟩ (.int .i64 (por (el zs y) x - 2 ^ x))).drew := ⟨_, rfl⟩
  have O4 : Hid (Own w4 W.heap.size (.slice (some ⟨g, 0, none⟩) m cu) (cutL zs x y)) := by rw [hw4]; exact own_drew (own_set EL2.out O3.out y _)
  have hg4 : w3.grownBy w4 (some g) := by rw [hw4]; exact grown_trans (grown_set ⟨rfl, rfl, rfl, Nat.le_refl _, fun _ _ _ => rfl⟩ _ y _) (grown_drew _ _)
  rw [← hw4]
  clear hw4 b0 b1 c3 f3 O3
  have X4 := Lib.hid ((hg4.block w1.heap.size (by omega) (by simp; omega)).trans X3.out)
  have R4 := Lib.hid ((hg4.block (w.heap.size + 1) (Array.getElem?_eq_some_iff.1 R3.out).1 (by have := HSZ.out; simp; omega)).trans R3.out)
  have D4 := D3.grown hg4 D3.size (fun k e => by cases e; have := HSZ.out; omega)
  clear X3 R3 D3 hg4
  obtain ⟨x0, x1, -, -⟩ := two_cells X4.out
  obtain ⟨r0, r1, f0, f1⟩ := two_cells R4.out
  go_wp2
  have hfin := two_set (a := .int .i64 n) (b := .slice (some ⟨g, 0, none⟩) m cu) R4.out
  have hgr : w4.grownBy ((w4.setCell ⟨w.heap.size + 1, 0, none⟩ (.int .i64 n)).setCell ⟨w.heap.size + 1, 1, none⟩ (.slice (some ⟨g, 0, none⟩) m cu)) (some (w.heap.size + 1)) := grown_set (grown_set ⟨rfl, rfl, rfl, Nat.le_refl _, fun _ _ _ => rfl⟩ _ 0 _) _ 1 _
  refine bodyPost_ret (v := .agg #[.int .i64 n, .slice (some ⟨g, 0, none⟩) m cu]) (results_cell_row (p := 6) (ty := 28) rfl _ _ (w.heap.size + 1) 28 _ (0, 0) _ rfl hfin Tryd.underlying28 rfl (by exact info27)) rfl ⟨_, rfl, ?_, ?_⟩
  · have hs := HSZ.out
    exact (O4.out.kept hgr (.inr (by simp [Value.ownBlock]; omega))).base (by omega)
  · exact (D4.setCell (p := ⟨w.heap.size + 1, 0, none⟩) (by simp) _).setCell (p := ⟨w.heap.size + 1, 1, none⟩) (by simp) _
end Go.Proofs.YtkgnebjpcmblfaaDoor
