/-
  laws.FnExactNewDesk: the walk: the law returns true and leaves what was there.
-/
import Derived.Test.YtkflcjhoghiffaaDoorNd2
namespace Go.Proofs.YtkflcjhoghiffaaDoor.fnExactNewDesk
set_option maxRecDepth 100000
open Go.RowKit

/-- Block k holds a desk. -/
def BoxD (w : World) (k : Nat) (n : Int) (u v : Value) : Prop := w.heap[k]? = some (.cells #[.int .i64 10, u, .int .i64 n, v] 27 (0, 0))
theorem BoxD.new (w : World) (n : Int) (u v : Value) : BoxD (w.alloc (.cells #[.int .i64 10, u, .int .i64 n, v] 27)) w.heap.size n u v := World.alloc_heap_new w _
theorem BoxD.lt {w : World} {k : Nat} {n : Int} {u v : Value} (h : BoxD w k n u v) : k < w.heap.size := (Array.getElem?_eq_some_iff.1 h).1
theorem BoxD.from {B : Nat} {w w' : World} {k : Nat} {n : Int} {u v : Value} (h : BoxD w k n u v) (hb : Below B w w') (hk : k < B) : BoxD w' k n u v := (hb.block k hk).trans h
theorem BoxD.alloc {w : World} {k : Nat} {n : Int} {u v : Value} (h : BoxD w k n u v) (o : Obj) : BoxD (w.alloc o) k n u v := heap_old_at h o
theorem BoxD.cells {w : World} {k : Nat} {n : Int} {u v : Value} (h : BoxD w k n u v) : w.cell? ⟨k, 0, none⟩ = some (.int .i64 10) ∧ w.cell? ⟨k, 1, none⟩ = some u ∧ w.cell? ⟨k, 2, none⟩ = some (.int .i64 n) ∧ w.cell? ⟨k, 3, none⟩ = some v := (four_cellsD h).1

set_option maxHeartbeats 6400000 in
theorem law (w : World) (hT : Tab w) :
    Calls Tryd.prog 3 #[] w fun e w' => e = .returned (.bool true) ∧ Below w.heap.size w w' := by
  have hsp := specNd_any w
  have him : ∀ W, Below w.heap.size w W → Calls Tryd.prog 5 #[] W fun e w' => DkRes W.heap.size e w' ∧ Below W.heap.size W w' := fun W hW => implNd_any W (hT.belowAll hW)
  unfold DkRes at hsp him
  have hpl := petL_length
  have hql := dkL_length
  obtain ⟨n, HN⟩ : ∃ n, Hid (n = dkN) := ⟨_, rfl⟩
  obtain ⟨P, HP⟩ : ∃ P, Hid (P = petL) := ⟨_, rfl⟩
  obtain ⟨Q, HQ⟩ : ∃ Q, Hid (Q = dkL) := ⟨_, rfl⟩
  simp only [← HN.out, ← HP.out, ← HQ.out] at hsp him hpl hql
  have HSP := Lib.hid hsp; have HIM := Lib.hid him
  obtain ⟨p, Hp⟩ : ∃ p, Hid (p = P.length) := ⟨_, rfl⟩
  obtain ⟨q, Hq⟩ : ∃ q, Hid (q = Q.length) := ⟨_, rfl⟩
  have hp1 : p ≤ 62 := by rw [Hp.out, hpl]; omega
  have hq1 : q ≤ 62 := by rw [Hq.out]; exact hql
  have hPl : P.length ≤ 1048576 := by omega
  have hQl : Q.length ≤ 1048576 := by omega
  have hpq : 0 ≤ 1 + (p : Int) + (q : Int) := by omega
  clear hsp him hpl hql hT HN HP HQ
  go_enter Tryd.func3, Tryd.ntmps3
  go_wp2_with fail
  refine HSP.out.mono ?_
  rintro e w1 ⟨⟨uw, vw, rfl, hO, hV, _⟩, hb1⟩
  clear HSP
  have e1 := hb1.size
  obtain ⟨wa, wl, wc, rfl⟩ := own_sliceD hO
  obtain ⟨xa, xl, xc, rfl⟩ := own_sliceD hV
  have SW1 := Lib.hid hO.sl; have SW2 := Lib.hid hV.sl
  have E1 := Lib.hid hb1
  clear hO hV hb1
  go_wp2_with fail
  obtain ⟨w2, h2⟩ : ∃ w2, w2 = w1.alloc (.cells #[.int .i64 10, .slice wa wl wc, .int .i64 n, .slice xa xl xc] 27) := ⟨_, rfl⟩
  have Y2 : Hid (BoxD w2 w1.heap.size n (.slice wa wl wc) (.slice xa xl xc)) := by rw [h2]; exact BoxD.new w1 _ _ _
  have F2 : Hid (Below w1.heap.size w1 w2) := by rw [h2]; exact (Below.refl _ _).alloc (Nat.le_refl _) _
  have s2 : w2.heap.size = w1.heap.size + 1 := by rw [h2]; simp
  rw [← h2]
  clear h2
  have E2 := Lib.hid (E1.out.trans (F2.out.mono e1))
  refine (HIM.out w2 E2.out).mono ?_
  rintro e w3 ⟨⟨ug, vg, rfl, hO, hV, hne⟩, hb3⟩
  have e3 := hb3.size
  obtain ⟨ga, gl, gc, rfl⟩ := own_sliceD hO
  obtain ⟨ha, hl, hc, rfl⟩ := own_sliceD hV
  have OG3 := Lib.hid hO; have OH3 := Lib.hid hV; have HNE := Lib.hid hne
  have F3 := Lib.hid (F2.out.trans (hb3.mono (by omega)))
  have G3 := Lib.hid hb3
  have Y3 := Lib.hid (Y2.out.from hb3 Y2.out.lt)
  have HY0 := Lib.hid Y2.out
  have LG : Hid (∀ k, (Value.slice ga gl gc).ownBlock = some k → k < w3.heap.size) := fun k e => hO.lt k e
  have LH : Hid (∀ k, (Value.slice ha hl hc).ownBlock = some k → k < w3.heap.size) := fun k e => hV.lt k e
  clear hO hV hne hb3 Y2 F2
  obtain ⟨y0, y1, y2, y3⟩ := (Y3.out.alloc (.cells #[.int .i64 10, .slice ga gl gc, .int .i64 n, .slice ha hl hc] 27)).cells
  go_wp2_with fail
  obtain ⟨w4, h4⟩ : ∃ w4, w4 = w3.alloc (.cells #[.int .i64 10, .slice ga gl gc, .int .i64 n, .slice ha hl hc] 27) := ⟨_, rfl⟩
  have Z4 : Hid (BoxD w4 w3.heap.size n (.slice ga gl gc) (.slice ha hl hc)) := by rw [h4]; exact BoxD.new w3 _ _ _
  have hb4 : Below w3.heap.size w3 w4 := by rw [h4]; exact (Below.refl _ _).alloc (Nat.le_refl _) _
  have s4 : w4.heap.size = w3.heap.size + 1 := by rw [h4]; simp
  rw [← h4]
  clear h4 y0 y1 y2 y3
  have OG4 := Lib.hid (OG3.out.below hb4); have OH4 := Lib.hid (OH3.out.below hb4)
  have F4 := Lib.hid (F3.out.trans (hb4.mono (by omega)))
  have G4 := Lib.hid (G3.out.trans (hb4.mono (by omega)))
  clear hb4 OG3 OH3 F3 G3 Y3
  refine (eqDesk_same 10 n (.slice ga gl gc) (.slice wa wl wc) (.slice ha hl hc) (.slice xa xl xc) P Q w4 OG4.out.sl (SW1.out.below F4.out) OH4.out.sl (SW2.out.below F4.out) (by omega) (by omega)).mono ?_
  rintro e w5 ⟨rfl, hb5⟩
  have e5 := hb5.size
  have OG5 := Lib.hid (OG4.out.below hb5); have OH5 := Lib.hid (OH4.out.below hb5)
  have F5 := Lib.hid (F4.out.trans (hb5.mono (by omega)))
  have G5 := Lib.hid (G4.out.trans (hb5.mono (by omega)))
  have Z5 := Lib.hid (Z4.out.from hb5 Z4.out.lt)
  clear hb5 OG4 OH4 F4 G4 Z4
  have hmk := markDesk_any 10 n (.slice ga gl gc) (.slice ha hl hc) w2.heap.size P Q w5 OG5.out OH5.out HNE.out hPl hQl (by omega)
  rw [← Hp.out, ← Hq.out] at hmk
  obtain ⟨z0, z1, z2, z3⟩ := Z5.out.cells
  go_wp2_with fail
  refine hmk.mono ?_
  rintro e w6 ⟨rfl, hM1, hM2, hk6, hb6⟩
  have e6 := hk6.1
  have M1 := Lib.hid hM1; have M2 := Lib.hid hM2
  have F6 := Lib.hid (F5.out.trans (hb6.mono (by omega)))
  have G6 := Lib.hid (G5.out.trans hb6)
  have Z6 : Hid (BoxD w6 w3.heap.size n (.slice ga gl gc) (.slice ha hl hc)) := (hk6.2 _ (by omega) (fun e => by have := LG.out _ e.symm; omega) (fun e => by have := LH.out _ e.symm; omega)).trans Z5.out
  clear hM1 hM2 hk6 hb6 hmk OG5 OH5 F5 G5 Z5 z0 z1 z2 z3
  obtain ⟨z0, z1, z2, z3⟩ := Z6.out.cells
  go_wp2_with fail
  refine (heldDesk_any 10 n (.slice ga gl gc) (.slice ha hl hc) p q w6 M1.out.sl M2.out.sl (by omega) (by omega)).mono ?_
  rintro e w7 ⟨rfl, hb7⟩
  have e7 := hb7.size
  have F7 := Lib.hid (F6.out.trans (hb7.mono (by omega)))
  have G7 := Lib.hid (G6.out.trans (hb7.mono (by omega)))
  have H7 := Lib.hid hb7
  clear hb7 F6 G6 z0 z1 z2 z3
  have E7 := Lib.hid (E1.out.trans (F7.out.mono e1))
  go_wp2_with fail
  refine (HIM.out w7 E7.out).mono ?_
  rintro e w8 ⟨⟨uk, vk, rfl, hO, hV, _⟩, hb8⟩
  have e8 := hb8.size
  obtain ⟨ka, kl, kc, rfl⟩ := own_sliceD hO
  obtain ⟨ja, jl, jc, rfl⟩ := own_sliceD hV
  have OK8 := Lib.hid hO; have OJ8 := Lib.hid hV
  have F8 := Lib.hid (F7.out.trans (hb8.mono (by omega)))
  have G8 := Lib.hid (G7.out.trans (hb8.mono (by omega)))
  have H8 := Lib.hid (H7.out.trans (hb8.mono (by omega)))
  have Y8 : Hid (BoxD w8 w1.heap.size n (.slice wa wl wc) (.slice xa xl xc)) := by
    have h : BoxD w2 w1.heap.size n (.slice wa wl wc) (.slice xa xl xc) := HY0.out
    exact h.from G8.out (by omega)
  clear hO hV hb8 F7 G7 H7
  obtain ⟨y0, y1, y2, y3⟩ := (Y8.out.alloc (.cells #[.int .i64 10, .slice ka kl kc, .int .i64 n, .slice ja jl jc] 27)).cells
  go_wp2_with fail
  obtain ⟨w9, h9⟩ : ∃ w9, w9 = w8.alloc (.cells #[.int .i64 10, .slice ka kl kc, .int .i64 n, .slice ja jl jc] 27) := ⟨_, rfl⟩
  have hb9 : Below w8.heap.size w8 w9 := by rw [h9]; exact (Below.refl _ _).alloc (Nat.le_refl _) _
  have s9 : w9.heap.size = w8.heap.size + 1 := by rw [h9]; simp
  rw [← h9]
  clear h9 y0 y1 y2 y3
  have OK9 := Lib.hid (OK8.out.below hb9); have OJ9 := Lib.hid (OJ8.out.below hb9)
  have F9 := Lib.hid (F8.out.trans (hb9.mono (by omega)))
  have H9 := Lib.hid (H8.out.trans (hb9.mono (by omega)))
  clear hb9 OK8 OJ8 F8 G8 H8 Y8
  refine (eqDesk_same 10 n (.slice ka kl kc) (.slice wa wl wc) (.slice ja jl jc) (.slice xa xl xc) P Q w9 OK9.out.sl (SW1.out.below F9.out) OJ9.out.sl (SW2.out.below F9.out) (by omega) (by omega)).mono ?_
  rintro e w10 ⟨rfl, hb10⟩
  have e10 := hb10.size
  have F10 := Lib.hid (F9.out.trans (hb10.mono (by omega)))
  have H10 := Lib.hid (H9.out.trans (hb10.mono (by omega)))
  have Z10 := Lib.hid (Z6.out.from H10.out (by omega))
  clear hb10 F9 H9
  obtain ⟨z0, z1, z2, z3⟩ := Z10.out.cells
  go_wp2_with fail
  refine (heldDesk_any 10 n (.slice ga gl gc) (.slice ha hl hc) p q w10 (M1.out.sl.below H10.out) (M2.out.sl.below H10.out) (by omega) (by omega)).mono ?_
  rintro e w11 ⟨rfl, hb11⟩
  have F11 := Lib.hid (F10.out.trans (hb11.mono (by omega)))
  clear hb11 F10 H10 z0 z1 z2 z3
  go_wp2_with fail
  go_ret
  exact ⟨rfl, E1.out.trans (F11.out.mono e1)⟩
end Go.Proofs.YtkflcjhoghiffaaDoor.fnExactNewDesk
