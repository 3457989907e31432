/-
  spec.l01Put: an edge put into rows that are the call's own.
-/
import Derived.Test.YtkgnebjpcmblfaaDoorPe1
import Derived.BigRegion
namespace Go.Proofs.YtkgnebjpcmblfaaDoor
open Go.RowKit

/-- The row z with the digit at b. -/
def por (z : Int) (b : Nat) : Int := ((z.toNat ||| 2 ^ b : Nat) : Int)
theorem por_or (z : Int) (b : Nat) (h0 : 0 ≤ z) (h1 : z ≤ 9223372036854775807) (hb : b < 62) : bits .or .i64 z (2 ^ b) = por z b := by
  obtain ⟨k, rfl⟩ := Int.eq_ofNat_of_zero_le h0
  have hp : 2 ^ b < 2 ^ 63 := Nat.pow_lt_pow_right (by decide) (by omega)
  rw [show ((2 : Int) ^ b) = ((2 ^ b : Nat) : Int) by simp, or_i64 _ _ (by omega) hp]
  unfold por; rw [Int.toNat_natCast]
theorem por_ok (z : Int) (b m : Nat) (h1 : z ≤ 2 ^ m - 1) (hb : b < m) : 0 ≤ por z b ∧ por z b ≤ 2 ^ m - 1 := by
  have e : ((2 : Int) ^ m) = ((2 ^ m : Nat) : Int) := by simp
  have hp := Nat.two_pow_pos m
  have h := Nat.or_lt_two_pow (x := z.toNat) (y := 2 ^ b) (n := m) (by rw [e] at h1; omega) (Nat.pow_lt_pow_right (by decide) hb)
  unfold por
  rw [e]
  omega
theorem el_set_same (L : List Int) (a : Nat) (z : Int) (h : a < L.length) : el (L.set a z) a = z := by simp [el, h]
theorem el_set_ne (L : List Int) (a b : Nat) (z : Int) (h : a ≠ b) : el (L.set a z) b = el L b := by
  unfold el; rw [List.getD_eq_getElem?_getD, List.getD_eq_getElem?_getD, List.getElem?_set_ne h]
theorem own_cell {w : World} {B g cap : Nat} {L : List Int} (h : Own w B (.slice (some ⟨g, 0, none⟩) L.length cap) L) (i : Nat) (hi : i < L.length) : w.cell? ⟨g, i, none⟩ = some (.int .i64 (el L i)) :=
  (World.ownsRow.cellAt h i (by omega)).trans (map_at L i hi)
theorem own_set {w : World} {B g cap m : Nat} {L : List Int} (hm : L.length = m) (h : Own w B (.slice (some ⟨g, 0, none⟩) m cap) L) (i : Nat) (z : Int) : Own (w.setCell ⟨g, i, none⟩ (.int .i64 z)) B (.slice (some ⟨g, 0, none⟩) m cap) (L.set i z) := by
  subst hm
  have := World.ownsRow.stored h i (.int .i64 z)
  rw [← List.map_set] at this
  unfold Own
  rw [List.length_set]
  exact this.1
theorem grown_drew (w : World) (row : Option Nat) : w.grownBy w.drew row := ⟨rfl, rfl, rfl, Nat.le_refl _, fun _ _ _ => rfl⟩
theorem own_drew {w : World} {B : Nat} {u : Value} {L : List Int} (h : Own w B u L) : Own w.drew B u L := h.below ((Below.refl _ _).drew)

/-- Both digits of an edge put. -/
def putL (L : List Int) (a b : Nat) : List Int := (L.set a (por (el L a) b)).set b (por (el (L.set a (por (el L a) b)) b) a)

set_option maxHeartbeats 1600000 in
theorem l01Put_some (n : Int) (g cap B m : Nat) (L : List Int) (a b : Nat) (w : World) (hm : L.length = m) (h : Own w B (.slice (some ⟨g, 0, none⟩) m cap) L) (hg : g < w.heap.size) (ha : a < m) (hb : b < m) (hl : m ≤ 62) (hz : ∀ i, i < m → 0 ≤ el L i ∧ el L i ≤ 2 ^ m - 1) :
    Calls Tryd.prog 88 #[.agg #[.int .i64 n, .slice (some ⟨g, 0, none⟩) m cap], .int .i64 a, .int .i64 b] w fun e w' => (∃ v, e = .returned v) ∧ Own w' B (.slice (some ⟨g, 0, none⟩) m cap) (putL L a b) ∧ w.grownBy w' (some g) := by
  obtain ⟨W, hW⟩ : ∃ W, W = w.alloc (.cells #[.int .i64 n, .slice (some ⟨g, 0, none⟩) m cap] 28) := ⟨_, rfl⟩
  have HH : Hid (W.heap[w.heap.size]? = some (.cells #[.int .i64 n, .slice (some ⟨g, 0, none⟩) m cap] 28 (0, 0))) := by rw [hW]; exact World.alloc_heap_new w _
  have HO : Hid (Own W B (.slice (some ⟨g, 0, none⟩) m cap) L) := by rw [hW]; exact h.below ((Below.refl _ _).alloc (Nat.le_refl _) _)
  have HGr : Hid (w.grownBy W (some g)) := by rw [hW]; exact World.grownBy_alloc w _ _
  have pm := pow_bounds m hl
  have hza := hz a ha
  have hL1 : (L.set a (por (el L a) b)).length = m := by simpa using hm
  have hzb : 0 ≤ el (L.set a (por (el L a) b)) b ∧ el (L.set a (por (el L a) b)) b ≤ 2 ^ m - 1 := by
    by_cases e : a = b
    · subst e; rw [el_set_same _ _ _ (by omega)]; exact por_ok _ _ _ hza.2 ha
    · rw [el_set_ne _ _ _ _ e]; exact hz b hb
  have P1 := Lib.hid (por_or (el L a) b hza.1 (by omega) (by omega))
  have P2 := Lib.hid (por_or (el (L.set a (por (el L a) b)) b) a hzb.1 (by omega) (by omega))
  have HM := Lib.hid hm; have HL1 := Lib.hid hL1
  clear h hm hL1
  go_enter Tryd.func88, Tryd.ntmps88
  obtain ⟨b0, b1, -, -⟩ := two_cells HH.out
  have hO' : Own W B (.slice (some ⟨g, 0, none⟩) L.length cap) L := by rw [HM.out]; exact HO.out
  have c1 := own_cell hO' a (by rw [HM.out]; exact ha)
  have f1 : W.frozen? ⟨g, a, none⟩ = false := World.ownsRow.frozenAt hO' a
  have ha0 : (0 : Int) ≤ a := by omega
  have hb0 : (0 : Int) ≤ b := by omega
  have ham : (a : Int) < m := by omega
  have hbm : (b : Int) < m := by omega
  have qa := pow_bounds a (by omega)
  have qb := pow_bounds b (by omega)
  clear hO'
  go_wp2_with fail
  rw [← hW]
  clear hW
  go_region
  rw [P1.out]
  obtain ⟨W2, hW2⟩ : ∃ W2, W2 = (W.setCell ⟨g, a, none⟩ (.int .i64 (por (el L a) b))).drew := ⟨_, rfl⟩
  have HO2 : Hid (Own W2 B (.slice (some ⟨g, 0, none⟩) m cap) (L.set a (por (el L a) b))) := by rw [hW2]; exact own_drew (own_set HM.out HO.out a _)
  have HG2 : Hid (W.grownBy W2 (some g)) := by rw [hW2]; exact grown_trans (grown_set ⟨rfl, rfl, rfl, Nat.le_refl _, fun _ _ _ => rfl⟩ _ a _) (grown_drew _ _)
  have HH2 := Lib.hid ((HG2.out.block w.heap.size (Array.getElem?_eq_some_iff.1 HH.out).1 (by simp; omega)).trans HH.out)
  rw [← hW2]
  clear hW2 b0 b1 c1 f1
  obtain ⟨b0, b1, -, -⟩ := two_cells HH2.out
  have hO' : Own W2 B (.slice (some ⟨g, 0, none⟩) (L.set a (por (el L a) b)).length cap) (L.set a (por (el L a) b)) := by rw [HL1.out]; exact HO2.out
  have c2 := own_cell hO' b (by rw [HL1.out]; exact hb)
  have f2 : W2.frozen? ⟨g, b, none⟩ = false := World.ownsRow.frozenAt hO' b
  clear hO'
  go_wp2_with fail
  go_region
  rw [P2.out]
  go_wp2
  go_end0
  refine ⟨⟨_, rfl⟩, ?_, ?_⟩
  · exact own_drew (own_set HL1.out HO2.out b _)
  · exact grown_trans HGr.out (grown_trans HG2.out (grown_trans (grown_set ⟨rfl, rfl, rfl, Nat.le_refl _, fun _ _ _ => rfl⟩ _ b _) (grown_drew _ _)))
end Go.Proofs.YtkgnebjpcmblfaaDoor
