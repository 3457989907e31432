/-
  spec.l01Put, spec.l01Has, spec.l01Empty on rows of pairs. (A plain seat.)
-/
import Derived.Test.YtbacocldjcenjaaDoorMgA
import Derived.Deep.RegionWith
namespace Go.Proofs.YtbacocldjcenjaaDoor
set_option maxRecDepth 100000
open Go.RowKit

theorem specEmpty_atM (N : Int) (len : Nat) (w : World) (hl : len ≤ 1048576) (eN : N = (len : Int)) :
    Calls Tryd.prog 18 #[.int .i64 N] w fun e w' => e = .returned (.agg #[.int .i64 len, .slice (some ⟨w.heap.size + 1, 0, none⟩) len len]) ∧ Blk w' (w.heap.size + 1) (List.replicate len 0) ∧ Below w.heap.size w w' := by
  subst eN
  exact specEmpty_any len w hl

set_option maxHeartbeats 1600000 in
theorem put_some (N : Int) (g m : Nat) (L : List Int) (a b : Nat) (w : World) (hm : L.length = m) (h : Blk w g L) (ha : a < m) (hb : b < m) (hl : m ≤ 62) (hz : ∀ i, i < m → 0 ≤ el L i ∧ el L i ≤ 2 ^ m - 1) :
    Calls Tryd.prog 20 #[.agg #[.int .i64 N, .slice (some ⟨g, 0, none⟩) m m], .int .i64 a, .int .i64 b] w fun e w' => (∃ v, e = .returned v) ∧ Blk w' g (e_putL L a b) ∧ w.grownBy w' (some g) := by
  obtain ⟨W, hW⟩ : ∃ W, W = w.alloc (.cells #[.int .i64 N, .slice (some ⟨g, 0, none⟩) m m] 38) := ⟨_, rfl⟩
  have HH : Hid (W.heap[w.heap.size]? = some (.cells #[.int .i64 N, .slice (some ⟨g, 0, none⟩) m m] 38 (0, 0))) := by rw [hW]; exact World.alloc_heap_new w _
  have HO : Hid (Blk W g L) := by rw [hW]; exact h.alloc _
  have HGr : Hid (w.grownBy W (some g)) := by rw [hW]; exact World.grownBy_alloc w _ _
  have hgl := h.lt
  have pm := pow_bounds m hl
  have hza := hz a ha
  have hL1 : (put1 L a b).length = m := by rw [put1_length]; exact hm
  have hzb : 0 ≤ el (put1 L a b) b ∧ el (put1 L a b) b ≤ 2 ^ m - 1 := by
    unfold put1
    by_cases e : a = b
    · subst e; rw [e_el_set_same _ _ _ (by omega)]; exact e_por_ok _ _ _ hza.2 ha
    · rw [e_el_set_ne _ _ _ _ e]; exact hz b hb
  have P1 := Lib.hid (e_por_or (el L a) b hza.1 (by omega) (by omega))
  have P2 := Lib.hid (e_por_or (el (put1 L a b) b) a hzb.1 (by omega) (by omega))
  have HM := Lib.hid hm; have HL1 := Lib.hid hL1
  clear h hm hL1
  go_enter Tryd.func20, Tryd.ntmps20
  obtain ⟨b0, b1, -, -⟩ := two_cells HH.out
  have c1 := HO.out.cell (i := a) (by rw [HM.out]; exact ha)
  have f1 : W.frozen? ⟨g, a, none⟩ = false := HO.out.frozen a
  have ha0 : (0 : Int) ≤ a := by omega
  have hb0 : (0 : Int) ≤ b := by omega
  have ham : (a : Int) < m := by omega
  have hbm : (b : Int) < m := by omega
  have qa := pow_bounds a (by omega)
  have qb := pow_bounds b (by omega)
  go_wp2_with fail
  rw [← hW]
  clear hW
  go_region
  rw [P1.out]
  obtain ⟨W2, hW2⟩ : ∃ W2, W2 = (W.setCell ⟨g, a, none⟩ (.int .i64 (e_por (el L a) b))).drew := ⟨_, rfl⟩
  have HO2 : Hid (Blk W2 g (put1 L a b)) := by rw [hW2]; exact HO.out.set a _
  have HG2 : Hid (W.grownBy W2 (some g)) := by rw [hW2]; exact grown_trans (grown_set ⟨rfl, rfl, rfl, Nat.le_refl _, fun _ _ _ => rfl⟩ _ a _) (e_grown_drew _ _)
  have HH2 := Lib.hid ((HG2.out.block w.heap.size (Array.getElem?_eq_some_iff.1 HH.out).1 (by simp; omega)).trans HH.out)
  rw [← hW2]
  clear hW2 b0 b1 c1 f1
  obtain ⟨b0, b1, -, -⟩ := two_cells HH2.out
  have c2 := HO2.out.cell (i := b) (by rw [HL1.out]; exact hb)
  have f2 : W2.frozen? ⟨g, b, none⟩ = false := HO2.out.frozen b
  go_wp2_with fail
  go_region
  rw [P2.out]
  go_wp2
  go_end0
  refine ⟨⟨_, rfl⟩, ?_, ?_⟩
  · exact HO2.out.set b _
  · exact grown_trans HGr.out (grown_trans HG2.out (grown_trans (grown_set ⟨rfl, rfl, rfl, Nat.le_refl _, fun _ _ _ => rfl⟩ _ b _) (e_grown_drew _ _)))

theorem put_at (N : Int) (g m : Nat) (S : List (Nat × Nat)) (a b : Nat) (ai bi : Int) (w : World) (h : Blk w g (rowsF m (adjS S))) (ha : a < m) (hb : b < m) (hl : m ≤ 62) (ea : ai = (a : Int)) (eb : bi = (b : Int)) :
    Calls Tryd.prog 20 #[.agg #[.int .i64 N, .slice (some ⟨g, 0, none⟩) m m], .int .i64 ai, .int .i64 bi] w fun e w' => (∃ v, e = .returned v) ∧ Blk w' g (rowsF m (adjS (S ++ [(a, b)]))) ∧ w.grownBy w' (some g) := by
  subst ea; subst eb
  have := put_some N g m _ a b w (rowsF_length _ _) h ha hb hl (fun i hi => rowsF_bd m _ i hi)
  rw [rows_snoc m S a b ha hb] at this
  exact this

set_option maxHeartbeats 400000 in
theorem has_anyL (n : Int) (b off len cap : Nat) (z : Int) (a c : Int) (w : World) (hb : b < w.heap.size) (hc : w.cell? ⟨b, off + a.toNat, none⟩ = some (.int .i64 z)) (ha0 : 0 ≤ a) (ha : a < len) (hc0 : 0 ≤ c) (hc1 : c < 62) (hz0 : 0 ≤ z) (hz1 : z ≤ 9223372036854775807) (r : Bool) (hr : bt z c.toNat = r) :
    Calls Tryd.prog 19 #[.agg #[.int .i64 n, .slice (some ⟨b, off, none⟩) len cap], .int .i64 a, .int .i64 c] w fun e w' => e = .returned (.bool r) ∧ Below w.heap.size w w' := by
  have HS : Hid ((bits .and .i64 (z / 2 ^ c.toNat) 1 == 1) = r) := (shr_bit z c.toNat hz0 hz1).trans hr
  clear hr
  go_enter Tryd.func19, Tryd.ntmps19
  go_wp2
  go_ret
  exact ⟨ret_bool HS.out, (Below.refl _ _).alloc (Nat.le_refl _) _⟩

theorem bt_rows {m : Nat} {f : Nat → Nat → Bool} {v x : Nat} (hv : v < m) (hx : x < m) : bt (el (rowsF m f) v) x = f v x := by
  rw [el_rowsF _ _ _ hv]
  unfold bt
  rw [Int.toNat_natCast, bitsN_testBit, decide_eq_true hx, Bool.true_and]
theorem has_at (N : Int) (g m : Nat) (S : List (Nat × Nat)) (v x : Nat) (w : World) (h : Blk w g (rowsF m (adjS S))) (hv : v < m) (hx : x < m) (hm : m ≤ 62) :
    Calls Tryd.prog 19 #[.agg #[.int .i64 N, .slice (some ⟨g, 0, none⟩) m m], .int .i64 v, .int .i64 x] w fun e w' => e = .returned (.bool (adjS S v x)) ∧ Below w.heap.size w w' := by
  have hb := rowsF_bd m (adjS S) v hv
  have hp : (2 : Int) ^ m ≤ 4611686018427387904 := (pow_bounds m hm).2
  have hc := h.cell (i := v) (by rw [rowsF_length]; exact hv)
  have := has_anyL N g 0 m m (el (rowsF m (adjS S)) v) v x w h.lt (by rw [Nat.zero_add, Int.toNat_natCast]; exact hc) (by omega) (by omega) (by omega) (by omega) hb.1 (by omega) (adjS S v x) (by rw [Int.toNat_natCast]; exact bt_rows hv hx)
  exact this
end Go.Proofs.YtbacocldjcenjaaDoor
