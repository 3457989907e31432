/-
  impl.exchangeEdge, by copyOf.
-/
import Derived.Test.YtabkfihhfkmioaaDoorPe7
import Derived.Test.YtabkfihhfkmioaaDoorCl9
namespace Go.Proofs.YtabkfihhfkmioaaDoor
set_option maxRecDepth 100000
set_option maxRecDepth 100000
open Go.RowKit

set_option maxHeartbeats 1600000 in
theorem exch_no (n : Int) (v : Value) (zs : List Int) (x y bf : Int) (w : World) (h : Sl w v zs) (hg : isG n zs = false) (hl : zs.length ≤ 9223372036854775807) (hT : Tab w) :
    Calls Tryd.prog 91 #[.agg #[.int .i64 n, v], .int .i64 x, .int .i64 y, .int .i64 bf] w fun e w' => GRes w.heap.size 0 [] 1 e w' ∧ Below w.heap.size w w' := by
  have D0 : Below w.heap.size w ((w.alloc (.cells #[.int .i64 n, v] 26)).alloc (.cells #[.int .i64 0, .slice none 0 0] 26)) := ((Below.refl _ _).alloc (Nat.le_refl _) _).alloc (by simp) _
  have his := implIs_any n v zs _ (h.below D0) hl (hT.belowAll D0)
  rw [hg] at his
  simp only [World.size_alloc] at his
  have HH1 := Lib.hid (heap_new_at (w.alloc (.cells #[.int .i64 n, v] 26)) (.cells #[.int .i64 0, .slice none 0 0] 26) (w.heap.size + 1) (by simp))
  clear h hg hT
  go_enter Tryd.func91, Tryd.ntmps91
  go_wp2_with (go_at_call 73; refine his.mono ?_; rintro e w1 ⟨rfl, hb1⟩; have RB := Lib.hid ((hb1.block (w.heap.size + 1) (by omega)).trans HH1.out); obtain ⟨r0, r1, g0, g1⟩ := two_cells RB.out)
  have hfin := two_set (a := .int .i64 0) (b := .slice none 0 0) RB.out
  refine bodyPost_ret (v := .tuple #[.agg #[.int .i64 0, .slice none 0 0], .int .i64 1]) (results_cell2 (p := 8) (u := 9) (ty := 26) rfl _ _ (w.heap.size + 1) 26 _ (0, 0) _ rfl hfin Tryd.underlying26 rfl (by exact info27)) rfl ⟨⟨_, rfl, Own.nil _ _⟩, ?_⟩
  exact ((D0.trans (hb1.mono (by omega))).setCell (p := ⟨w.heap.size + 1, 0, none⟩) (by simp) _).setCell (p := ⟨w.heap.size + 1, 1, none⟩) (by simp) _

set_option maxHeartbeats 1600000 in
theorem exch_out (n : Int) (b off cap : Nat) (zs : List Int) (x y bf : Int) (w : World) (hb : b < w.heap.size) (hc : Cells w b off zs) (hg : isG n zs = true) (hl : zs.length ≤ 9223372036854775807) (hT : Tab w) (hin : inE n x y = false) :
    Calls Tryd.prog 91 #[.agg #[.int .i64 n, .slice (some ⟨b, off, none⟩) zs.length cap], .int .i64 x, .int .i64 y, .int .i64 bf] w fun e w' => GRes w.heap.size 0 [] 2 e w' ∧ Below w.heap.size w w' := by
  have D0 : Below w.heap.size w ((w.alloc (.cells #[.int .i64 n, .slice (some ⟨b, off, none⟩) zs.length cap] 26)).alloc (.cells #[.int .i64 0, .slice none 0 0] 26)) := ((Below.refl _ _).alloc (Nat.le_refl _) _).alloc (by simp) _
  have his := implIs_some n b off cap zs _ (Nat.lt_of_lt_of_le hb D0.size) (hc.below D0 hb) hl (hT.belowAll D0)
  rw [hg] at his
  simp only [World.size_alloc] at his
  have had := fun W => areDiff_any n x y W
  rw [hin] at had
  have HG0 := Lib.hid (GBox.new (n := n) (cap := cap) hb hc)
  have HH1 := Lib.hid (heap_new_at (w.alloc (.cells #[.int .i64 n, .slice (some ⟨b, off, none⟩) zs.length cap] 26)) (.cells #[.int .i64 0, .slice none 0 0] 26) (w.heap.size + 1) (by simp))
  clear hc hg hT hin
  go_enter Tryd.func91, Tryd.ntmps91
  have G1 := HG0.out.below ((Below.refl (w.heap.size + 1) _).alloc (by simp) (.cells #[.int .i64 0, .slice none 0 0] 26))
  have b0 := G1.b0
  have b1 := G1.b1
  go_wp2_with (first | (go_at_call 73; refine his.mono ?_; rintro e w1 ⟨rfl, hb1⟩; have G2 := G1.below (hb1.mono (by omega)); have b0 := G2.b0; have b1 := G2.b1; have RB := Lib.hid ((hb1.block (w.heap.size + 1) (by omega)).trans HH1.out); obtain ⟨r0, r1, g0, g1⟩ := two_cells RB.out) | (go_at_call 115; refine (had _).mono ?_; rintro e w2 ⟨rfl, rfl⟩))
  have hfin := two_set (a := .int .i64 0) (b := .slice none 0 0) RB.out
  refine bodyPost_ret (v := .tuple #[.agg #[.int .i64 0, .slice none 0 0], .int .i64 2]) (results_cell2 (p := 8) (u := 9) (ty := 26) rfl _ _ (w.heap.size + 1) 26 _ (0, 0) _ rfl hfin Tryd.underlying26 rfl (by exact info27)) rfl ⟨⟨_, rfl, Own.nil _ _⟩, ?_⟩
  exact ((D0.trans (hb1.mono (by omega))).setCell (p := ⟨w.heap.size + 1, 0, none⟩) (by simp) _).setCell (p := ⟨w.heap.size + 1, 1, none⟩) (by simp) _

set_option maxHeartbeats 1600000 in
theorem exch_state (n : Int) (b off cap : Nat) (zs : List Int) (x y : Nat) (bf : Int) (w : World) (hb : b < w.heap.size) (hc : Cells w b off zs) (hg : isG n zs = true) (hl : zs.length ≤ 9223372036854775807) (hT : Tab w) (hin : inE n x y = true) (hx : x < zs.length) (hy : y < zs.length) (hbf : ((if bt (el zs x) y then 1 else 0 : Int) != bf) = true) :
    Calls Tryd.prog 91 #[.agg #[.int .i64 n, .slice (some ⟨b, off, none⟩) zs.length cap], .int .i64 x, .int .i64 y, .int .i64 bf] w fun e w' => GRes w.heap.size 0 [] 5 e w' ∧ Below w.heap.size w w' := by
  have D0 : Below w.heap.size w ((w.alloc (.cells #[.int .i64 n, .slice (some ⟨b, off, none⟩) zs.length cap] 26)).alloc (.cells #[.int .i64 0, .slice none 0 0] 26)) := ((Below.refl _ _).alloc (Nat.le_refl _) _).alloc (by simp) _
  have his := implIs_some n b off cap zs _ (Nat.lt_of_lt_of_le hb D0.size) (hc.below D0 hb) hl (hT.belowAll D0)
  rw [hg] at his
  simp only [World.size_alloc] at his
  have had := fun W => areDiff_any n x y W
  rw [hin] at had
  have hz := isG_row_ok hg x hx
  obtain ⟨_, h62, h3, _⟩ := isG_parts hg
  have hv : (bits BinOp.and .i64 (el zs x / 2 ^ y) 1 != bf) = true := by rw [shr_val _ _ hz.1 hz.2]; exact hbf
  have HG0 := Lib.hid (GBox.new (n := n) (cap := cap) hb hc)
  have HH1 := Lib.hid (heap_new_at (w.alloc (.cells #[.int .i64 n, .slice (some ⟨b, off, none⟩) zs.length cap] 26)) (.cells #[.int .i64 0, .slice none 0 0] 26) (w.heap.size + 1) (by simp))
  have hx0 : (0 : Int) ≤ x := by omega
  have hxm : (x : Int) < zs.length := by omega
  have hy0 : (0 : Int) ≤ y := by omega
  have hym : (y : Int) < 62 := by omega
  clear hc hg hT hin hbf h3
  go_enter Tryd.func91, Tryd.ntmps91
  have G1 := HG0.out.below ((Below.refl (w.heap.size + 1) _).alloc (by simp) (.cells #[.int .i64 0, .slice none 0 0] 26))
  have b0 := G1.b0
  have b1 := G1.b1
  go_wp2_with (first | (go_at_call 73; refine his.mono ?_; rintro e w1 ⟨rfl, hb1⟩; have G2 := G1.below (hb1.mono (by omega)); have b0 := G2.b0; have b1 := G2.b1; have c1 := G2.cells x hx; have RB := Lib.hid ((hb1.block (w.heap.size + 1) (by omega)).trans HH1.out); obtain ⟨r0, r1, g0, g1⟩ := two_cells RB.out) | (go_at_call 115; refine (had _).mono ?_; rintro e w2 ⟨rfl, rfl⟩))
  have hfin := two_set (a := .int .i64 0) (b := .slice none 0 0) RB.out
  refine bodyPost_ret (v := .tuple #[.agg #[.int .i64 0, .slice none 0 0], .int .i64 5]) (results_cell2 (p := 8) (u := 9) (ty := 26) rfl _ _ (w.heap.size + 1) 26 _ (0, 0) _ rfl hfin Tryd.underlying26 rfl (by exact info27)) rfl ⟨⟨_, rfl, Own.nil _ _⟩, ?_⟩
  exact ((D0.trans (hb1.mono (by omega))).setCell (p := ⟨w.heap.size + 1, 0, none⟩) (by simp) _).setCell (p := ⟨w.heap.size + 1, 1, none⟩) (by simp) _

set_option maxHeartbeats 3200000 in
theorem exch_yes (n : Int) (b off cap : Nat) (zs : List Int) (x y : Nat) (bf : Int) (w : World) (hb : b < w.heap.size) (hc : Cells w b off zs) (hg : isG n zs = true) (hl : zs.length ≤ 9223372036854775807) (hT : Tab w) (hin : inE n x y = true) (hx : x < zs.length) (hy : y < zs.length) (hxy : x ≠ y) (hbf : ((if bt (el zs x) y then 1 else 0 : Int) != bf) = false) :
    Calls Tryd.prog 91 #[.agg #[.int .i64 n, .slice (some ⟨b, off, none⟩) zs.length cap], .int .i64 x, .int .i64 y, .int .i64 bf] w fun e w' => GRes w.heap.size n (flipL zs x y) 0 e w' ∧ Below w.heap.size w w' := by
  have hz := isG_row_ok hg x hx
  have hzy := isG_row_ok hg y hy
  obtain ⟨_, h62, h3, _⟩ := isG_parts hg
  subst h3
  have D0 : Below w.heap.size w ((w.alloc (.cells #[.int .i64 zs.length, .slice (some ⟨b, off, none⟩) zs.length cap] 26)).alloc (.cells #[.int .i64 0, .slice none 0 0] 26)) := ((Below.refl _ _).alloc (Nat.le_refl _) _).alloc (by simp) _
  have his := implIs_some zs.length b off cap zs _ (Nat.lt_of_lt_of_le hb D0.size) (hc.below D0 hb) hl (hT.belowAll D0)
  rw [hg] at his
  simp only [World.size_alloc] at his
  have had := fun W => areDiff_any (zs.length : Int) x y W
  rw [hin] at had
  have hv : (bits BinOp.and .i64 (el zs x / 2 ^ y) 1 != bf) = false := by rw [shr_val _ _ hz.1 hz.2]; exact hbf
  have HG0 := Lib.hid (GBox.new (n := zs.length) (cap := cap) hb hc)
  have HH1 := Lib.hid (heap_new_at (w.alloc (.cells #[.int .i64 zs.length, .slice (some ⟨b, off, none⟩) zs.length cap] 26)) (.cells #[.int .i64 0, .slice none 0 0] 26) (w.heap.size + 1) (by simp))
  have HNE := Lib.hid hxy
  have HZ := Lib.hid hz
  have HZY := Lib.hid hzy
  have hx0 : (0 : Int) ≤ x := by omega
  have hxm : (x : Int) < zs.length := by omega
  have hy0 : (0 : Int) ≤ y := by omega
  have hym : (y : Int) < 62 := by omega
  have hl62 : zs.length ≤ 62 := by omega
  have hn0 : 0 < zs.length := by omega
  clear hc hg hT hin hbf hz hzy hxy
  go_enter Tryd.func91, Tryd.ntmps91
  have G1 := HG0.out.below ((Below.refl (w.heap.size + 1) _).alloc (by simp) (.cells #[.int .i64 0, .slice none 0 0] 26))
  have b0 := G1.b0
  have b1 := G1.b1
  go_wp2_with (first | (go_at_call 73; refine his.mono ?_; rintro e w1 ⟨rfl, hb1⟩; have G2 := G1.below (hb1.mono (by omega)); have b0 := G2.b0; have b1 := G2.b1; have c1 := G2.cells x hx) | (go_at_call 115; refine (had _).mono ?_; rintro e w2 ⟨rfl, rfl⟩))
  refine (copyOf_some zs.length b off cap zs w1 G2.lb G2.cells hl62).mono ?_
  rintro e w2 ⟨u, rfl, hO2, hb2⟩
  obtain ⟨g, cu, rfl, hg0, hg1⟩ := own_some8 hO2 rfl hn0
  have s1 : w.heap.size + 1 + 1 ≤ w1.heap.size := by have := hb1.size; simpa using this
  have s2 := hb2.size
  have R2 := Lib.hid ((hb2.block (w.heap.size + 1) (by omega)).trans ((hb1.block (w.heap.size + 1) (by omega)).trans HH1.out))
  have D2 := D0.trans ((hb1.mono (by omega)).trans (hb2.mono (by omega)))
  obtain ⟨w3, h3⟩ : ∃ w3, w3 = w2.alloc (.cells #[.int .i64 zs.length, .slice (some ⟨g, 0, none⟩) zs.length cu] 26) := ⟨_, rfl⟩
  have hb3 : Below w2.heap.size w2 w3 := by rw [h3]; exact (Below.refl _ _).alloc (Nat.le_refl _) _
  have X3 : Hid (w3.heap[w2.heap.size]? = some (.cells #[.int .i64 zs.length, .slice (some ⟨g, 0, none⟩) zs.length cu] 26 (0, 0))) := by show _ = _; rw [h3]; exact World.alloc_heap_new w2 _
  have R3 := Lib.hid ((hb3.block (w.heap.size + 1) (by omega)).trans R2.out)
  have O3 : Hid (Own w3 w1.heap.size (.slice (some ⟨g, 0, none⟩) zs.length cu) zs) := hO2.below hb3
  have D3 := Lib.hid (D2.trans (hb3.mono (by omega)))
  have HTE := Lib.hid (turn_any w1.heap.size g cu zs.length zs x y w3 O3.out hx hy HNE.out hl62 HZ.out HZY.out)
  have l3 := (Array.getElem?_eq_some_iff.1 X3.out).1
  clear hv hb1 hb2 hO2 his had G2 c1 b0 b1 R2 D2 hb3
  go_wp2_with fail
  rw [← h3]
  clear h3
  refine HTE.out.mono ?_
  rintro e w5 ⟨⟨_, rfl⟩, hO5, hg5⟩
  have e5 := hg5.size
  have O5 := Lib.hid hO5
  have X5 := Lib.hid ((hg5.block w2.heap.size (by omega) (by simp; omega)).trans X3.out)
  have R5 := Lib.hid ((hg5.block (w.heap.size + 1) (by omega) (by simp; omega)).trans R3.out)
  have D5 := Lib.hid (D3.out.grown hg5 D3.out.size (fun k e => by cases e; omega))
  clear hO5
  obtain ⟨x0, x1, -, -⟩ := two_cells X5.out
  obtain ⟨r0, r1, f0, f1⟩ := two_cells R5.out
  go_wp2
  have hfin := two_set (a := .int .i64 zs.length) (b := .slice (some ⟨g, 0, none⟩) zs.length cu) R5.out
  have hgr : w5.grownBy ((w5.setCell ⟨w.heap.size + 1, 0, none⟩ (.int .i64 zs.length)).setCell ⟨w.heap.size + 1, 1, none⟩ (.slice (some ⟨g, 0, none⟩) zs.length cu)) (some (w.heap.size + 1)) := grown_set (grown_set ⟨rfl, rfl, rfl, Nat.le_refl _, fun _ _ _ => rfl⟩ _ 0 _) _ 1 _
  refine bodyPost_ret (v := .tuple #[.agg #[.int .i64 zs.length, .slice (some ⟨g, 0, none⟩) zs.length cu], .int .i64 0]) (results_cell2 (p := 8) (u := 9) (ty := 26) rfl _ _ (w.heap.size + 1) 26 _ (0, 0) _ rfl hfin Tryd.underlying26 rfl (by exact info27)) rfl ⟨⟨_, rfl, ?_⟩, ?_⟩
  · exact (O5.out.kept hgr (.inr (by simp [Value.ownBlock]; omega))).base (by omega)
  · exact (D5.out.setCell (p := ⟨w.heap.size + 1, 0, none⟩) (by simp) _).setCell (p := ⟨w.heap.size + 1, 1, none⟩) (by simp) _
end Go.Proofs.YtabkfihhfkmioaaDoor
