/-
  CayleyGraph: both programs. (A tied seat.)
-/
import Derived.Test.YtklgimikdnokcaaDoorCa
import Derived.Test.YtklgimikdnokcaaDoorCb
import Derived.Test.YtklgimikdnokcaaDoorCd
namespace Go.Proofs.YtklgimikdnokcaaDoor
set_option maxRecDepth 100000
open Go.RowKit

/-- The Cayley graph: its size and its rows. -/
def caN (a b : Int) (zs : List Int) : Int := if giC a b zs = 0 then (gOrd a.toNat b.toNat : Nat) else 0
def caL (a b : Int) (zs : List Int) : List Int := if giC a b zs = 0 then proR a.toNat b.toNat zs else []
theorem caL_length (a b : Int) (zs : List Int) : (caL a b zs).length ≤ 62 := by
  unfold caL
  split
  · rename_i h
    obtain ⟨k, p, rfl, rfl, hg, _⟩ := giC_zero h
    rw [proR_length, Int.toNat_natCast, Int.toNat_natCast]
    exact gOrd_le hg
  · simp

set_option maxHeartbeats 1600000 in
theorem specCa_no (a b : Int) (v : Value) (zs : List Int) (w : World) (hs : Sl w v zs) (hl : zs.length ≤ 9223372036854775807) (h : giC a b zs ≠ 0) :
    Calls Tryd.prog 18 #[gv a b, v] w fun e w' => GRes w.heap.size 0 [] (giC a b zs) e w' ∧ Below w.heap.size w w' := by
  obtain ⟨W, hW⟩ : ∃ W, W = ((w.alloc (.cells #[.int .i64 a, .int .i64 b] 27)).alloc (.cells #[.int .i64 0, .slice none 0 0] 36)) := ⟨_, rfl⟩
  have D0 : Below w.heap.size w W := by rw [hW]; exact ((Below.refl _ _).alloc (Nat.le_refl _) _).alloc (by simp) _
  have HB0 : Hid (W.heap[w.heap.size]? = some (.cells #[.int .i64 a, .int .i64 b] 27 (0, 0))) := by rw [hW]; exact heap_old_at (World.alloc_heap_new w _) _
  have HH : Hid (W.heap[w.heap.size + 1]? = some (.cells #[.int .i64 0, .slice none 0 0] 36 (0, 0))) := by rw [hW]; exact heap_new_at _ _ _ (by simp)
  have hsz : w.heap.size + 2 ≤ W.heap.size := by rw [hW]; simp
  have hc := l05Given_any a b v zs W (hs.below D0) hl
  obtain ⟨c, hcc⟩ : ∃ c, c = giC a b zs := ⟨_, rfl⟩
  rw [← hcc] at hc h ⊢
  have e0 : (c == 0) = false := by simpa using h
  clear hcc h hs
  unfold gv at *
  obtain ⟨r0, r1, -, -⟩ := two_cells HB0.out
  rw [hW] at r0 r1
  go_enter Tryd.func18, Tryd.ntmps18
  go_wp2_with fail
  rw [← hW]
  clear hW r0 r1
  refine hc.mono ?_
  rintro e w1 ⟨rfl, hb1⟩
  have RB := Lib.hid ((hb1.block (w.heap.size + 1) (by omega)).trans HH.out)
  obtain ⟨q0, q1, k0, k1⟩ := two_cells RB.out
  go_wp2_with fail
  have hfin := two_set (a := .int .i64 0) (b := .slice none 0 0) RB.out
  refine bodyPost_ret (v := .tuple #[.agg #[.int .i64 0, .slice none 0 0], .int .i64 c]) (results_cell2 (p := 4) (u := 5) (ty := 36) rfl _ _ (w.heap.size + 1) 36 _ (0, 0) _ rfl hfin Tryd.underlying36 rfl (by exact info27)) rfl ⟨⟨_, rfl, ?_⟩, ?_⟩
  · exact Own.nil _ _
  · exact ((D0.trans (hb1.mono D0.size)).setCell (p := ⟨w.heap.size + 1, 0, none⟩) (by simp) _).setCell (p := ⟨w.heap.size + 1, 1, none⟩) (by simp) _

set_option maxHeartbeats 1600000 in
theorem implCa_no (a b : Int) (v : Value) (zs : List Int) (w : World) (hs : Sl w v zs) (hl : zs.length ≤ 9223372036854775807) (hT : Tab w) (h : giC a b zs ≠ 0) :
    Calls Tryd.prog 19 #[gv a b, v] w fun e w' => GRes w.heap.size 0 [] (giC a b zs) e w' ∧ Below w.heap.size w w' := by
  obtain ⟨W, hW⟩ : ∃ W, W = ((w.alloc (.cells #[.int .i64 a, .int .i64 b] 27)).alloc (.cells #[.int .i64 0, .slice none 0 0] 36)) := ⟨_, rfl⟩
  have D0 : Below w.heap.size w W := by rw [hW]; exact ((Below.refl _ _).alloc (Nat.le_refl _) _).alloc (by simp) _
  have HB0 : Hid (W.heap[w.heap.size]? = some (.cells #[.int .i64 a, .int .i64 b] 27 (0, 0))) := by rw [hW]; exact heap_old_at (World.alloc_heap_new w _) _
  have HH : Hid (W.heap[w.heap.size + 1]? = some (.cells #[.int .i64 0, .slice none 0 0] 36 (0, 0))) := by rw [hW]; exact heap_new_at _ _ _ (by simp)
  have hsz : w.heap.size + 2 ≤ W.heap.size := by rw [hW]; simp
  have hc := groupSet_no a b v zs W (hs.below D0) hl (hT.belowAll D0) h
  obtain ⟨c, hcc⟩ : ∃ c, c = giC a b zs := ⟨_, rfl⟩
  rw [← hcc] at hc h ⊢
  have e0 : (c == 0) = false := by simpa using h
  clear hcc h hs hT
  unfold gv at *
  obtain ⟨r0, r1, -, -⟩ := two_cells HB0.out
  rw [hW] at r0 r1
  go_enter Tryd.func19, Tryd.ntmps19
  go_wp2_with fail
  rw [← hW]
  clear hW r0 r1
  refine hc.mono ?_
  rintro e w1 ⟨rfl, hb1⟩
  have RB := Lib.hid ((hb1.block (w.heap.size + 1) (by omega)).trans HH.out)
  obtain ⟨q0, q1, k0, k1⟩ := two_cells RB.out
  go_wp2_with fail
  have hfin := two_set (a := .int .i64 0) (b := .slice none 0 0) RB.out
  refine bodyPost_ret (v := .tuple #[.agg #[.int .i64 0, .slice none 0 0], .int .i64 c]) (results_cell2 (p := 4) (u := 5) (ty := 36) rfl _ _ (w.heap.size + 1) 36 _ (0, 0) _ rfl hfin Tryd.underlying36 rfl (by exact info27)) rfl ⟨⟨_, rfl, ?_⟩, ?_⟩
  · exact Own.nil _ _
  · exact ((D0.trans (hb1.mono D0.size)).setCell (p := ⟨w.heap.size + 1, 0, none⟩) (by simp) _).setCell (p := ⟨w.heap.size + 1, 1, none⟩) (by simp) _

set_option maxHeartbeats 1600000 in
theorem specCa_yes (k p : Nat) (v : Value) (zs : List Int) (w : World) (hs : Sl w v zs) (hl : zs.length ≤ 9223372036854775807) (h : gOk k p = true) (hj : elOk (gOrd k p) zs zs.length = true) (hq : clE k p zs = zs) :
    Calls Tryd.prog 18 #[gv k p, v] w fun e w' => GRes w.heap.size (gOrd k p : Nat) (proR k p zs) 0 e w' ∧ Below w.heap.size w w' := by
  obtain ⟨W, hW⟩ : ∃ W, W = ((w.alloc (.cells #[.int .i64 k, .int .i64 p] 27)).alloc (.cells #[.int .i64 0, .slice none 0 0] 36)) := ⟨_, rfl⟩
  have D0 : Below w.heap.size w W := by rw [hW]; exact ((Below.refl _ _).alloc (Nat.le_refl _) _).alloc (by simp) _
  have HB0 : Hid (W.heap[w.heap.size]? = some (.cells #[.int .i64 k, .int .i64 p] 27 (0, 0))) := by rw [hW]; exact heap_old_at (World.alloc_heap_new w _) _
  have HH : Hid (W.heap[w.heap.size + 1]? = some (.cells #[.int .i64 0, .slice none 0 0] 36 (0, 0))) := by rw [hW]; exact heap_new_at _ _ _ (by simp)
  have hsz : w.heap.size + 2 ≤ W.heap.size := by rw [hW]; simp
  have hc := l05Given_any k p v zs W (hs.below D0) hl
  rw [giC_yes (elC_yes h hj) hq] at hc
  have HS := Lib.hid (hs.below D0)
  have HCL := Lib.hid (fun W hsw => l05Cayley_any k p v zs W h hj hsw hl)
  rw [cay_rows h hj] at HCL
  rw [show (rowsF (gOrd k p) fun x => proF k p x zs) = proR k p zs from rfl] at HCL
  have hn := gOrd_le h
  have HLN := Lib.hid (proR_length k p zs)
  obtain ⟨n, hnn⟩ : ∃ n, n = gOrd k p := ⟨_, rfl⟩
  obtain ⟨R, hR⟩ : ∃ R, R = proR k p zs := ⟨_, rfl⟩
  rw [← hR] at HCL HLN ⊢
  rw [← hnn] at HCL HLN hn ⊢
  clear hs h hj hq hnn hR
  simp only [gv] at *
  obtain ⟨r0, r1, -, -⟩ := two_cells HB0.out
  rw [hW] at r0 r1
  go_enter Tryd.func18, Tryd.ntmps18
  go_wp2_with fail
  rw [← hW]
  clear hW r0 r1
  refine hc.mono ?_
  rintro e w1 ⟨rfl, hb1⟩
  have s1 := hb1.size
  have hs1 := HS.out.below hb1
  obtain ⟨r0, r1, -, -⟩ := two_cells ((hb1.block w.heap.size (by omega)).trans HB0.out)
  go_wp2_with fail
  refine (HCL.out w1 hs1).mono ?_
  rintro e w2 ⟨⟨g, rfl, hB2, hg⟩, hb2⟩
  have HB2 := Lib.hid hB2
  have E2 := hb1.trans (hb2.mono s1)
  have RB := Lib.hid ((E2.block (w.heap.size + 1) (by omega)).trans HH.out)
  obtain ⟨q0, q1, k0, k1⟩ := two_cells RB.out
  clear hB2 hb1 hb2 hs1 hc
  go_wp2_with fail
  have hfin := two_set (a := .int .i64 n) (b := .slice (some ⟨g, 0, none⟩) n n) RB.out
  refine bodyPost_ret (v := .tuple #[.agg #[.int .i64 n, .slice (some ⟨g, 0, none⟩) n n], .int .i64 0]) (results_cell2 (p := 4) (u := 5) (ty := 36) rfl _ _ (w.heap.size + 1) 36 _ (0, 0) _ rfl hfin Tryd.underlying36 rfl (by exact info27)) rfl ⟨⟨_, rfl, ?_⟩, ?_⟩
  · have hh := Own.of_blk ((HB2.out.other (a := ⟨w.heap.size + 1, 0, none⟩) (by simp; omega) (.int .i64 n)).other (a := ⟨w.heap.size + 1, 1, none⟩) (by simp; omega) (.slice (some ⟨g, 0, none⟩) n n)) (B := w.heap.size) (by omega) (by rw [HLN.out]; unfold maxLen; omega)
    rw [HLN.out] at hh
    exact hh
  · exact ((D0.trans (E2.mono D0.size)).setCell (p := ⟨w.heap.size + 1, 0, none⟩) (by simp) _).setCell (p := ⟨w.heap.size + 1, 1, none⟩) (by simp) _

set_option maxHeartbeats 1600000 in
theorem implCa_0 (p : Nat) (v : Value) (zs : List Int) (w : World) (hs : Sl w v zs) (hl : zs.length ≤ 9223372036854775807) (h : gOk 0 p = true) (hj : elOk (gOrd 0 p) zs zs.length = true) (hT : Tab w) (hq : clE 0 p zs = zs) :
    Calls Tryd.prog 19 #[gv 0 p, v] w fun e w' => GRes w.heap.size (gOrd 0 p : Nat) (proR 0 p zs) 0 e w' ∧ Below w.heap.size w w' := by
  obtain ⟨W, hW⟩ : ∃ W, W = ((w.alloc (.cells #[.int .i64 0, .int .i64 p] 27)).alloc (.cells #[.int .i64 0, .slice none 0 0] 36)) := ⟨_, rfl⟩
  have D0 : Below w.heap.size w W := by rw [hW]; exact ((Below.refl _ _).alloc (Nat.le_refl _) _).alloc (by simp) _
  have HB0 : Hid (W.heap[w.heap.size]? = some (.cells #[.int .i64 0, .int .i64 p] 27 (0, 0))) := by rw [hW]; exact heap_old_at (World.alloc_heap_new w _) _
  have HH : Hid (W.heap[w.heap.size + 1]? = some (.cells #[.int .i64 0, .slice none 0 0] 36 (0, 0))) := by rw [hW]; exact heap_new_at _ _ _ (by simp)
  have hsz : w.heap.size + 2 ≤ W.heap.size := by rw [hW]; simp
  have hc := groupSet_0 p v zs W (hs.below D0) hl h hj (hT.belowAll D0) hq
  have HS := Lib.hid (hs.below D0)
  have HCL := Lib.hid (fun W hsw => graphOf_0 p v zs W h hj hsw hl)
  have hn := gOrd_le h
  have HLN := Lib.hid (proR_length 0 p zs)
  obtain ⟨n, hnn⟩ : ∃ n, n = gOrd 0 p := ⟨_, rfl⟩
  obtain ⟨R, hR⟩ : ∃ R, R = proR 0 p zs := ⟨_, rfl⟩
  rw [← hR] at HCL HLN ⊢
  rw [← hnn] at HCL HLN hn ⊢
  clear hs h hj hq hnn hR hT
  simp only [gv, gIf] at *
  obtain ⟨r0, r1, -, -⟩ := two_cells HB0.out
  rw [hW] at r0 r1
  go_enter Tryd.func19, Tryd.ntmps19
  go_wp2_with fail
  rw [← hW]
  clear hW r0 r1
  refine hc.mono ?_
  rintro e w1 ⟨rfl, hb1⟩
  have s1 := hb1.size
  have hs1 := HS.out.below hb1
  go_wp2_with fail
  refine (HCL.out w1 hs1).mono ?_
  rintro e w2 ⟨⟨g, rfl, hB2, hg⟩, hb2⟩
  have HB2 := Lib.hid hB2
  have E2 := hb1.trans (hb2.mono s1)
  have RB := Lib.hid ((E2.block (w.heap.size + 1) (by omega)).trans HH.out)
  obtain ⟨q0, q1, k0, k1⟩ := two_cells RB.out
  clear hB2 hb1 hb2 hs1 hc
  go_wp2_with fail
  have hfin := two_set (a := .int .i64 n) (b := .slice (some ⟨g, 0, none⟩) n n) RB.out
  refine bodyPost_ret (v := .tuple #[.agg #[.int .i64 n, .slice (some ⟨g, 0, none⟩) n n], .int .i64 0]) (results_cell2 (p := 4) (u := 5) (ty := 36) rfl _ _ (w.heap.size + 1) 36 _ (0, 0) _ rfl hfin Tryd.underlying36 rfl (by exact info27)) rfl ⟨⟨_, rfl, ?_⟩, ?_⟩
  · have hh := Own.of_blk ((HB2.out.other (a := ⟨w.heap.size + 1, 0, none⟩) (by simp; omega) (.int .i64 n)).other (a := ⟨w.heap.size + 1, 1, none⟩) (by simp; omega) (.slice (some ⟨g, 0, none⟩) n n)) (B := w.heap.size) (by omega) (by rw [HLN.out]; unfold maxLen; omega)
    rw [HLN.out] at hh
    exact hh
  · exact ((D0.trans (E2.mono D0.size)).setCell (p := ⟨w.heap.size + 1, 0, none⟩) (by simp) _).setCell (p := ⟨w.heap.size + 1, 1, none⟩) (by simp) _

set_option maxHeartbeats 1600000 in
theorem implCa_1 (p : Nat) (v : Value) (zs : List Int) (w : World) (hs : Sl w v zs) (hl : zs.length ≤ 9223372036854775807) (h : gOk 1 p = true) (hj : elOk (gOrd 1 p) zs zs.length = true) (hT : Tab w) (hq : clE 1 p zs = zs) :
    Calls Tryd.prog 19 #[gv 1 p, v] w fun e w' => GRes w.heap.size (gOrd 1 p : Nat) (proR 1 p zs) 0 e w' ∧ Below w.heap.size w w' := by
  obtain ⟨W, hW⟩ : ∃ W, W = ((w.alloc (.cells #[.int .i64 1, .int .i64 p] 27)).alloc (.cells #[.int .i64 0, .slice none 0 0] 36)) := ⟨_, rfl⟩
  have D0 : Below w.heap.size w W := by rw [hW]; exact ((Below.refl _ _).alloc (Nat.le_refl _) _).alloc (by simp) _
  have HB0 : Hid (W.heap[w.heap.size]? = some (.cells #[.int .i64 1, .int .i64 p] 27 (0, 0))) := by rw [hW]; exact heap_old_at (World.alloc_heap_new w _) _
  have HH : Hid (W.heap[w.heap.size + 1]? = some (.cells #[.int .i64 0, .slice none 0 0] 36 (0, 0))) := by rw [hW]; exact heap_new_at _ _ _ (by simp)
  have hsz : w.heap.size + 2 ≤ W.heap.size := by rw [hW]; simp
  have hc := groupSet_1 p v zs W (hs.below D0) hl h hj (hT.belowAll D0) hq
  have HS := Lib.hid (hs.below D0)
  have HCL := Lib.hid (fun W hsw => graphOf_1 p v zs W h hj hsw hl)
  have hn := gOrd_le h
  have HLN := Lib.hid (proR_length 1 p zs)
  obtain ⟨n, hnn⟩ : ∃ n, n = gOrd 1 p := ⟨_, rfl⟩
  obtain ⟨R, hR⟩ : ∃ R, R = proR 1 p zs := ⟨_, rfl⟩
  rw [← hR] at HCL HLN ⊢
  rw [← hnn] at HCL HLN hn ⊢
  clear hs h hj hq hnn hR hT
  simp only [gv, gIf] at *
  obtain ⟨r0, r1, -, -⟩ := two_cells HB0.out
  rw [hW] at r0 r1
  go_enter Tryd.func19, Tryd.ntmps19
  go_wp2_with fail
  rw [← hW]
  clear hW r0 r1
  refine hc.mono ?_
  rintro e w1 ⟨rfl, hb1⟩
  have s1 := hb1.size
  have hs1 := HS.out.below hb1
  go_wp2_with fail
  refine (HCL.out w1 hs1).mono ?_
  rintro e w2 ⟨⟨g, rfl, hB2, hg⟩, hb2⟩
  have HB2 := Lib.hid hB2
  have E2 := hb1.trans (hb2.mono s1)
  have RB := Lib.hid ((E2.block (w.heap.size + 1) (by omega)).trans HH.out)
  obtain ⟨q0, q1, k0, k1⟩ := two_cells RB.out
  clear hB2 hb1 hb2 hs1 hc
  go_wp2_with fail
  have hfin := two_set (a := .int .i64 n) (b := .slice (some ⟨g, 0, none⟩) n n) RB.out
  refine bodyPost_ret (v := .tuple #[.agg #[.int .i64 n, .slice (some ⟨g, 0, none⟩) n n], .int .i64 0]) (results_cell2 (p := 4) (u := 5) (ty := 36) rfl _ _ (w.heap.size + 1) 36 _ (0, 0) _ rfl hfin Tryd.underlying36 rfl (by exact info27)) rfl ⟨⟨_, rfl, ?_⟩, ?_⟩
  · have hh := Own.of_blk ((HB2.out.other (a := ⟨w.heap.size + 1, 0, none⟩) (by simp; omega) (.int .i64 n)).other (a := ⟨w.heap.size + 1, 1, none⟩) (by simp; omega) (.slice (some ⟨g, 0, none⟩) n n)) (B := w.heap.size) (by omega) (by rw [HLN.out]; unfold maxLen; omega)
    rw [HLN.out] at hh
    exact hh
  · exact ((D0.trans (E2.mono D0.size)).setCell (p := ⟨w.heap.size + 1, 0, none⟩) (by simp) _).setCell (p := ⟨w.heap.size + 1, 1, none⟩) (by simp) _

set_option maxHeartbeats 1600000 in
theorem implCa_2 (p : Nat) (v : Value) (zs : List Int) (w : World) (hs : Sl w v zs) (hl : zs.length ≤ 9223372036854775807) (h : gOk 2 p = true) (hj : elOk (gOrd 2 p) zs zs.length = true) (hT : Tab w) (hq : clE 2 p zs = zs) :
    Calls Tryd.prog 19 #[gv 2 p, v] w fun e w' => GRes w.heap.size (gOrd 2 p : Nat) (proR 2 p zs) 0 e w' ∧ Below w.heap.size w w' := by
  obtain ⟨W, hW⟩ : ∃ W, W = ((w.alloc (.cells #[.int .i64 2, .int .i64 p] 27)).alloc (.cells #[.int .i64 0, .slice none 0 0] 36)) := ⟨_, rfl⟩
  have D0 : Below w.heap.size w W := by rw [hW]; exact ((Below.refl _ _).alloc (Nat.le_refl _) _).alloc (by simp) _
  have HB0 : Hid (W.heap[w.heap.size]? = some (.cells #[.int .i64 2, .int .i64 p] 27 (0, 0))) := by rw [hW]; exact heap_old_at (World.alloc_heap_new w _) _
  have HH : Hid (W.heap[w.heap.size + 1]? = some (.cells #[.int .i64 0, .slice none 0 0] 36 (0, 0))) := by rw [hW]; exact heap_new_at _ _ _ (by simp)
  have hsz : w.heap.size + 2 ≤ W.heap.size := by rw [hW]; simp
  have hc := groupSet_2 p v zs W (hs.below D0) hl h hj (hT.belowAll D0) hq
  have HS := Lib.hid (hs.below D0)
  have HCL := Lib.hid (fun W hsw => graphOf_2 p v zs W h hj hsw hl)
  have hn := gOrd_le h
  have HLN := Lib.hid (proR_length 2 p zs)
  obtain ⟨n, hnn⟩ : ∃ n, n = gOrd 2 p := ⟨_, rfl⟩
  obtain ⟨R, hR⟩ : ∃ R, R = proR 2 p zs := ⟨_, rfl⟩
  rw [← hR] at HCL HLN ⊢
  rw [← hnn] at HCL HLN hn ⊢
  clear hs h hj hq hnn hR hT
  simp only [gv, gIf] at *
  obtain ⟨r0, r1, -, -⟩ := two_cells HB0.out
  rw [hW] at r0 r1
  go_enter Tryd.func19, Tryd.ntmps19
  go_wp2_with fail
  rw [← hW]
  clear hW r0 r1
  refine hc.mono ?_
  rintro e w1 ⟨rfl, hb1⟩
  have s1 := hb1.size
  have hs1 := HS.out.below hb1
  go_wp2_with fail
  refine (HCL.out w1 hs1).mono ?_
  rintro e w2 ⟨⟨g, rfl, hB2, hg⟩, hb2⟩
  have HB2 := Lib.hid hB2
  have E2 := hb1.trans (hb2.mono s1)
  have RB := Lib.hid ((E2.block (w.heap.size + 1) (by omega)).trans HH.out)
  obtain ⟨q0, q1, k0, k1⟩ := two_cells RB.out
  clear hB2 hb1 hb2 hs1 hc
  go_wp2_with fail
  have hfin := two_set (a := .int .i64 n) (b := .slice (some ⟨g, 0, none⟩) n n) RB.out
  refine bodyPost_ret (v := .tuple #[.agg #[.int .i64 n, .slice (some ⟨g, 0, none⟩) n n], .int .i64 0]) (results_cell2 (p := 4) (u := 5) (ty := 36) rfl _ _ (w.heap.size + 1) 36 _ (0, 0) _ rfl hfin Tryd.underlying36 rfl (by exact info27)) rfl ⟨⟨_, rfl, ?_⟩, ?_⟩
  · have hh := Own.of_blk ((HB2.out.other (a := ⟨w.heap.size + 1, 0, none⟩) (by simp; omega) (.int .i64 n)).other (a := ⟨w.heap.size + 1, 1, none⟩) (by simp; omega) (.slice (some ⟨g, 0, none⟩) n n)) (B := w.heap.size) (by omega) (by rw [HLN.out]; unfold maxLen; omega)
    rw [HLN.out] at hh
    exact hh
  · exact ((D0.trans (E2.mono D0.size)).setCell (p := ⟨w.heap.size + 1, 0, none⟩) (by simp) _).setCell (p := ⟨w.heap.size + 1, 1, none⟩) (by simp) _

theorem specCa_any (a b : Int) (v : Value) (zs : List Int) (w : World) (hs : Sl w v zs) (hl : zs.length ≤ 9223372036854775807) :
    Calls Tryd.prog 18 #[gv a b, v] w fun e w' => GRes w.heap.size (caN a b zs) (caL a b zs) (giC a b zs) e w' ∧ Below w.heap.size w w' := by
  unfold caN caL
  by_cases h : giC a b zs = 0
  · rw [if_pos h, if_pos h, h]
    obtain ⟨k, p, rfl, rfl, hg, hj, hn⟩ := giC_zero h
    simp only [Int.toNat_natCast]
    exact specCa_yes k p v zs w hs hl hg hj hn
  · rw [if_neg h, if_neg h]
    exact specCa_no a b v zs w hs hl h

theorem implCa_any (a b : Int) (v : Value) (zs : List Int) (w : World) (hs : Sl w v zs) (hl : zs.length ≤ 9223372036854775807) (hT : Tab w) :
    Calls Tryd.prog 19 #[gv a b, v] w fun e w' => GRes w.heap.size (caN a b zs) (caL a b zs) (giC a b zs) e w' ∧ Below w.heap.size w w' := by
  unfold caN caL
  by_cases h : giC a b zs = 0
  · rw [if_pos h, if_pos h, h]
    obtain ⟨k, p, rfl, rfl, hg, hj, hn⟩ := giC_zero h
    simp only [Int.toNat_natCast]
    match k, hg, hj, hn with
    | 0, hg, hj, hn => exact implCa_0 p v zs w hs hl hg hj hT hn
    | 1, hg, hj, hn => exact implCa_1 p v zs w hs hl hg hj hT hn
    | 2, hg, hj, hn => exact implCa_2 p v zs w hs hl hg hj hT hn
    | k + 3, hg, _, _ => simp [gOk] at hg
  · rw [if_neg h, if_neg h]
    exact implCa_no a b v zs w hs hl hT h

end Go.Proofs.YtklgimikdnokcaaDoor
