/-
  spec.PutBeside: its answer, whatever comes in.
-/
import Derived.Test.YtbpcdgfcdahnlaaDoorPb3
import Derived.Test.YtbpcdgfcdahnlaaDoorPb4
namespace Go.Proofs.YtbpcdgfcdahnlaaDoor
set_option maxRecDepth 100000
open Go.RowKit

set_option maxHeartbeats 1600000 in
theorem specPb_no1 (n m : Int) (v v2 : Value) (zs : List Int) (w : World) (h : Sl w v zs) (hg : isG n zs = false) (hl : zs.length ≤ 9223372036854775807)  :
    Calls Tryd.prog 41 #[.agg #[.int .i64 n, v], .agg #[.int .i64 m, v2]] w fun e w' => GRes w.heap.size 0 [] 1 e w' ∧ Below w.heap.size w w' := by
  obtain ⟨W, hW⟩ : ∃ W, W = (((w.alloc (.cells #[.int .i64 n, v] 28)).alloc (.cells #[.int .i64 m, v2] 28)).alloc (.cells #[.int .i64 0, .slice none 0 0] 28)) := ⟨_, rfl⟩
  have D0 : Below w.heap.size w W := by rw [hW]; exact (((Below.refl _ _).alloc (Nat.le_refl _) _).alloc (by simp) _).alloc (by simp; omega) _
  have hsz : W.heap.size = w.heap.size + 3 := by rw [hW]; simp
  have K2 : W.heap[w.heap.size]? = some (.cells #[.int .i64 n, v] 28 (0, 0)) := by rw [hW]; exact heap_old_at (heap_old_at (heap_new_at w (.cells #[.int .i64 n, v] 28) w.heap.size rfl) _) _
  have K4 : W.heap[w.heap.size + 2]? = some (.cells #[.int .i64 0, .slice none 0 0] 28 (0, 0)) := by rw [hW]; exact heap_new_at ((w.alloc (.cells #[.int .i64 n, v] 28)).alloc (.cells #[.int .i64 m, v2] 28)) (.cells #[.int .i64 0, .slice none 0 0] 28) (w.heap.size + 2) (by simp)
  have his := l01Is_any n v zs W (h.below D0) hl
  rw [hg] at his
  have HK2 := Lib.hid K2; have HK4 := Lib.hid K4; have HSZ := Lib.hid hsz
  clear K2 K4 hsz h hg
  go_enter Tryd.func41, Tryd.ntmps41
  obtain ⟨a0, a1, -, -⟩ := two_cells HK2.out
  rw [hW] at a0 a1
  go_wp2_with fail
  rw [← hW] at *
  clear hW
  refine his.mono ?_
  rintro e w1 ⟨rfl, hb1⟩
  have RB := Lib.hid ((hb1.block (w.heap.size + 2) (by rw [HSZ.out]; omega)).trans HK4.out)
  obtain ⟨r0, r1, g0, g1⟩ := two_cells RB.out
  have D1 := D0.trans (hb1.mono D0.size)
  clear a0 a1 his hb1
  go_wp2
  have hfin := two_set (a := .int .i64 0) (b := .slice none 0 0) RB.out
  refine bodyPost_ret (v := .tuple #[.agg #[.int .i64 0, .slice none 0 0], .int .i64 1]) (results_cell2 (p := 4) (u := 5) (ty := 28) rfl _ _ (w.heap.size + 2) 28 _ (0, 0) _ rfl hfin Tryd.underlying28 rfl (by exact info27)) rfl ⟨⟨_, rfl, Own.nil _ _⟩, ?_⟩
  exact (D1.setCell (p := ⟨w.heap.size + 2, 0, none⟩) (by simp) _).setCell (p := ⟨w.heap.size + 2, 1, none⟩) (by simp) _

set_option maxHeartbeats 1600000 in
theorem specPb_no2 (n m : Int) (v v2 : Value) (zs hs : List Int) (w : World) (h : Sl w v zs) (hg : isG n zs = true) (hl : zs.length ≤ 9223372036854775807) (h2 : Sl w v2 hs) (hh : isG m hs = false) (hl2 : hs.length ≤ 9223372036854775807)  :
    Calls Tryd.prog 41 #[.agg #[.int .i64 n, v], .agg #[.int .i64 m, v2]] w fun e w' => GRes w.heap.size 0 [] 1 e w' ∧ Below w.heap.size w w' := by
  obtain ⟨W, hW⟩ : ∃ W, W = (((w.alloc (.cells #[.int .i64 n, v] 28)).alloc (.cells #[.int .i64 m, v2] 28)).alloc (.cells #[.int .i64 0, .slice none 0 0] 28)) := ⟨_, rfl⟩
  have D0 : Below w.heap.size w W := by rw [hW]; exact (((Below.refl _ _).alloc (Nat.le_refl _) _).alloc (by simp) _).alloc (by simp; omega) _
  have hsz : W.heap.size = w.heap.size + 3 := by rw [hW]; simp
  have K2 : W.heap[w.heap.size]? = some (.cells #[.int .i64 n, v] 28 (0, 0)) := by rw [hW]; exact heap_old_at (heap_old_at (heap_new_at w (.cells #[.int .i64 n, v] 28) w.heap.size rfl) _) _
  have K3 : W.heap[w.heap.size + 1]? = some (.cells #[.int .i64 m, v2] 28 (0, 0)) := by rw [hW]; exact heap_old_at (heap_new_at (w.alloc (.cells #[.int .i64 n, v] 28)) (.cells #[.int .i64 m, v2] 28) (w.heap.size + 1) (by simp)) _
  have K4 : W.heap[w.heap.size + 2]? = some (.cells #[.int .i64 0, .slice none 0 0] 28 (0, 0)) := by rw [hW]; exact heap_new_at ((w.alloc (.cells #[.int .i64 n, v] 28)).alloc (.cells #[.int .i64 m, v2] 28)) (.cells #[.int .i64 0, .slice none 0 0] 28) (w.heap.size + 2) (by simp)
  have his := l01Is_any n v zs W (h.below D0) hl
  rw [hg] at his
  have his2 := fun W' (hb : Below W.heap.size W W') => l01Is_any m v2 hs W' ((h2.below D0).below hb) hl2
  rw [hh] at his2
  have HI2 := Lib.hid his2
  have HK2 := Lib.hid K2; have HK3 := Lib.hid K3; have HK4 := Lib.hid K4; have HSZ := Lib.hid hsz
  clear K2 K3 K4 hsz h hg h2 hh his2
  go_enter Tryd.func41, Tryd.ntmps41
  obtain ⟨a0, a1, -, -⟩ := two_cells HK2.out
  obtain ⟨a2, a3, -, -⟩ := two_cells HK3.out
  rw [hW] at a0 a1 a2 a3
  go_wp2_with fail
  rw [← hW] at *
  clear hW
  refine his.mono ?_
  rintro e w1 ⟨rfl, hb1⟩
  clear a0 a1 a2 a3
  have s1 := hb1.size
  obtain ⟨a2, a3, -, -⟩ := two_cells ((hb1.block (w.heap.size + 1) (by rw [HSZ.out]; omega)).trans HK3.out)
  go_wp2_with fail
  refine (HI2.out w1 hb1).mono ?_
  rintro e w2 ⟨rfl, hb2⟩
  have hb3 : Below W.heap.size W w2 := hb1.trans (hb2.mono s1)
  have RB := Lib.hid ((hb3.block (w.heap.size + 2) (by rw [HSZ.out]; omega)).trans HK4.out)
  obtain ⟨r0, r1, g0, g1⟩ := two_cells RB.out
  have D1 := D0.trans (hb3.mono D0.size)
  clear a2 a3 his hb1 hb2 hb3
  go_wp2
  have hfin := two_set (a := .int .i64 0) (b := .slice none 0 0) RB.out
  refine bodyPost_ret (v := .tuple #[.agg #[.int .i64 0, .slice none 0 0], .int .i64 1]) (results_cell2 (p := 4) (u := 5) (ty := 28) rfl _ _ (w.heap.size + 2) 28 _ (0, 0) _ rfl hfin Tryd.underlying28 rfl (by exact info27)) rfl ⟨⟨_, rfl, Own.nil _ _⟩, ?_⟩
  exact (D1.setCell (p := ⟨w.heap.size + 2, 0, none⟩) (by simp) _).setCell (p := ⟨w.heap.size + 2, 1, none⟩) (by simp) _
set_option maxHeartbeats 1600000 in
theorem specPb_no3 (n m : Int) (v v2 : Value) (zs hs : List Int) (w : World) (h : Sl w v zs) (hg : isG n zs = true) (hl : zs.length ≤ 9223372036854775807) (h2 : Sl w v2 hs) (hh : isG m hs = true) (hl2 : hs.length ≤ 9223372036854775807)  (hnm : 62 < n + m) :
    Calls Tryd.prog 41 #[.agg #[.int .i64 n, v], .agg #[.int .i64 m, v2]] w fun e w' => GRes w.heap.size 0 [] 3 e w' ∧ Below w.heap.size w w' := by
  obtain ⟨W, hW⟩ : ∃ W, W = (((w.alloc (.cells #[.int .i64 n, v] 28)).alloc (.cells #[.int .i64 m, v2] 28)).alloc (.cells #[.int .i64 0, .slice none 0 0] 28)) := ⟨_, rfl⟩
  have D0 : Below w.heap.size w W := by rw [hW]; exact (((Below.refl _ _).alloc (Nat.le_refl _) _).alloc (by simp) _).alloc (by simp; omega) _
  have hsz : W.heap.size = w.heap.size + 3 := by rw [hW]; simp
  have K2 : W.heap[w.heap.size]? = some (.cells #[.int .i64 n, v] 28 (0, 0)) := by rw [hW]; exact heap_old_at (heap_old_at (heap_new_at w (.cells #[.int .i64 n, v] 28) w.heap.size rfl) _) _
  have K3 : W.heap[w.heap.size + 1]? = some (.cells #[.int .i64 m, v2] 28 (0, 0)) := by rw [hW]; exact heap_old_at (heap_new_at (w.alloc (.cells #[.int .i64 n, v] 28)) (.cells #[.int .i64 m, v2] 28) (w.heap.size + 1) (by simp)) _
  have K4 : W.heap[w.heap.size + 2]? = some (.cells #[.int .i64 0, .slice none 0 0] 28 (0, 0)) := by rw [hW]; exact heap_new_at ((w.alloc (.cells #[.int .i64 n, v] 28)).alloc (.cells #[.int .i64 m, v2] 28)) (.cells #[.int .i64 0, .slice none 0 0] 28) (w.heap.size + 2) (by simp)
  have his := l01Is_any n v zs W (h.below D0) hl
  rw [hg] at his
  have his2 := fun W' (hb : Below W.heap.size W W') => l01Is_any m v2 hs W' ((h2.below D0).below hb) hl2
  rw [hh] at his2
  have HI2 := Lib.hid his2
  have hb1' := (isG_parts hg).2.1
  have hb1'' := (isG_parts hg).1
  have hb2' := (isG_parts hh).2.1
  have hb2'' := (isG_parts hh).1
  have HK2 := Lib.hid K2; have HK3 := Lib.hid K3; have HK4 := Lib.hid K4; have HSZ := Lib.hid hsz
  clear K2 K3 K4 hsz h hg h2 hh his2
  go_enter Tryd.func41, Tryd.ntmps41
  obtain ⟨a0, a1, -, -⟩ := two_cells HK2.out
  obtain ⟨a2, a3, -, -⟩ := two_cells HK3.out
  rw [hW] at a0 a1 a2 a3
  go_wp2_with fail
  rw [← hW] at *
  clear hW
  refine his.mono ?_
  rintro e w1 ⟨rfl, hb1⟩
  clear a0 a1 a2 a3
  have s1 := hb1.size
  obtain ⟨a2, a3, -, -⟩ := two_cells ((hb1.block (w.heap.size + 1) (by rw [HSZ.out]; omega)).trans HK3.out)
  go_wp2_with fail
  refine (HI2.out w1 hb1).mono ?_
  rintro e w2 ⟨rfl, hb2⟩
  clear a2 a3
  have hb3 : Below W.heap.size W w2 := hb1.trans (hb2.mono s1)
  obtain ⟨a0, a1, -, -⟩ := two_cells ((hb3.block w.heap.size (by rw [HSZ.out]; omega)).trans HK2.out)
  obtain ⟨a2, a3, -, -⟩ := two_cells ((hb3.block (w.heap.size + 1) (by rw [HSZ.out]; omega)).trans HK3.out)
  have RB := Lib.hid ((hb3.block (w.heap.size + 2) (by rw [HSZ.out]; omega)).trans HK4.out)
  obtain ⟨r0, r1, g0, g1⟩ := two_cells RB.out
  have D1 := D0.trans (hb3.mono D0.size)
  clear his hb1 hb2 hb3
  go_wp2
  have hfin := two_set (a := .int .i64 0) (b := .slice none 0 0) RB.out
  refine bodyPost_ret (v := .tuple #[.agg #[.int .i64 0, .slice none 0 0], .int .i64 3]) (results_cell2 (p := 4) (u := 5) (ty := 28) rfl _ _ (w.heap.size + 2) 28 _ (0, 0) _ rfl hfin Tryd.underlying28 rfl (by exact info27)) rfl ⟨⟨_, rfl, Own.nil _ _⟩, ?_⟩
  exact (D1.setCell (p := ⟨w.heap.size + 2, 0, none⟩) (by simp) _).setCell (p := ⟨w.heap.size + 2, 1, none⟩) (by simp) _
set_option maxHeartbeats 1600000 in
theorem specPb_yes (n m : Int) (b off cap b2 off2 cap2 : Nat) (zs hs : List Int) (w : World) (hb : b < w.heap.size) (hc : Cells w b off zs) (hbb : b2 < w.heap.size) (hc2 : Cells w b2 off2 hs) (hg : isG n zs = true) (hh : isG m hs = true) (hnm : n + m ≤ 62) :
    Calls Tryd.prog 41 #[.agg #[.int .i64 n, .slice (some ⟨b, off, none⟩) zs.length cap], .agg #[.int .i64 m, .slice (some ⟨b2, off2, none⟩) hs.length cap2]] w fun e w' => GRes w.heap.size (n + m) (besL zs hs) 0 e w' ∧ Below w.heap.size w w' := by
  obtain ⟨p1, p2, p3, -, -⟩ := isG_parts hg
  obtain ⟨q1, q2, q3, q4, -⟩ := isG_parts hh
  subst p3 q3
  have hz : ∀ i, i < hs.length → 0 ≤ el hs i ∧ el hs i ≤ 2 ^ hs.length - 1 := by
    intro i hi
    have hr := rowsOk_at q4 hi
    have a := rowOk_le hr
    rw [Int.toNat_natCast] at a
    exact ⟨rowOk_ge hr, a⟩
  obtain ⟨W, hW⟩ : ∃ W, W = (((w.alloc (.cells #[.int .i64 zs.length, .slice (some ⟨b, off, none⟩) zs.length cap] 28)).alloc (.cells #[.int .i64 hs.length, .slice (some ⟨b2, off2, none⟩) hs.length cap2] 28)).alloc (.cells #[.int .i64 0, .slice none 0 0] 28)) := ⟨_, rfl⟩
  have D0 : Below w.heap.size w W := by rw [hW]; exact (((Below.refl _ _).alloc (Nat.le_refl _) _).alloc (by simp) _).alloc (by simp; omega) _
  have hsz : W.heap.size = w.heap.size + 3 := by rw [hW]; simp
  have K2 : W.heap[w.heap.size]? = some (.cells #[.int .i64 zs.length, .slice (some ⟨b, off, none⟩) zs.length cap] 28 (0, 0)) := by rw [hW]; exact heap_old_at (heap_old_at (heap_new_at w (.cells #[.int .i64 zs.length, .slice (some ⟨b, off, none⟩) zs.length cap] 28) w.heap.size rfl) _) _
  have K3 : W.heap[w.heap.size + 1]? = some (.cells #[.int .i64 hs.length, .slice (some ⟨b2, off2, none⟩) hs.length cap2] 28 (0, 0)) := by rw [hW]; exact heap_old_at (heap_new_at (w.alloc (.cells #[.int .i64 zs.length, .slice (some ⟨b, off, none⟩) zs.length cap] 28)) (.cells #[.int .i64 hs.length, .slice (some ⟨b2, off2, none⟩) hs.length cap2] 28) (w.heap.size + 1) (by simp)) _
  have K4 : W.heap[w.heap.size + 2]? = some (.cells #[.int .i64 0, .slice none 0 0] 28 (0, 0)) := by rw [hW]; exact heap_new_at ((w.alloc (.cells #[.int .i64 zs.length, .slice (some ⟨b, off, none⟩) zs.length cap] 28)).alloc (.cells #[.int .i64 hs.length, .slice (some ⟨b2, off2, none⟩) hs.length cap2] 28)) (.cells #[.int .i64 0, .slice none 0 0] 28) (w.heap.size + 2) (by simp)
  have is1 : ∀ W', Below W.heap.size W W' → Calls Tryd.prog 52 #[.agg #[.int .i64 zs.length, .slice (some ⟨b, off, none⟩) zs.length cap]] W' fun e w' => e = .returned (.bool true) ∧ Below W'.heap.size W' w' := fun W' h => by
    have := l01Is_some zs.length b off cap zs W' (by have := h.size; omega) ((hc.below D0 hb).below h (by omega)) (by omega)
    rw [hg] at this
    exact this
  have is2 : ∀ W', Below W.heap.size W W' → Calls Tryd.prog 52 #[.agg #[.int .i64 hs.length, .slice (some ⟨b2, off2, none⟩) hs.length cap2]] W' fun e w' => e = .returned (.bool true) ∧ Below W'.heap.size W' w' := fun W' h => by
    have := l01Is_some hs.length b2 off2 cap2 hs W' (by have := h.size; omega) ((hc2.below D0 hbb).below h (by omega)) (by omega)
    rw [hh] at this
    exact this
  have C1 := Lib.hid (hc.below D0 hb)
  have C2 := Lib.hid (hc2.below D0 hbb)
  have HK2 := Lib.hid K2; have HK3 := Lib.hid K3; have HK4 := Lib.hid K4; have HSZ := Lib.hid hsz; have HZ := Lib.hid hz
  have I1 := Lib.hid is1; have I2 := Lib.hid is2
  clear is1 is2 K2 K3 K4 hsz hz hc hc2 hg hh q4
  go_enter Tryd.func41, Tryd.ntmps41
  obtain ⟨a0, a1, -, -⟩ := two_cells HK2.out
  obtain ⟨a2, a3, -, -⟩ := two_cells HK3.out
  rw [hW] at a0 a1 a2 a3
  go_wp2_with fail
  rw [← hW] at *
  clear hW
  refine (I1.out W (Below.refl _ _)).mono ?_
  rintro e w1 ⟨rfl, hb1⟩
  clear a0 a1 a2 a3
  have s1 := hb1.size
  obtain ⟨a2, a3, -, -⟩ := two_cells ((hb1.block (w.heap.size + 1) (by rw [HSZ.out]; omega)).trans HK3.out)
  go_wp2_with fail
  refine (I2.out w1 hb1).mono ?_
  rintro e w2 ⟨rfl, hb2'⟩
  have hb2 : Below W.heap.size W w2 := hb1.trans (hb2'.mono s1)
  clear a2 a3 hb1 hb2'
  obtain ⟨a0, a1, -, -⟩ := two_cells ((hb2.block w.heap.size (by rw [HSZ.out]; omega)).trans HK2.out)
  obtain ⟨a2, a3, -, -⟩ := two_cells ((hb2.block (w.heap.size + 1) (by rw [HSZ.out]; omega)).trans HK3.out)
  have hle : decide ((62 : Int) < (zs.length : Int) + hs.length) = false := by simp; omega
  have hsw := hb2.size
  have hsx : w.heap.size + 3 ≤ W.heap.size := by have := HSZ.out; omega
  have hbe := l01Beside_some b off cap b2 off2 cap2 zs hs w2 (by omega) (C1.out.below hb2 (by omega)) (by omega) (C2.out.below hb2 (by omega)) HZ.out (by omega)
  go_wp2_with fail
  refine hbe.mono ?_
  rintro e w3 ⟨u, rfl, hO, hb3⟩
  obtain ⟨ua, ul, uc, rfl⟩ := slice_of hO
  have hb23 : Below W.heap.size W w3 := hb2.trans (hb3.mono hsw)
  have HO := Lib.hid hO
  have RB := Lib.hid ((hb23.block (w.heap.size + 2) (by omega)).trans HK4.out)
  obtain ⟨r0, r1, g0, g1⟩ := two_cells RB.out
  have HD := Lib.hid (D0.trans (hb23.mono D0.size))
  clear hO a0 a1 a2 a3 hbe hb2 hb3 hb23
  go_wp2
  have hfin := two_set (a := .int .i64 (zs.length + hs.length)) (b := .slice ua ul uc) RB.out
  have hgr : w3.grownBy ((w3.setCell ⟨w.heap.size + 2, 0, none⟩ (.int .i64 (zs.length + hs.length))).setCell ⟨w.heap.size + 2, 1, none⟩ (.slice ua ul uc)) (some (w.heap.size + 2)) := grown_set (grown_set ⟨rfl, rfl, rfl, Nat.le_refl _, fun _ _ _ => rfl⟩ _ 0 _) _ 1 _
  refine bodyPost_ret (v := .tuple #[.agg #[.int .i64 (zs.length + hs.length), .slice ua ul uc], .int .i64 0]) (results_cell2 (p := 4) (u := 5) (ty := 28) rfl _ _ (w.heap.size + 2) 28 _ (0, 0) _ rfl hfin Tryd.underlying28 rfl (by exact info27)) rfl ⟨⟨_, rfl, ?_⟩, ?_⟩
  · exact (HO.out.kept hgr (.inr (fun e => by have := HO.out.ge _ e; omega))).base (by omega)
  · exact (HD.out.setCell (p := ⟨w.heap.size + 2, 0, none⟩) (by simp) _).setCell (p := ⟨w.heap.size + 2, 1, none⟩) (by simp) _

theorem specPb_any (n m : Int) (v v2 : Value) (zs hs : List Int) (w : World) (h : Sl w v zs) (h2 : Sl w v2 hs) (hl : zs.length ≤ 9223372036854775807) (hl2 : hs.length ≤ 9223372036854775807)  :
    Calls Tryd.prog 41 #[.agg #[.int .i64 n, v], .agg #[.int .i64 m, v2]] w fun e w' => GRes w.heap.size (PBN n m zs hs) (PBL n m zs hs) (PBC n m zs hs) e w' ∧ Below w.heap.size w w' := by
  cases hg : isG n zs
  · obtain ⟨e1, e2, e3⟩ := PB_no (n := n) (m := m) (zs := zs) (hs := hs) (by rw [hg]; rfl)
    rw [e1, e2, e3]
    exact specPb_no1 n m v v2 zs w h hg hl
  · cases hh : isG m hs
    · obtain ⟨e1, e2, e3⟩ := PB_no (n := n) (m := m) (zs := zs) (hs := hs) (by rw [hg, hh]; rfl)
      rw [e1, e2, e3]
      exact specPb_no2 n m v v2 zs hs w h hg hl h2 hh hl2
    · by_cases hnm : n + m ≤ 62
      · obtain ⟨e1, e2, e3⟩ := PB_yes hg hh hnm
        rw [e1, e2, e3]
        obtain ⟨b, off, cap, rfl, hb, hc⟩ := sl_some h (by have := (isG_parts hg).2.2.1; have := (isG_parts hg).1; omega)
        obtain ⟨b2, off2, cap2, rfl, hb2, hc2⟩ := sl_some h2 (by have := (isG_parts hh).2.2.1; have := (isG_parts hh).1; omega)
        exact specPb_yes n m b off cap b2 off2 cap2 zs hs w hb hc hb2 hc2 hg hh hnm
      · obtain ⟨e1, e2, e3⟩ := PB_big hg hh hnm
        rw [e1, e2, e3]
        exact specPb_no3 n m v v2 zs hs w h hg hl h2 hh hl2 (by omega)
end Go.Proofs.YtbpcdgfcdahnlaaDoor
