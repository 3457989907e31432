/-
  spec.DoubleGraph. (A tied seat of graphs.)
-/
import Derived.Test.YtlodaeoikkjbkaaDoorDa
namespace Go.Proofs.YtlodaeoikkjbkaaDoor
set_option maxRecDepth 100000
open Go.RowKit

theorem dgL_kS (zs : List Int) : dgL zs = rowsF (2 * zs.length) (adjS (kS (dbF zs) zs.length zs.length)) := by unfold dgL; rw [kinds_same]

set_option maxHeartbeats 800000 in
theorem specDg_no (n : Int) (v : Value) (zs : List Int) (w : World) (h : Sl w v zs) (hg : isG n zs = false) (hl : zs.length ≤ 9223372036854775807) :
    Calls Tryd.prog 27 #[.agg #[.int .i64 n, v]] w fun e w' => GRes w.heap.size 0 [] 1 e w' ∧ Below w.heap.size w w' := by
  have D0 : Below w.heap.size w ((w.alloc (.cells #[.int .i64 n, v] 28)).alloc (.cells #[.int .i64 0, .slice none 0 0] 28)) := ((Below.refl _ _).alloc (Nat.le_refl _) _).alloc (by simp) _
  have his := l01Is_any n v zs _ (h.below D0) hl
  rw [hg] at his
  simp only [World.size_alloc] at his
  have HH1 := Lib.hid (heap_new_at (w.alloc (.cells #[.int .i64 n, v] 28)) (.cells #[.int .i64 0, .slice none 0 0] 28) (w.heap.size + 1) (by simp))
  clear h hg
  go_enter Tryd.func27, Tryd.ntmps27
  go_wp2_with (go_at_call 38; refine his.mono ?_; rintro e w1 ⟨rfl, hb1⟩; have RB := Lib.hid ((hb1.block (w.heap.size + 1) (by omega)).trans HH1.out); obtain ⟨r0, r1, g0, g1⟩ := two_cells RB.out)
  have hfin := two_set (a := .int .i64 0) (b := .slice none 0 0) RB.out
  refine bodyPost_ret (v := .tuple #[.agg #[.int .i64 0, .slice none 0 0], .int .i64 1]) (results_cell2 (p := 2) (u := 3) (ty := 28) rfl _ _ (w.heap.size + 1) 28 _ (0, 0) _ rfl hfin Tryd.underlying28 rfl (by exact info27)) rfl ⟨⟨_, rfl, Own.nil _ _⟩, ?_⟩
  exact ((D0.trans (hb1.mono (by omega))).setCell (p := ⟨w.heap.size + 1, 0, none⟩) (by simp) _).setCell (p := ⟨w.heap.size + 1, 1, none⟩) (by simp) _

set_option maxHeartbeats 800000 in
theorem specDg_far (b off cap : Nat) (zs : List Int) (w : World) (hb : b < w.heap.size) (hc : Cells w b off zs) (hg : isG (zs.length : Int) zs = true) (h31 : 31 < zs.length) :
    Calls Tryd.prog 27 #[.agg #[.int .i64 zs.length, .slice (some ⟨b, off, none⟩) zs.length cap]] w fun e w' => GRes w.heap.size 0 [] 3 e w' ∧ Below w.heap.size w w' := by
  have hp := isG_parts hg
  have hl62 : zs.length ≤ 62 := by omega
  have D0 : Below w.heap.size w ((w.alloc (.cells #[.int .i64 zs.length, .slice (some ⟨b, off, none⟩) zs.length cap] 28)).alloc (.cells #[.int .i64 0, .slice none 0 0] 28)) := ((Below.refl _ _).alloc (Nat.le_refl _) _).alloc (by simp) _
  have his := l01Is_some zs.length b off cap zs ((w.alloc (.cells #[.int .i64 zs.length, .slice (some ⟨b, off, none⟩) zs.length cap] 28)).alloc (.cells #[.int .i64 0, .slice none 0 0] 28)) (Nat.lt_of_lt_of_le hb D0.size) (hc.below D0 hb) (by omega)
  rw [hg] at his
  simp only [World.size_alloc] at his
  have HG0 := Lib.hid (heap_old_at (World.alloc_heap_new w (.cells #[.int .i64 zs.length, .slice (some ⟨b, off, none⟩) zs.length cap] 28)) (.cells #[.int .i64 0, .slice none 0 0] 28))
  have HH1 := Lib.hid (heap_new_at (w.alloc (.cells #[.int .i64 zs.length, .slice (some ⟨b, off, none⟩) zs.length cap] 28)) (.cells #[.int .i64 0, .slice none 0 0] 28) (w.heap.size + 1) (by simp))
  have h62 : (62 : Int) < 2 * (zs.length : Int) := by omega
  clear hc hg hp
  go_enter Tryd.func27, Tryd.ntmps27
  go_wp2_with (go_at_call 38; refine his.mono ?_; rintro e w1 ⟨rfl, hb1⟩; have RB := Lib.hid ((hb1.block (w.heap.size + 1) (by omega)).trans HH1.out); obtain ⟨r0, r1, g0, g1⟩ := two_cells RB.out; obtain ⟨b0, b1, -, -⟩ := two_cells ((hb1.block w.heap.size (by omega)).trans HG0.out))
  have hfin := two_set (a := .int .i64 0) (b := .slice none 0 0) RB.out
  refine bodyPost_ret (v := .tuple #[.agg #[.int .i64 0, .slice none 0 0], .int .i64 3]) (results_cell2 (p := 2) (u := 3) (ty := 28) rfl _ _ (w.heap.size + 1) 28 _ (0, 0) _ rfl hfin Tryd.underlying28 rfl (by exact info27)) rfl ⟨⟨_, rfl, Own.nil _ _⟩, ?_⟩
  exact ((D0.trans (hb1.mono (by omega))).setCell (p := ⟨w.heap.size + 1, 0, none⟩) (by simp) _).setCell (p := ⟨w.heap.size + 1, 1, none⟩) (by simp) _

set_option maxHeartbeats 3200000 in
set_option maxRecDepth 100000 in
theorem specDg_yes (b off cap n m : Nat) (zs : List Int) (w : World) (hn : n = zs.length) (hm : m = 2 * zs.length) (hb : b < w.heap.size) (hc : Cells w b off zs) (hg : isG (zs.length : Int) zs = true) (h31 : n ≤ 31) :
    Calls Tryd.prog 27 #[.agg #[.int .i64 n, .slice (some ⟨b, off, none⟩) n cap]] w fun e w' => GRes w.heap.size m (rowsF m (adjS (kS (dbF zs) n n))) 0 e w' ∧ Below w.heap.size w w' := by
  have hp := isG_parts hg
  have hn1 : 1 ≤ n := by omega
  have HRW := Lib.hid (fun v (hv : v < n) => row_bd62 hg (v := v) (by omega))
  have D0 : Below w.heap.size w ((w.alloc (.cells #[.int .i64 n, .slice (some ⟨b, off, none⟩) n cap] 28)).alloc (.cells #[.int .i64 0, .slice none 0 0] 28)) := ((Below.refl _ _).alloc (Nat.le_refl _) _).alloc (by simp) _
  have his := l01Is_some zs.length b off cap zs ((w.alloc (.cells #[.int .i64 n, .slice (some ⟨b, off, none⟩) n cap] 28)).alloc (.cells #[.int .i64 0, .slice none 0 0] 28)) (Nat.lt_of_lt_of_le hb D0.size) (hc.below D0 hb) (by omega)
  rw [hg, ← hn] at his
  simp only [World.size_alloc] at his
  have HG0 := Lib.hid (heap_old_at (World.alloc_heap_new w (.cells #[.int .i64 n, .slice (some ⟨b, off, none⟩) n cap] 28)) (.cells #[.int .i64 0, .slice none 0 0] 28))
  have HH1 := Lib.hid (heap_new_at (w.alloc (.cells #[.int .i64 n, .slice (some ⟨b, off, none⟩) n cap] 28)) (.cells #[.int .i64 0, .slice none 0 0] 28) (w.heap.size + 1) (by simp))
  have h62 : ¬ (62 : Int) < 2 * (n : Int) := by omega
  have HC := Lib.hid hc
  have HMN : Hid (m = 2 * n) := by show _ = _; omega
  have hm62 : m ≤ 62 := by omega
  have hem := fun W => specEmpty_at (2 * (n : Int)) m W (by omega) (by omega)
  have HEM := Lib.hid hem
  have HN := Lib.hid hn
  clear hc hg hp hn hm hem
  go_enter Tryd.func27, Tryd.ntmps27
  go_wp2_with (first | (go_at_call 38; with_reducible refine his.mono ?_; rintro e w1 ⟨rfl, hb1⟩; have RB := Lib.hid ((hb1.block (w.heap.size + 1) (by omega)).trans HH1.out); have GB := Lib.hid ((hb1.block w.heap.size (by omega)).trans HG0.out); obtain ⟨b0, b1, -, -⟩ := two_cells GB.out; have hem := HEM.out w1) | (go_at_call 47; with_reducible refine hem.mono ?_; rintro e w2 ⟨rfl, hB2, hb2⟩; have HB2 := Lib.hid hB2; have Hb2 := Lib.hid hb2; clear hB2 hb2))
  have l2 := HB2.out.lt
  have l1 : w.heap.size + 2 ≤ w1.heap.size := by have := hb1.size; simpa using this
  obtain ⟨w3, h3w⟩ : ∃ w3, w3 = w2.alloc (.cells #[.int .i64 m, .slice (some ⟨w1.heap.size + 1, 0, none⟩) m m] 28) := ⟨_, rfl⟩
  have X3 : Hid (w3.heap[w2.heap.size]? = some (.cells #[.int .i64 m, .slice (some ⟨w1.heap.size + 1, 0, none⟩) m m] 28 (0, 0))) := by rw [h3w]; exact World.alloc_heap_new w2 _
  have hb3 : Below w2.heap.size w2 w3 := by rw [h3w]; exact (Below.refl _ _).alloc (Nat.le_refl _) _
  rw [← h3w]
  clear h3w hem HEM his
  have HB3 : Hid (Blk w3 (w1.heap.size + 1) (rowsF m (adjS (kS (dbF zs) n 0)))) := by show Blk _ _ _; rw [show adjS (kS (dbF zs) n 0) = fun _ _ => false from rfl, rowsF_none]; exact HB2.out.belowAll hb3
  have E3 : Below w1.heap.size w1 w3 := Hb2.out.trans (hb3.mono (by omega))
  have s3 : w2.heap.size + 1 ≤ w3.heap.size := (Array.getElem?_eq_some_iff.1 X3.out).1
  have HGW : Hid (w2.heap.size ≠ w1.heap.size + 1) := by show _ ≠ _; omega
  have E1 : Below w.heap.size w w1 := D0.trans (hb1.mono (by omega))
  have HC1 := Lib.hid (HC.out.below E1 hb)
  have hb1s : b < w1.heap.size := Nat.lt_of_lt_of_le hb E1.size
  clear hb3 HB2 Hb2 b0 b1 HC HG0 HH1 D0 hb1
  go_loopw [5] (fun i wr => ∃ v : Nat, v ≤ n ∧ i = .int .i64 v ∧ Hid (Blk wr (w1.heap.size + 1) (rowsF m (adjS (kS (dbF zs) n v)))) ∧ Hid (wr.heap[w2.heap.size]? = some (.cells #[.int .i64 m, .slice (some ⟨w1.heap.size + 1, 0, none⟩) m m] 28 (0, 0))) ∧ Below w1.heap.size w1 wr ∧ w2.heap.size + 1 ≤ wr.heap.size) (fun i _ => n - (intOf i).toNat)
  case atStart => exact ⟨0, Nat.zero_le _, rfl, HB3, X3, E3, s3⟩
  case round =>
    obtain ⟨v, hv, rfl, HB, HX, hE, hs⟩ := hrel
    obtain ⟨b0, b1, -, -⟩ := two_cells ((hE.block w.heap.size (by omega)).trans GB.out)
    by_cases hlt : v < n
    · have hlti : (v : Int) < n := by omega
      go_wp2_with fail
      obtain ⟨wo, rfl⟩ : ∃ wo : World, wo = wr := ⟨_, rfl⟩
      have HBI : Hid (Blk wo (w1.heap.size + 1) (rowsF m (adjS (kS (dbF zs) n v ++ inK (dbF zs) n v 0)))) := by show Blk _ _ _; rw [show kS (dbF zs) n v ++ inK (dbF zs) n v 0 = kS (dbF zs) n v by simp [inK]]; exact HB.out
      clear b0 b1 HB3 X3 E3 s3
      go_loopw [6] (fun i wr => ∃ k : Nat, k ≤ n ∧ i = .int .i64 k ∧ Hid (Blk wr (w1.heap.size + 1) (rowsF m (adjS (kS (dbF zs) n v ++ inK (dbF zs) n v k)))) ∧ Hid (wr.heap[w2.heap.size]? = some (.cells #[.int .i64 m, .slice (some ⟨w1.heap.size + 1, 0, none⟩) m m] 28 (0, 0))) ∧ Below w1.heap.size w1 wr ∧ w2.heap.size + 1 ≤ wr.heap.size) (fun i _ => n - (intOf i).toNat)
      case atStart => exact ⟨0, Nat.zero_le _, rfl, HBI, HX, hE, hs⟩
      case round =>
        clear HBI HX hE hs HB
        obtain ⟨k, hk, rfl, HC, HY, hF, ht⟩ := hrel
        obtain ⟨b0, b1, -, -⟩ := two_cells ((hF.block w.heap.size (by omega)).trans GB.out)
        by_cases hlk : k < n
        · have hlki : (k : Int) < n := by omega
          have hz := (hF.cell (p := ⟨b, off + v, none⟩) hb1s).trans (HC1.out v (by rw [← HN.out]; exact hlt))
          obtain ⟨hz0, hz1⟩ := HRW.out v hlt
          obtain ⟨z, hzz⟩ : ∃ z : Nat, el zs v = (z : Int) := ⟨(el zs v).toNat, by omega⟩
          have HSH : Hid ((bits .and .i64 ((z : Int) / 2 ^ k) 1 == 1) = dbF zs v k) := by
            have := shr_bit (z : Int) k (by omega) (by omega)
            show _ = _
            rw [this, ← hzz]; rfl
          rw [hzz] at hz hz1
          have hv0 : (0 : Int) ≤ v := by omega
          have hk0 : (0 : Int) ≤ k := by omega
          have hvi : (v : Int) < n := by omega
          have hki : (k : Int) < 62 := by omega
          have huk : IntKind.u64.wrap (k : Int) = k := by rw [IntKind.wrap_u64]; omega
          have hzp : (0 : Int) ≤ z := by omega
          clear hzz hz0
          cases hr : dbF zs v k with
          | true =>
            have HN2 : Hid (kS (dbF zs) n v ++ inK (dbF zs) n v (k + 1) = kS (dbF zs) n v ++ inK (dbF zs) n v k ++ [(v, n + k)]) := by show _ = _; rw [inK_yes hr, ← List.append_assoc]
            have HJ := Lib.hid (fun W1 h => with_at m (w1.heap.size + 1) m (kS (dbF zs) n v ++ inK (dbF zs) n v k) v (n + k) (v : Int) ((n : Int) + (k : Int)) W1 h (by rw [HMN.out]; omega) (by rw [HMN.out]; omega) hm62 rfl (by simp))
            have hbit := HSH.out
            rw [hr] at hbit
            obtain ⟨x0, x1, y0, y1⟩ := two_cells HY.out
            clear hr HSH
            go_wp2_with fail
            refine (HJ.out _ HC.out).mono ?_
            rintro e w5 ⟨rfl, hB5, hg5⟩
            have HB5 := Lib.hid hB5
            have HX5 := Lib.hid ((hg5.block w2.heap.size (by omega) (by simp; exact HGW.out)).trans HY.out)
            have hE5 := hF.grown hg5 (by omega) (fun j e => by cases e; omega)
            have t5 : w2.heap.size + 1 ≤ w5.heap.size := Nat.le_trans ht hg5.size
            clear x0 x1 y0 y1 hB5 hg5 HY HC hF ht HJ hz b0 b1
            obtain ⟨x0, x1, y0, y1⟩ := two_cells HX5.out
            go_wp2_with fail
            obtain ⟨w6, h6⟩ : ∃ x, x = (w5.setCell ⟨w2.heap.size, 0, none⟩ (.int .i64 m)).setCell ⟨w2.heap.size, 1, none⟩ (.slice (some ⟨w1.heap.size + 1, 0, none⟩) m m) := ⟨_, rfl⟩
            have HX6 : Hid (w6.heap[w2.heap.size]? = some (.cells #[.int .i64 m, .slice (some ⟨w1.heap.size + 1, 0, none⟩) m m] 28 (0, 0))) := by rw [h6]; exact two_set HX5.out
            have HB6 : Hid (Blk w6 (w1.heap.size + 1) (rowsF m (adjS (kS (dbF zs) n v ++ inK (dbF zs) n v (k + 1))))) := by rw [h6, HN2.out]; exact (HB5.out.other (by simp; exact HGW.out.symm) _).other (by simp; exact HGW.out.symm) _
            have hE6 : Below w1.heap.size w1 w6 := by rw [h6]; exact (hE5.setCell (p := ⟨w2.heap.size, 0, none⟩) (by simp; omega) _).setCell (p := ⟨w2.heap.size, 1, none⟩) (by simp; omega) _
            have t6 : w2.heap.size + 1 ≤ w6.heap.size := by rw [h6]; simpa using t5
            rw [← h6]
            clear h6 HX5 HB5 hE5 t5 x0 x1 y0 y1
            go_roundw
            case rel => exact ⟨k + 1, by omega, by go_num, HB6, HX6, hE6, t6⟩
            case measure => simp [intOf]; omega
          | false =>
            have HB6 : Hid (Blk wr (w1.heap.size + 1) (rowsF m (adjS (kS (dbF zs) n v ++ inK (dbF zs) n v (k + 1))))) := by show Blk _ _ _; rw [inK_no hr]; exact HC.out
            have hbit := HSH.out
            rw [hr] at hbit
            clear hr HSH
            go_wp2_with fail
            go_roundw
            case rel => exact ⟨k + 1, by omega, by go_num, HB6, HY, hF, ht⟩
            case measure => simp [intOf]; omega
        · obtain rfl : n = k := by omega
          have HC2 : Hid (Blk wr (w1.heap.size + 1) (rowsF m (adjS (kS (dbF zs) n (v + 1))))) := HC.out
          go_wp2_with fail
          go_roundw
          case rel => exact ⟨v + 1, by omega, by go_num, HC2, HY, hF, ht⟩
          case measure => simp [intOf]; omega
    · obtain rfl : n = v := by omega
      have RB2 := Lib.hid ((hE.block (w.heap.size + 1) (by omega)).trans RB.out)
      obtain ⟨r0, r1, g0, g1⟩ := two_cells RB2.out
      obtain ⟨x0, x1, -, -⟩ := two_cells HX.out
      have HBF := HB
      go_wp2_with fail
      have hfin := two_set (a := .int .i64 m) (b := .slice (some ⟨w1.heap.size + 1, 0, none⟩) m m) RB2.out
      refine bodyPost_ret (v := .tuple #[.agg #[.int .i64 m, .slice (some ⟨w1.heap.size + 1, 0, none⟩) m m], .int .i64 0]) (results_cell2 (p := 2) (u := 3) (ty := 28) rfl _ _ (w.heap.size + 1) 28 _ (0, 0) _ rfl hfin Tryd.underlying28 rfl (by exact info27)) rfl ⟨⟨_, rfl, ?_⟩, ?_⟩
      · have h := Own.of_blk ((HBF.out.other (a := ⟨w.heap.size + 1, 0, none⟩) (by simp; omega) (.int .i64 m)).other (a := ⟨w.heap.size + 1, 1, none⟩) (by simp; omega) (.slice (some ⟨w1.heap.size + 1, 0, none⟩) m m)) (B := w.heap.size) (by omega) (by rw [rowsF_length]; unfold maxLen; omega)
        rw [rowsF_length] at h
        exact h
      · exact ((E1.trans (hE.mono (by omega))).setCell (p := ⟨w.heap.size + 1, 0, none⟩) (by simp) _).setCell (p := ⟨w.heap.size + 1, 1, none⟩) (by simp) _

theorem specDg_any (n : Int) (v : Value) (zs : List Int) (w : World) (h : Sl w v zs) (hl : zs.length ≤ 9223372036854775807) :
    Calls Tryd.prog 27 #[.agg #[.int .i64 n, v]] w fun e w' => GRes w.heap.size (DGN n zs) (DGL n zs) (DGC n zs) e w' ∧ Below w.heap.size w w' := by
  unfold DGN DGL DGC
  cases hg : isG n zs
  · exact specDg_no n v zs w h hg hl
  · obtain ⟨b, off, cap, rfl, hb, hc⟩ := sl_some h (by have := (isG_parts hg).2.2.1; have := (isG_parts hg).1; omega)
    have e := (isG_parts hg).2.2.1
    subst e
    by_cases h31 : 31 < zs.length
    · simp only [if_pos h31, if_true]
      exact specDg_far b off cap zs w hb hc hg h31
    · simp only [if_neg h31, if_true]
      rw [dgL_kS]
      exact specDg_yes b off cap zs.length (2 * zs.length) zs w rfl rfl hb hc hg (by omega)
end Go.Proofs.YtlodaeoikkjbkaaDoor
