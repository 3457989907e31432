/-
  spec.RingGraph.
-/
import Derived.Test.YtneomnkpfkomiaaRs
import Derived.Deep.RegionWith
namespace Go.Proofs.Ytneomnkpfkomiaa
open Go.RowKit

theorem specEmpty_at (N : Int) (len : Nat) (w : World) (hl : len ≤ 1048576) (eN : N = (len : Int)) :
    Calls Try.prog 53 #[.int .i64 N] w fun e w' => e = .returned (.agg #[.int .i64 len, .slice (some ⟨w.heap.size + 1, 0, none⟩) len len]) ∧ Blk w' (w.heap.size + 1) (List.replicate len 0) ∧ Below w.heap.size w w' := by
  subst eN
  exact specEmpty_any len w hl

set_option maxHeartbeats 800000 in
theorem specRg_no (n k : Int) (w : World) (h : ringOk n k = false) :
    Calls Try.prog 14 #[.int .i64 n, .int .i64 k] w fun e w' => GRes w.heap.size 0 [] 2 e w' ∧ Below w.heap.size w w' := by
  have h' : ¬ (3 ≤ n ∧ n ≤ 31 ∧ 1 ≤ k ∧ k ≤ n - 1 ∧ 2 * k ≠ n) := fun hh => by rw [(ringOk_iff n k).2 hh] at h; cases h
  have D0 : Below w.heap.size w (w.alloc (.cells #[.int .i64 0, .slice none 0 0] 24)) := (Below.refl _ _).alloc (Nat.le_refl _) _
  have RB := Lib.hid (World.alloc_heap_new w (.cells #[.int .i64 0, .slice none 0 0] 24))
  obtain ⟨W, hW⟩ : ∃ W, W = w.alloc (.cells #[.int .i64 0, .slice none 0 0] 24) := ⟨_, rfl⟩
  rw [← hW] at D0 RB
  have hc : (¬ 3 ≤ n) ∨ (3 ≤ n ∧ ¬ n ≤ 31) ∨ (3 ≤ n ∧ n ≤ 31 ∧ ¬ 1 ≤ k) ∨ (3 ≤ n ∧ n ≤ 31 ∧ 1 ≤ k ∧ ¬ k ≤ n - 1) ∨ (3 ≤ n ∧ n ≤ 31 ∧ 1 ≤ k ∧ k ≤ n - 1 ∧ 2 * k = n) := by omega
  clear h h'
  rcases hc with h1 | ⟨h1, h2⟩ | ⟨h1, h2, h3⟩ | ⟨h1, h2, h3, h4⟩ | ⟨h1, h2, h3, h4, h5⟩
  all_goals try subst h5
  all_goals
    go_enter Try.func14, Try.ntmps14
    go_wp2_with (go_at_call 52; refine (in_any _ _ _ _).mono ?_; rintro e w' ⟨rfl, rfl⟩)
    rw [← hW]
    obtain ⟨r0, r1, g0, g1⟩ := two_cells RB.out
    refine bodyPost_ret (v := .tuple #[.agg #[.int .i64 0, .slice none 0 0], .int .i64 2]) (results_cell2 (p := 4) (u := 5) (ty := 24) rfl _ _ w.heap.size 24 _ (0, 0) _ rfl RB.out Try.underlying24 rfl (by exact info27)) rfl ⟨⟨_, rfl, Own.nil _ _⟩, D0⟩

theorem ringS_succ (n k i : Nat) : ringS n k (i + 1) = ((ringS n k i ++ [(i, (i + 1) % n)]) ++ [(i, n + i)]) ++ [(n + i, n + (i + k) % n)] := rfl

set_option maxHeartbeats 1600000 in
set_option maxRecDepth 100000 in
theorem specRg_yes (n k m : Nat) (w : World) (h3 : 3 ≤ n) (hn : n ≤ 31) (hk1 : 1 ≤ k) (hk : k < n) (hne : 2 * k ≠ n) (hm : m = 2 * n) :
    Calls Try.prog 14 #[.int .i64 n, .int .i64 k] w fun e w' => GRes w.heap.size m (rowsF m (adjS (ringS n k n))) 0 e w' ∧ Below w.heap.size w w' := by
  have D0 : Below w.heap.size w (w.alloc (.cells #[.int .i64 0, .slice none 0 0] 24)) := (Below.refl _ _).alloc (Nat.le_refl _) _
  have RB0 := Lib.hid (World.alloc_heap_new w (.cells #[.int .i64 0, .slice none 0 0] 24))
  obtain ⟨W, hW⟩ : ∃ W, W = w.alloc (.cells #[.int .i64 0, .slice none 0 0] 24) := ⟨_, rfl⟩
  rw [← hW] at D0 RB0
  have hsz : w.heap.size + 1 ≤ W.heap.size := by rw [hW]; simp
  have hM62 : m ≤ 62 := by omega
  have hem := Lib.hid (specEmpty_at (2 * (n : Int)) m W (by omega) (by rw [hm]; simp))
  have HM := Lib.hid hm
  have h1 : (3 : Int) ≤ n := by omega
  have h2 : (n : Int) ≤ 31 := by omega
  have h4 : (1 : Int) ≤ k := by omega
  have h5 : (k : Int) ≤ (n : Int) - 1 := by omega
  have h6 : ((2 * (k : Int)) == (n : Int)) = false := by rw [beq_eq_false_iff_ne]; omega
  clear hm hne
  go_enter Try.func14, Try.ntmps14
  go_wp2_with (go_at_call 52; refine (in_any _ _ _ _).mono ?_; rintro e w' ⟨rfl, rfl⟩)
  rw [← hW]
  clear hW
  refine hem.out.mono ?_
  rintro e w1 ⟨rfl, hB1, hb1⟩
  have l1 := hB1.lt
  have RB1 := Lib.hid ((hb1.block w.heap.size (by omega)).trans RB0.out)
  have HB1 : Hid (Blk w1 (W.heap.size + 1) (rowsF m (adjS (ringS n k 0)))) := by show Blk _ _ _; rw [show adjS (ringS n k 0) = fun _ _ => false from rfl, rowsF_none]; exact hB1
  have E1 := D0.trans (hb1.mono (by omega))
  clear hB1 hb1 hem RB0
  go_wp2_with fail
  obtain ⟨w2, h2w⟩ : ∃ w2, w2 = w1.alloc (.cells #[.int .i64 m, .slice (some ⟨W.heap.size + 1, 0, none⟩) m m] 24) := ⟨_, rfl⟩
  have X2 : Hid (w2.heap[w1.heap.size]? = some (.cells #[.int .i64 m, .slice (some ⟨W.heap.size + 1, 0, none⟩) m m] 24 (0, 0))) := by rw [h2w]; exact World.alloc_heap_new w1 _
  have hb2 : Below w1.heap.size w1 w2 := by rw [h2w]; exact (Below.refl _ _).alloc (Nat.le_refl _) _
  rw [← h2w]
  clear h2w
  have HB2 := Lib.hid (HB1.out.belowAll hb2)
  have RB2 := Lib.hid ((hb2.block w.heap.size (by omega)).trans RB1.out)
  have E2 : Below w.heap.size w w2 := E1.trans (hb2.mono (by omega))
  have s2 : w1.heap.size + 1 ≤ w2.heap.size := (Array.getElem?_eq_some_iff.1 X2.out).1
  clear HB1 RB1 E1 hb2
  go_loopw [7] (fun i wr => ∃ v : Nat, v ≤ n ∧ i = .int .i64 v ∧ Hid (Blk wr (W.heap.size + 1) (rowsF m (adjS (ringS n k v)))) ∧ Hid (wr.heap[w1.heap.size]? = some (.cells #[.int .i64 m, .slice (some ⟨W.heap.size + 1, 0, none⟩) m m] 24 (0, 0))) ∧ Below (w.heap.size + 1) w2 wr ∧ w1.heap.size + 1 ≤ wr.heap.size) (fun i _ => n - (intOf i).toNat)
  case atStart => exact ⟨0, Nat.zero_le _, rfl, HB2, X2, Below.refl _ _, s2⟩
  case round =>
    obtain ⟨v, hv, rfl, HB, HX, hE, hs⟩ := hrel
    by_cases hlt : v < n
    · have m1 := Int.emod_nonneg ((v : Int) + 1) (b := (n : Int)) (by omega)
      have m2 := Int.emod_lt_of_pos ((v : Int) + 1) (b := (n : Int)) (by omega)
      have m3 := Int.emod_nonneg ((v : Int) + k) (b := (n : Int)) (by omega)
      have m4 := Int.emod_lt_of_pos ((v : Int) + k) (b := (n : Int)) (by omega)
      have q1 := Nat.mod_lt (v + 1) (show n > 0 by omega)
      have q2 := Nat.mod_lt (v + k) (show n > 0 by omega)
      have E1 : Hid (((v : Int) + 1) % (n : Int) = (((v + 1) % n : Nat) : Int)) := by show _ = _; simp
      have E2' : Hid ((n : Int) + v = ((n + v : Nat) : Int)) := by show _ = _; simp
      have E3 : Hid ((n : Int) + ((v : Int) + k) % (n : Int) = ((n + (v + k) % n : Nat) : Int)) := by show _ = _; simp
      have HJ1 := Lib.hid (fun W1 h => with_at m (W.heap.size + 1) m (ringS n k v) v ((v + 1) % n) (v : Int) (((v : Int) + 1) % (n : Int)) W1 h (by rw [HM.out]; omega) (by rw [HM.out]; omega) hM62 rfl E1.out)
      have HJ2 := Lib.hid (fun W1 h => with_at m (W.heap.size + 1) m (ringS n k v ++ [(v, (v + 1) % n)]) v (n + v) (v : Int) ((n : Int) + v) W1 h (by rw [HM.out]; omega) (by rw [HM.out]; omega) hM62 rfl E2'.out)
      have HJ3 := Lib.hid (fun W1 h => with_at m (W.heap.size + 1) m ((ringS n k v ++ [(v, (v + 1) % n)]) ++ [(v, n + v)]) (n + v) (n + (v + k) % n) ((n : Int) + v) ((n : Int) + ((v : Int) + k) % (n : Int)) W1 h (by rw [HM.out]; omega) (by rw [HM.out]; omega) hM62 E2'.out E3.out)
      clear E1 E2' E3 q1 q2
      obtain ⟨x0, x1, y0, y1⟩ := two_cells HX.out
      go_wp2_with fail
      have hlwr : w1.heap.size < wr.heap.size := by omega
      have HGW : Hid (w1.heap.size ≠ W.heap.size + 1) := by show _ ≠ _; omega
      go_region_with (go_at_call 54; refine (HJ1.out wr.drew HB.out).mono ?_; rintro e w3 ⟨rfl, hB3, hg3⟩; have HB3 := Lib.hid hB3; have HX3 := Lib.hid ((hg3.block w1.heap.size hlwr (by simp; exact HGW.out)).trans HX.out); have hE3 := hE.drew.grown hg3 (by simp; omega) (fun j e => by cases e; omega); have t3 : w1.heap.size + 1 ≤ w3.heap.size := Nat.le_trans hlwr hg3.size; clear x0 x1 y0 y1 hB3 hg3; obtain ⟨x0, x1, y0, y1⟩ := two_cells HX3.out)
      all_goals clear HX HB hE
      all_goals go_wp2_with fail
      all_goals
        obtain ⟨w4, h4⟩ : ∃ x, x = (w3.setCell ⟨w1.heap.size, 0, none⟩ (.int .i64 m)).setCell ⟨w1.heap.size, 1, none⟩ (.slice (some ⟨W.heap.size + 1, 0, none⟩) m m) := ⟨_, rfl⟩
        have HX4 : Hid (w4.heap[w1.heap.size]? = some (.cells #[.int .i64 m, .slice (some ⟨W.heap.size + 1, 0, none⟩) m m] 24 (0, 0))) := by rw [h4]; exact two_set HX3.out
        have HB4 : Hid (Blk w4 (W.heap.size + 1) (rowsF m (adjS (ringS n k v ++ [(v, (v + 1) % n)])))) := by rw [h4]; exact (HB3.out.other (by simp; exact HGW.out.symm) _).other (by simp; exact HGW.out.symm) _
        have hE4 : Below (w.heap.size + 1) w2 w4 := by rw [h4]; exact (hE3.setCell (p := ⟨w1.heap.size, 0, none⟩) (by simp; omega) _).setCell (p := ⟨w1.heap.size, 1, none⟩) (by simp; omega) _
        have t4 : w1.heap.size + 1 ≤ w4.heap.size := by rw [h4]; simpa using t3
        rw [← h4]
        clear h4 HX3 HB3 hE3 t3 x0 x1 y0 y1
        obtain ⟨x0, x1, y0, y1⟩ := two_cells HX4.out
        refine (HJ2.out _ HB4.out).mono ?_
        rintro e w5 ⟨rfl, hB5, hg5⟩
        have HB5 := Lib.hid hB5
        have HX5 := Lib.hid ((hg5.block w1.heap.size (by omega) (by simp; exact HGW.out)).trans HX4.out)
        have hE5 := hE4.grown hg5 (by omega) (fun j e => by cases e; omega)
        have t5 : w1.heap.size + 1 ≤ w5.heap.size := Nat.le_trans t4 hg5.size
        clear x0 x1 y0 y1 hB5 hg5 HX4 HB4 hE4 t4
        obtain ⟨x0, x1, y0, y1⟩ := two_cells HX5.out
        go_wp2_with fail
        obtain ⟨w6, h6⟩ : ∃ x, x = (w5.setCell ⟨w1.heap.size, 0, none⟩ (.int .i64 m)).setCell ⟨w1.heap.size, 1, none⟩ (.slice (some ⟨W.heap.size + 1, 0, none⟩) m m) := ⟨_, rfl⟩
        have HX6 : Hid (w6.heap[w1.heap.size]? = some (.cells #[.int .i64 m, .slice (some ⟨W.heap.size + 1, 0, none⟩) m m] 24 (0, 0))) := by rw [h6]; exact two_set HX5.out
        have HB6 : Hid (Blk w6 (W.heap.size + 1) (rowsF m (adjS ((ringS n k v ++ [(v, (v + 1) % n)]) ++ [(v, n + v)])))) := by rw [h6]; exact (HB5.out.other (by simp; exact HGW.out.symm) _).other (by simp; exact HGW.out.symm) _
        have hE6 : Below (w.heap.size + 1) w2 w6 := by rw [h6]; exact (hE5.setCell (p := ⟨w1.heap.size, 0, none⟩) (by simp; omega) _).setCell (p := ⟨w1.heap.size, 1, none⟩) (by simp; omega) _
        have t6 : w1.heap.size + 1 ≤ w6.heap.size := by rw [h6]; simpa using t5
        rw [← h6]
        clear h6 HX5 HB5 hE5 t5 x0 x1 y0 y1
        obtain ⟨x0, x1, y0, y1⟩ := two_cells HX6.out
        have hlw6 : w1.heap.size < w6.heap.size := by omega
        have HC1 := Lib.hid (fun (w7 : World) (h : w6.drew.grownBy w7 (some (W.heap.size + 1))) => (h.block w1.heap.size hlw6 (by simp; exact HGW.out)).trans HX6.out)
        have HC2 : Hid (∀ w7 : World, w6.drew.grownBy w7 (some (W.heap.size + 1)) → Below (w.heap.size + 1) w2 w7) := fun w7 h => hE6.drew.grown h (by simp; omega) (fun j e => by cases e; omega)
        have HC3 : Hid (∀ w7 : World, w6.drew.grownBy w7 (some (W.heap.size + 1)) → w1.heap.size + 1 ≤ w7.heap.size) := fun w7 h => Nat.le_trans hlw6 h.size
        have z1 : (0 : Int) ≤ (n : Int) + v := by omega
        have z2 : (0 : Int) ≤ (v : Int) + k := by omega
        have W1 : IntKind.i64.wrap ((n : Int) + v) = (n : Int) + v := IntWalk.i64_in _ (by omega)
        have W3 : IntKind.i64.wrap ((n : Int) + ((v : Int) + k) % (n : Int)) = (n : Int) + ((v : Int) + k) % (n : Int) := IntWalk.i64_in _ (by clear W1; omega)
        have W2 : IntKind.i64.wrap ((v : Int) + k) = (v : Int) + k := IntWalk.i64_in _ (by clear W1 W3; omega)
        have W4 : Int.tmod ((v : Int) + k) (n : Int) = ((v : Int) + k) % (n : Int) := Int.tmod_eq_emod_of_nonneg z2
        go_region_with (go_at_call 54; refine (HJ3.out w6.drew HB6.out).mono ?_; rintro e w7 ⟨rfl, hB7, hg7⟩; have HB7 := Lib.hid hB7; have HX7 := Lib.hid (HC1.out w7 hg7); have hE7 := Lib.hid (HC2.out w7 hg7); have t7 := Lib.hid (HC3.out w7 hg7); clear x0 x1 y0 y1 hB7 hg7; obtain ⟨x0, x1, y0, y1⟩ := two_cells HX7.out)
      all_goals clear W1 W2 W3 W4 HC1 HC2 HC3
      all_goals clear HX6 HB6 hE6
      all_goals go_wp2_with fail
      all_goals
        obtain ⟨w8, h8⟩ : ∃ x, x = (w7.setCell ⟨w1.heap.size, 0, none⟩ (.int .i64 m)).setCell ⟨w1.heap.size, 1, none⟩ (.slice (some ⟨W.heap.size + 1, 0, none⟩) m m) := ⟨_, rfl⟩
        have HX8 : Hid (w8.heap[w1.heap.size]? = some (.cells #[.int .i64 m, .slice (some ⟨W.heap.size + 1, 0, none⟩) m m] 24 (0, 0))) := by rw [h8]; exact two_set HX7.out
        have HB8 : Hid (Blk w8 (W.heap.size + 1) (rowsF m (adjS (ringS n k (v + 1))))) := by rw [h8]; exact (HB7.out.other (by simp; exact HGW.out.symm) _).other (by simp; exact HGW.out.symm) _
        have hE8 : Below (w.heap.size + 1) w2 w8 := by rw [h8]; exact (hE7.out.setCell (p := ⟨w1.heap.size, 0, none⟩) (by simp; omega) _).setCell (p := ⟨w1.heap.size, 1, none⟩) (by simp; omega) _
        have t8 : w1.heap.size + 1 ≤ w8.heap.size := by rw [h8]; simpa using t7.out
        rw [← h8]
        clear h8 HX7 HB7 hE7 t7 x0 x1 y0 y1
        obtain ⟨x0, x1, y0, y1⟩ := two_cells HX8.out
        go_roundw
        case rel => exact ⟨v + 1, by omega, by go_num, HB8, HX8, hE8, t8⟩
        case measure => simp [intOf]; omega
    · obtain rfl : v = n := by omega
      have RB := Lib.hid ((hE.block w.heap.size (by omega)).trans RB2.out)
      obtain ⟨r0, r1, g0, g1⟩ := two_cells RB.out
      obtain ⟨x0, x1, -, -⟩ := two_cells HX.out
      go_wp2_with fail
      have hfin := two_set (a := .int .i64 m) (b := .slice (some ⟨W.heap.size + 1, 0, none⟩) m m) RB.out
      refine bodyPost_ret (v := .tuple #[.agg #[.int .i64 m, .slice (some ⟨W.heap.size + 1, 0, none⟩) m m], .int .i64 0]) (results_cell2 (p := 4) (u := 5) (ty := 24) rfl _ _ w.heap.size 24 _ (0, 0) _ rfl hfin Try.underlying24 rfl (by exact info27)) rfl ⟨⟨_, rfl, ?_⟩, ?_⟩
      · have h := Own.of_blk ((HB.out.other (a := ⟨w.heap.size, 0, none⟩) (by simp; omega) (.int .i64 m)).other (a := ⟨w.heap.size, 1, none⟩) (by simp; omega) (.slice (some ⟨W.heap.size + 1, 0, none⟩) m m)) (B := w.heap.size) (by omega) (by rw [rowsF_length]; unfold maxLen; omega)
        rw [rowsF_length] at h
        exact h
      · exact ((E2.trans (hE.mono (by omega))).setCell (p := ⟨w.heap.size, 0, none⟩) (by simp) _).setCell (p := ⟨w.heap.size, 1, none⟩) (by simp) _

theorem specRg_any (n k : Int) (w : World) :
    Calls Try.prog 14 #[.int .i64 n, .int .i64 k] w fun e w' => GRes w.heap.size (RgN n k) (RgL n k) (RgC n k) e w' ∧ Below w.heap.size w w' := by
  cases h : ringOk n k
  · rw [show RgN n k = 0 by simp [RgN, h], show RgL n k = [] by simp [RgL, h], show RgC n k = 2 by simp [RgC, h]]
    exact specRg_no n k w h
  · obtain ⟨h1, h2, h3, h4, h5⟩ := (ringOk_iff n k).1 h
    obtain ⟨n', rfl⟩ := Int.eq_ofNat_of_zero_le (show 0 ≤ n by omega)
    obtain ⟨k', rfl⟩ := Int.eq_ofNat_of_zero_le (show 0 ≤ k by omega)
    have := specRg_yes n' k' (2 * n') w (by omega) (by omega) (by omega) (by omega) (by omega) rfl
    rw [show RgN (n' : Int) (k' : Int) = ((2 * n' : Nat) : Int) by simp [RgN, h], show RgL (n' : Int) (k' : Int) = rowsF (2 * n') (adjS (ringS n' k' n')) by simp [RgL, h], show RgC (n' : Int) (k' : Int) = 0 by simp [RgC, h]]
    exact this
end Go.Proofs.Ytneomnkpfkomiaa
