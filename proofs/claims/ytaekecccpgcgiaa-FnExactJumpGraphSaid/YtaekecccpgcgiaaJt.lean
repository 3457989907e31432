/-
  spec.JumpGraph.
-/
import Derived.Test.YtaekecccpgcgiaaJs
namespace Go.Proofs.Ytaekecccpgcgiaa
set_option maxRecDepth 100000
open Go.RowKit Go.Maps Go.WideMaps Go.WideElems

set_option maxHeartbeats 800000 in
theorem specJg_far (n : Int) (a : Option Addr) (len cap : Nat) (w : World) (h : n < 3 ∨ 62 < n ∨ 20 < len) (hl : len ≤ 9223372036854775807) :
    Calls Try.prog 21 #[.int .i64 n, .slice a len cap] w fun e w' => GRes w.heap.size 0 [] 2 e w' ∧ Below w.heap.size w w' := by
  have D0 : Below w.heap.size w (w.alloc (.cells #[.int .i64 0, .slice none 0 0] 35)) := (Below.refl _ _).alloc (Nat.le_refl _) _
  have RB := Lib.hid (World.alloc_heap_new w (.cells #[.int .i64 0, .slice none 0 0] 35))
  obtain ⟨W, hW⟩ : ∃ W, W = w.alloc (.cells #[.int .i64 0, .slice none 0 0] 35) := ⟨_, rfl⟩
  rw [← hW] at D0 RB
  have hc : (¬ 3 ≤ n) ∨ (3 ≤ n ∧ ¬ n ≤ 62) ∨ (3 ≤ n ∧ n ≤ 62 ∧ 20 < len) := by omega
  clear h
  rcases hc with h1 | ⟨h1, h2⟩ | ⟨h1, h2, h3⟩
  all_goals
    go_enter Try.func21, Try.ntmps21
    go_wp2_with (go_at_call 28; refine (in_any _ _ _ _).mono ?_; rintro e w' ⟨rfl, rfl⟩)
    rw [← hW]
    refine bodyPost_ret (v := .tuple #[.agg #[.int .i64 0, .slice none 0 0], .int .i64 2]) (results_cell2 (p := 4) (u := 5) (ty := 35) rfl _ _ w.heap.size 35 _ (0, 0) _ rfl RB.out Try.underlying35 rfl (by exact info27)) rfl ⟨⟨_, rfl, Own.nil _ _⟩, D0⟩

set_option maxHeartbeats 1600000 in
set_option maxRecDepth 100000 in
theorem specJg_nil (n : Nat) (a : Option Addr) (c : Nat) (w : World) (h3 : 3 ≤ n) (hn : n ≤ 62) :
    Calls Try.prog 21 #[.int .i64 n, .slice a 0 c] w fun e w' => GRes w.heap.size (JgN n []) (JgL n []) (JgC n []) e w' ∧ Below w.heap.size w w' := by
  have D0 : Below w.heap.size w (w.alloc (.cells #[.int .i64 0, .slice none 0 0] 35)) := (Below.refl _ _).alloc (Nat.le_refl _) _
  have RB0 := Lib.hid (World.alloc_heap_new w (.cells #[.int .i64 0, .slice none 0 0] 35))
  obtain ⟨W, hW⟩ : ∃ W, W = w.alloc (.cells #[.int .i64 0, .slice none 0 0] 35) := ⟨_, rfl⟩
  rw [← hW] at D0 RB0
  have hsz : w.heap.size + 1 ≤ W.heap.size := by rw [hW]; simp
  have h1 : (3 : Int) ≤ n := by omega
  have h2 : (n : Int) ≤ 62 := by omega
  go_enter Try.func21, Try.ntmps21
  go_wp2_with (go_at_call 28; refine (in_any _ _ _ _).mono ?_; rintro e w' ⟨rfl, rfl⟩)
  rw [← hW]
  clear hW
  go_loop [6] (fun i => i = .int .i64 0) (fun _ => 0)
  case atStart => exact rfl
  case round =>
    obtain rfl := hrel
    have hyes : jumpOk n [] = true := (by unfold jumpOk; simp; exact ⟨⟨by omega, by omega⟩, rfl⟩)
    obtain ⟨e1, e2, e3⟩ := Jg_yes hyes
    have HJN := Lib.hid e1; have HJL := Lib.hid e2; have HJC := Lib.hid e3
    have hcon := Lib.hid (specJumps_nil n a c W h3 hn)
    clear hyes e1 e2 e3
    go_wp2_with fail
    refine hcon.out.mono ?_
    rintro e w1 ⟨⟨g, rfl, hB, hg⟩, hb1⟩
    have RB := Lib.hid ((hb1.block w.heap.size (by omega)).trans RB0.out)
    obtain ⟨r0, r1, g0, g1⟩ := two_cells RB.out
    have HB := Lib.hid hB
    have hE1 := D0.trans (hb1.mono (by omega))
    clear hB hb1 hcon RB0
    go_wp2_with fail
    have hfin := two_set (a := .int .i64 n) (b := .slice (some ⟨g, 0, none⟩) n n) RB.out
    rw [HJN.out, HJL.out, HJC.out]
    refine bodyPost_ret (v := .tuple #[.agg #[.int .i64 n, .slice (some ⟨g, 0, none⟩) n n], .int .i64 0]) (results_cell2 (p := 4) (u := 5) (ty := 35) rfl _ _ w.heap.size 35 _ (0, 0) _ rfl hfin Try.underlying35 rfl (by exact info27)) rfl ⟨⟨_, rfl, ?_⟩, ?_⟩
    · have h := Own.of_blk ((HB.out.other (a := ⟨w.heap.size, 0, none⟩) (by simp; omega) (.int .i64 n)).other (a := ⟨w.heap.size, 1, none⟩) (by simp; omega) (.slice (some ⟨g, 0, none⟩) n n)) (B := w.heap.size) (by omega) (by rw [rowsF_length]; unfold maxLen; omega)
      rw [rowsF_length] at h
      exact h
    · exact (hE1.setCell (p := ⟨w.heap.size, 0, none⟩) (by simp) _).setCell (p := ⟨w.heap.size, 1, none⟩) (by simp) _

set_option maxHeartbeats 1600000 in
set_option maxRecDepth 100000 in
theorem specJg_some (n : Nat) (b off cap : Nat) (js : List Int) (w : World) (h3 : 3 ≤ n) (hn : n ≤ 62) (hb : b < w.heap.size) (hc : Cells w b off js) (h0 : 0 < js.length) (hjl : js.length ≤ 20) :
    Calls Try.prog 21 #[.int .i64 n, .slice (some ⟨b, off, none⟩) js.length cap] w fun e w' => GRes w.heap.size (JgN n js) (JgL n js) (JgC n js) e w' ∧ Below w.heap.size w w' := by
  have D0 : Below w.heap.size w (w.alloc (.cells #[.int .i64 0, .slice none 0 0] 35)) := (Below.refl _ _).alloc (Nat.le_refl _) _
  have RB0 := Lib.hid (World.alloc_heap_new w (.cells #[.int .i64 0, .slice none 0 0] 35))
  obtain ⟨W, hW⟩ : ∃ W, W = w.alloc (.cells #[.int .i64 0, .slice none 0 0] 35) := ⟨_, rfl⟩
  rw [← hW] at D0 RB0
  have hsz : w.heap.size + 1 ≤ W.heap.size := by rw [hW]; simp
  have h1 : (3 : Int) ≤ n := by omega
  have h2 : (n : Int) ≤ 62 := by omega
  have HC := Lib.hid (hc.below D0 hb)
  have h4 : ¬ (20 : Int) < js.length := by omega
  have h5 : ¬ 20 < js.length := by omega
  clear hc
  go_enter Try.func21, Try.ntmps21
  go_wp2_with (go_at_call 28; refine (in_any _ _ _ _).mono ?_; rintro e w' ⟨rfl, rfl⟩)
  rw [← hW]
  clear hW
  go_loop [6] (fun i => ∃ k : Nat, k ≤ js.length ∧ i = .int .i64 k ∧ Hid (jumpsOk n js k = true)) (fun i => js.length - (intOf i).toNat)
  case atStart => exact ⟨0, Nat.zero_le _, rfl, rfl⟩
  case round =>
    obtain ⟨k, hk, rfl, HK⟩ := hrel
    by_cases hlt : (k : Int) < js.length
    · have hkl : k < js.length := by omega
      have hz : W.cell? ⟨b, off + k, none⟩ = some (.int .i64 (el js k)) := HC.out k hkl
      have hk0 : (0 : Int) ≤ k := by omega
      by_cases hg : jumpB n (el js k) = true
      · obtain ⟨g1, g2⟩ := (jumpB_iff _ _).1 hg
        have HK2 : Hid (jumpsOk n js (k + 1) = true) := by show _ = _; rw [jumpsOk_succ, HK.out, hg]; rfl
        clear hg
        go_wp2_with (go_at_call 28; refine (in_any _ _ _ _).mono ?_; rintro e w' ⟨rfl, rfl⟩)
        go_round
        case rel => exact ⟨k + 1, by omega, by go_num, HK2⟩
        case measure => simp [intOf]; omega
      · have hno : jumpOk n js = false := by
          unfold jumpOk
          rw [jumpsOk_no hkl (by simpa using hg)]; simp
        obtain ⟨e1, e2, e3⟩ := Jg_no hno
        have HJN := Lib.hid e1; have HJL := Lib.hid e2; have HJC := Lib.hid e3
        have hb0 : (decide (1 ≤ el js k) && decide (el js k ≤ (n : Int) - 1)) = false := by
          have : jumpB n (el js k) = false := by simpa using hg
          exact this
        have HIN : Hid (∀ W1 : World, Calls Try.prog 28 #[.int .i64 (el js k), .int .i64 1, .int .i64 ((n : Int) - 1)] W1 fun e w' => e = .returned (.bool false) ∧ W1 = w') := fun W1 => by
          have := in_any (el js k) 1 ((n : Int) - 1) W1
          rw [hb0] at this; exact this
        obtain ⟨r0, r1, g0, g1⟩ := two_cells RB0.out
        clear hg hno e1 e2 e3 hb0
        all_goals
          go_wp2_with (go_at_call 28; refine (HIN.out _).mono ?_; rintro e w' ⟨rfl, rfl⟩)
          have hfin := two_set (a := .int .i64 0) (b := .slice none 0 0) RB0.out
          rw [HJN.out, HJL.out, HJC.out]
          refine bodyPost_ret (v := .tuple #[.agg #[.int .i64 0, .slice none 0 0], .int .i64 2]) (results_cell2 (p := 4) (u := 5) (ty := 35) rfl _ _ w.heap.size 35 _ (0, 0) _ rfl hfin Try.underlying35 rfl (by exact info27)) rfl ⟨⟨_, rfl, Own.nil _ _⟩, ?_⟩
          exact (D0.setCell (p := ⟨w.heap.size, 0, none⟩) (by simp) _).setCell (p := ⟨w.heap.size, 1, none⟩) (by simp) _
    · obtain rfl : k = js.length := by omega
      have hyes : jumpOk n js = true := (by rw [jumpOk_iff]; exact ⟨by omega, by omega, hjl, HK.out⟩)
      obtain ⟨e1, e2, e3⟩ := Jg_yes hyes
      have HJN := Lib.hid e1; have HJL := Lib.hid e2; have HJC := Lib.hid e3
      have hcon := Lib.hid (specJumps_some n b off cap js W h3 hn (Nat.lt_of_lt_of_le hb D0.size) HC.out h0 hjl HK.out)
      clear hyes e1 e2 e3
      go_wp2_with fail
      refine hcon.out.mono ?_
      rintro e w1 ⟨⟨g, rfl, hB, hg⟩, hb1⟩
      have RB := Lib.hid ((hb1.block w.heap.size (by omega)).trans RB0.out)
      obtain ⟨r0, r1, g0, g1⟩ := two_cells RB.out
      have HB := Lib.hid hB
      have hE1 := D0.trans (hb1.mono (by omega))
      clear hB hb1 hcon RB0
      go_wp2_with fail
      have hfin := two_set (a := .int .i64 n) (b := .slice (some ⟨g, 0, none⟩) n n) RB.out
      rw [HJN.out, HJL.out, HJC.out]
      refine bodyPost_ret (v := .tuple #[.agg #[.int .i64 n, .slice (some ⟨g, 0, none⟩) n n], .int .i64 0]) (results_cell2 (p := 4) (u := 5) (ty := 35) rfl _ _ w.heap.size 35 _ (0, 0) _ rfl hfin Try.underlying35 rfl (by exact info27)) rfl ⟨⟨_, rfl, ?_⟩, ?_⟩
      · have h := Own.of_blk ((HB.out.other (a := ⟨w.heap.size, 0, none⟩) (by simp; omega) (.int .i64 n)).other (a := ⟨w.heap.size, 1, none⟩) (by simp; omega) (.slice (some ⟨g, 0, none⟩) n n)) (B := w.heap.size) (by omega) (by rw [rowsF_length]; unfold maxLen; omega)
        rw [rowsF_length] at h
        exact h
      · exact (hE1.setCell (p := ⟨w.heap.size, 0, none⟩) (by simp) _).setCell (p := ⟨w.heap.size, 1, none⟩) (by simp) _

theorem specJg_any (n : Int) (v : Value) (js : List Int) (w : World) (hs : Sl w v js) (hl : js.length ≤ 9223372036854775807) :
    Calls Try.prog 21 #[.int .i64 n, v] w fun e w' => GRes w.heap.size (JgN n js) (JgL n js) (JgC n js) e w' ∧ Below w.heap.size w w' := by
  by_cases h : n < 3 ∨ 62 < n ∨ 20 < js.length
  · have hno : jumpOk n js = false := by
      cases e : jumpOk n js with
      | false => rfl
      | true => have := (jumpOk_iff n js).1 e; omega
    obtain ⟨e1, e2, e3⟩ := Jg_no hno
    rw [e1, e2, e3, slForm hs]
    exact specJg_far n _ _ _ w h hl
  · obtain ⟨n', rfl⟩ := Int.eq_ofNat_of_zero_le (show 0 ≤ n by omega)
    rcases hs with ⟨a, c, rfl, rfl⟩ | ⟨b, off, cap, rfl, hb, hc⟩
    · exact specJg_nil n' a c w (by omega) (by omega)
    · by_cases h0 : js.length = 0
      · obtain rfl := List.eq_nil_of_length_eq_zero h0
        exact specJg_nil n' _ _ w (by omega) (by omega)
      · exact specJg_some n' b off cap js w (by omega) (by omega) hb hc (by omega) (by omega)
end Go.Proofs.Ytaekecccpgcgiaa

