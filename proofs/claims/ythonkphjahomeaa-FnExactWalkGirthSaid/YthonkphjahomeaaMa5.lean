/-
  impl.IsBase. (A plain seat.)
-/
import Derived.Test.YthonkphjahomeaaMa4
namespace Go.Proofs.Ythonkphjahomeaa
set_option maxRecDepth 100000
open Go.RowKit

set_option maxRecDepth 100000 in
set_option maxHeartbeats 3200000 in
theorem implIs_any (n m : Int) (v : Value) (k : Nat) (fs : List Int) (w : World) (hs : Sa w v k fs) (hl : k ≤ 9223372036854775807) :
    Calls Try.prog 13 #[.agg #[.int .i64 n, .int .i64 m, v]] w fun e w' => e = .returned (.bool (isB n m k fs)) ∧ Below w.heap.size w w' := by
  obtain ⟨a, c, rfl⟩ : ∃ a c, v = .slice a k c := ⟨_, _, hs.form⟩
  have D0 : Below w.heap.size w (w.alloc (.cells #[.int .i64 n, .int .i64 m, .slice a k c] 30)) := (Below.refl _ _).alloc (Nat.le_refl _) _
  have HD := Lib.hid D0
  by_cases c1 : 1 ≤ n ∧ n ≤ 10
  · obtain ⟨n0, n1⟩ := c1
    by_cases c2 : 1 ≤ m ∧ m ≤ 62
    · obtain ⟨m0, m1⟩ := c2
      have hp0 : 0 ≤ n * m := Int.mul_nonneg (by omega) (by omega)
      have hp1 : n * m ≤ 620 := by
        have := Int.mul_le_mul n1 m1 (by omega) (by omega : (0 : Int) ≤ 10)
        omega
      obtain ⟨p, hp⟩ : ∃ p, p = n * m := ⟨_, rfl⟩
      have hw : IntKind.i64.wrap (n * m) = n * m := IntWalk.i64_in _ ⟨by omega, by omega⟩
      by_cases c3 : n * m ≤ 62
      · by_cases c4 : k ≤ 16
        · have k4 : (k : Int) ≤ 16 := by omega
          have HB : Hid (isB n m k fs = arcsOk n m fs k) := by show isB _ _ _ _ = _; unfold isB; rw [decide_eq_true (show 1 ≤ n ∧ n ≤ 10 ∧ 1 ≤ m ∧ m ≤ 62 ∧ n * m ≤ 62 ∧ k ≤ 16 from ⟨n0, n1, m0, m1, c3, c4⟩)]; rfl
          by_cases k0 : k = 0
          · subst k0
            have HR : Hid (isB n m 0 fs = true) := by show _ = _; rw [HB.out]; rfl
            clear hs D0 HB hp hp0 hp1
            go_enter Try.func13, Try.ntmps13
            go_wp2
            go_loopw [38] (fun i wr => i = .int .i64 0 ∧ wr = w.alloc (.cells #[.int .i64 n, .int .i64 m, .slice a 0 c] 30)) (fun i _ => 0)
            case atStart => exact ⟨rfl, rfl⟩
            case round =>
              obtain ⟨rfl, rfl⟩ := hrel
              go_wp2
              go_ret
              exact ⟨ret_bool HR.out.symm, HD.out⟩
          · obtain ⟨hk3, ⟨_, _, _, e⟩ | ⟨b, off, cap, e, hb, hc⟩⟩ := hs
            · exact absurd e k0
            obtain ⟨rfl, rfl⟩ : a = some ⟨b, off, none⟩ ∧ c = cap := by cases e; exact ⟨rfl, rfl⟩
            have HC := Lib.hid hc; have HK := Lib.hid hk3
            have X0 := Lib.hid (World.alloc_heap_new w (.cells #[.int .i64 n, .int .i64 m, .slice (some ⟨b, off, none⟩) k c] 30))
            clear hc hk3 D0 hp hp0 hp1 e
            go_enter Try.func13, Try.ntmps13
            go_wp2
            go_loopw [38] (fun i wr => ∃ j : Nat, j ≤ k ∧ i = .int .i64 j ∧ Hid (arcsOk n m fs j = true) ∧ Below (w.heap.size + 1) (w.alloc (.cells #[.int .i64 n, .int .i64 m, .slice (some ⟨b, off, none⟩) k c] 30)) wr) (fun i _ => k - (intOf i).toNat)
            case atStart => exact ⟨0, Nat.zero_le _, rfl, rfl, Below.refl _ _⟩
            case round =>
              obtain ⟨j, hj, rfl, HO, hB⟩ := hrel
              have hsz : w.heap.size + 1 ≤ wr.heap.size := by have := hB.size; simpa using this
              have hlt1 : w.heap.size < wr.heap.size := by omega
              have hne1 : ¬ w.heap.size = wr.heap.size := by omega
              have hne2 : ¬ wr.heap.size = w.heap.size := by omega
              obtain ⟨⟨q0, q1, q2⟩, -, -, -⟩ := three_cells ((hB.block w.heap.size (by omega)).trans X0.out)
              by_cases hlt : (j : Int) < k
              · have hj0 : (0 : Int) ≤ j := by omega
                have hkl := HK.out
                have hbc : ∀ i, i < fs.length → wr.cell? ⟨b, off + i, none⟩ = some (.int .i64 (el fs i)) := fun i hi => ((HD.out.trans (hB.mono (by simp))).cell (p := ⟨b, off + i, none⟩) hb).trans (HC.out i hi)
                have z0 := hbc (j * 3) (by omega)
                have z1 := hbc (j * 3 + 1) (by omega)
                have z2 := hbc (j * 3 + 2) (by omega)
                rw [← Nat.add_assoc] at z1 z2
                obtain ⟨fa, hfa⟩ : ∃ x, x = el fs (j * 3) := ⟨_, rfl⟩
                obtain ⟨fb, hfb⟩ : ∃ x, x = el fs (j * 3 + 1) := ⟨_, rfl⟩
                obtain ⟨fc, hfc⟩ : ∃ x, x = el fs (j * 3 + 2) := ⟨_, rfl⟩
                rw [← hfa] at z0; rw [← hfb] at z1; rw [← hfc] at z2
                have HN : Hid (arcsOk n m fs (j + 1) = (arcsOk n m fs j && ((decide (0 ≤ fa) && decide (fa < n)) && ((decide (0 ≤ fb) && decide (fb < n)) && (decide (0 ≤ fc) && decide (fc < m)))))) := by
                  show arcsOk _ _ _ _ = _; rw [arcsOk_succ, hfa, hfb, hfc]
                have HNO : Hid (((decide (0 ≤ fa) && decide (fa < n)) && ((decide (0 ≤ fb) && decide (fb < n)) && (decide (0 ≤ fc) && decide (fc < m)))) = false → isB n m k fs = false) := fun h => by
                  rw [HB.out]
                  exact arcsOk_no (by omega : j < k) (by rw [hfa, hfb, hfc] at h; exact h)
                have Q0 := hB.alloc hsz (.cells #[.int .i64 fa, .int .i64 fb, .int .i64 fc] 41)
                have HQ := Lib.hid Q0
                clear hkl hbc hfa hfb hfc Q0
                by_cases g1 : 0 ≤ fa ∧ fa < n
                · by_cases g2 : 0 ≤ fb ∧ fb < n
                  · by_cases g3 : 0 ≤ fc ∧ fc < m
                    · have HO2 : Hid (arcsOk n m fs (j + 1) = true) := by show _ = _; rw [HN.out, HO.out]; simp [g1, g2, g3]
                      have hfa : ∀ W, Calls Try.prog 20 #[.int .i64 n, .int .i64 fa] W fun e w' => e = .returned (.bool true) ∧ W = w' := fun W => (vertex_val n fa W true (by simp; omega)); have hfb : ∀ W, Calls Try.prog 20 #[.int .i64 n, .int .i64 fb] W fun e w' => e = .returned (.bool true) ∧ W = w' := fun W => (vertex_val n fb W true (by simp; omega)); have hfc : ∀ W, Calls Try.prog 21 #[.int .i64 m, .int .i64 fc] W fun e w' => e = .returned (.bool true) ∧ W = w' := fun W => (rest_val m fc W true (by simp; omega)); go_wp2_with (first | (go_at_call 20; with_reducible refine (hfa _).mono ?_; rintro e w3 ⟨rfl, rfl⟩) | (go_at_call 20; with_reducible refine (hfb _).mono ?_; rintro e w3 ⟨rfl, rfl⟩) | (go_at_call 21; with_reducible refine (hfc _).mono ?_; rintro e w3 ⟨rfl, rfl⟩))
                      go_roundw
                      case rel => exact ⟨j + 1, by omega, by go_num, HO2, HQ.out⟩
                      case measure => simp [intOf]; omega
                    · have HR := Lib.hid (HNO.out (by simp [g1, g2]; omega))
                      have hfa : ∀ W, Calls Try.prog 20 #[.int .i64 n, .int .i64 fa] W fun e w' => e = .returned (.bool true) ∧ W = w' := fun W => (vertex_val n fa W true (by simp; omega)); have hfb : ∀ W, Calls Try.prog 20 #[.int .i64 n, .int .i64 fb] W fun e w' => e = .returned (.bool true) ∧ W = w' := fun W => (vertex_val n fb W true (by simp; omega)); have hfc : ∀ W, Calls Try.prog 21 #[.int .i64 m, .int .i64 fc] W fun e w' => e = .returned (.bool false) ∧ W = w' := fun W => (rest_val m fc W false (by simp; omega)); go_wp2_with (first | (go_at_call 20; with_reducible refine (hfa _).mono ?_; rintro e w3 ⟨rfl, rfl⟩) | (go_at_call 20; with_reducible refine (hfb _).mono ?_; rintro e w3 ⟨rfl, rfl⟩) | (go_at_call 21; with_reducible refine (hfc _).mono ?_; rintro e w3 ⟨rfl, rfl⟩))
                      go_ret
                      exact ⟨ret_bool HR.out.symm, HD.out.trans (HQ.out.mono (by simp))⟩
                  · have HR := Lib.hid (HNO.out (by simp [g1]; omega))
                    have hfa : ∀ W, Calls Try.prog 20 #[.int .i64 n, .int .i64 fa] W fun e w' => e = .returned (.bool true) ∧ W = w' := fun W => (vertex_val n fa W true (by simp; omega)); have hfb : ∀ W, Calls Try.prog 20 #[.int .i64 n, .int .i64 fb] W fun e w' => e = .returned (.bool false) ∧ W = w' := fun W => (vertex_val n fb W false (by simp; omega)); go_wp2_with (first | (go_at_call 20; with_reducible refine (hfa _).mono ?_; rintro e w3 ⟨rfl, rfl⟩) | (go_at_call 20; with_reducible refine (hfb _).mono ?_; rintro e w3 ⟨rfl, rfl⟩))
                    go_ret
                    exact ⟨ret_bool HR.out.symm, HD.out.trans (HQ.out.mono (by simp))⟩
                · have HR := Lib.hid (HNO.out (by simp; omega))
                  have hfa : ∀ W, Calls Try.prog 20 #[.int .i64 n, .int .i64 fa] W fun e w' => e = .returned (.bool false) ∧ W = w' := fun W => (vertex_val n fa W false (by simp; omega)); go_wp2_with (first | (go_at_call 20; with_reducible refine (hfa _).mono ?_; rintro e w3 ⟨rfl, rfl⟩))
                  go_ret
                  exact ⟨ret_bool HR.out.symm, HD.out.trans (HQ.out.mono (by simp))⟩
              · have hjk : j = k := by omega
                have HR : Hid (isB n m k fs = true) := by show _ = _; rw [HB.out, ← hjk]; exact HO.out
                go_wp2
                go_ret
                exact ⟨ret_bool HR.out.symm, HD.out.trans (hB.mono (by simp))⟩
        · have k4 : ¬ (k : Int) ≤ 16 := by omega
          have HR : Hid (isB n m k fs = false) := by show isB _ _ _ _ = _; unfold isB; rw [decide_eq_false (by omega)]; rfl
          clear hs D0 hp hp0 hp1
          go_enter Try.func13, Try.ntmps13
          go_wp2
          go_ret
          exact ⟨ret_bool HR.out.symm, HD.out⟩
      · have HR : Hid (isB n m k fs = false) := by show isB _ _ _ _ = _; unfold isB; rw [decide_eq_false (fun h => c3 h.2.2.2.2.1)]; rfl
        clear hs D0 hp hp0 hp1
        go_enter Try.func13, Try.ntmps13
        go_wp2
        go_ret
        exact ⟨ret_bool HR.out.symm, HD.out⟩
    · have HR : Hid (isB n m k fs = false) := by show isB _ _ _ _ = _; unfold isB; rw [decide_eq_false (fun h => c2 ⟨h.2.2.1, h.2.2.2.1⟩)]; rfl
      clear hs D0
      by_cases m0 : 1 ≤ m
      · have m1 : ¬ m ≤ 62 := by omega
        go_enter Try.func13, Try.ntmps13
        go_wp2
        go_ret
        exact ⟨ret_bool HR.out.symm, HD.out⟩
      · go_enter Try.func13, Try.ntmps13
        go_wp2
        go_ret
        exact ⟨ret_bool HR.out.symm, HD.out⟩
  · have HR : Hid (isB n m k fs = false) := by show isB _ _ _ _ = _; unfold isB; rw [decide_eq_false (fun h => c1 ⟨h.1, h.2.1⟩)]; rfl
    clear hs D0
    by_cases n0 : 1 ≤ n
    · have n1 : ¬ n ≤ 10 := by omega
      go_enter Try.func13, Try.ntmps13
      go_wp2
      go_ret
      exact ⟨ret_bool HR.out.symm, HD.out⟩
    · go_enter Try.func13, Try.ntmps13
      go_wp2
      go_ret
      exact ⟨ret_bool HR.out.symm, HD.out⟩
end Go.Proofs.Ythonkphjahomeaa
