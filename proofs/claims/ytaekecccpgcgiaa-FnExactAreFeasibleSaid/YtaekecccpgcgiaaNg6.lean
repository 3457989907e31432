/-
  impl.AreFeasible, whatever comes in.
-/
import Derived.Test.YtaekecccpgcgiaaNf6
namespace Go.Proofs.Ytaekecccpgcgiaa
open Go.RowKit

theorem sm_ok {xs ys : List Int} (hn : xs.length ≤ 10) (ok1 : numsOk 62 xs xs.length = true) (ok2 : numsOk 62 ys xs.length = true) : ∀ i, i ≤ (nmL xs ys xs.length).length → 0 ≤ smK (nmL xs ys xs.length) i ∧ smK (nmL xs ys xs.length) i ≤ 9000000000000000000 := by
  intro i hi
  rw [nmL_length] at hi
  cases i with
  | zero => exact ⟨Int.le_refl _, by simp [smK]⟩
  | succ i =>
    have h := smK_bound xs ys xs.length hn (fun i hi => numsOk_at ok1 hi) (fun i hi => numsOk_at ok2 hi) i (by omega)
    have e : 2 * (62 : Int) ^ i ≤ 9000000000000000000 := by
      have : i = 0 ∨ i = 1 ∨ i = 2 ∨ i = 3 ∨ i = 4 ∨ i = 5 ∨ i = 6 ∨ i = 7 ∨ i = 8 ∨ i = 9 ∨ i = 10 := by omega
      rcases this with rfl | rfl | rfl | rfl | rfl | rfl | rfl | rfl | rfl | rfl | rfl <;> decide
    omega

set_option maxHeartbeats 1600000 in
theorem implFe_any (v1 v2 : Value) (xs ys : List Int) (w : World) (h1 : Sl w v1 xs) (h2 : Sl w v2 ys) (l1 : xs.length ≤ 9223372036854775807) (l2 : ys.length ≤ 9223372036854775807) :
    Calls Try.prog 20 #[v1, v2] w fun e w' => e = .returned (.tuple #[.bool (feB xs ys), .int .i64 (feC xs ys)]) ∧ Below w.heap.size w w' := by
  have hn := implNm_any v1 v2 xs ys w h1 h2 l1 l2
  cases hok : twoOk xs ys with
  | false =>
    rw [show feB xs ys = false by simp [feB, hok], show feC xs ys = 2 by simp [feC, hok]]
    rw [(twoOk_far hok).1, (twoOk_far hok).2] at hn
    have HN := Lib.hid hn
    rw [slForm h1, slForm h2] at HN ⊢
    clear h1 h2 hn hok l1 l2
    go_enter Try.func20, Try.ntmps20
    go_wp2_with fail
    refine HN.out.mono ?_
    rintro e w1 ⟨⟨u, rfl, hO⟩, hb⟩
    go_wp2_with fail
    go_ret2
    exact ⟨rfl, hb⟩
  | true =>
    rw [show feB xs ys = (nmW xs ys xs.length && (bdB xs ys && evB (nmL xs ys xs.length) (el xs 0))) by simp [feB, hok], show feC xs ys = 0 by simp [feC, hok]]
    obtain ⟨k1, k2, k3, k4, k5⟩ := (twoOk_iff _ _).1 hok
    rw [show NmL xs ys = nmQ xs ys xs.length by simp [NmL, hok], show NmC xs ys = nmD xs ys xs.length by simp [NmC, hok]] at hn
    cases hW : nmW xs ys xs.length with
    | false =>
      rw [nmD_no hW] at hn
      rw [Bool.false_and]
      have HN := Lib.hid hn
      rw [slForm h1, slForm h2] at HN ⊢
      clear h1 h2 hn hok l1 l2 k1 k2 k3 k4 k5 hW
      go_enter Try.func20, Try.ntmps20
      go_wp2_with fail
      refine HN.out.mono ?_
      rintro e w1 ⟨⟨u, rfl, hO⟩, hb⟩
      go_wp2_with fail
      go_ret2
      exact ⟨rfl, hb⟩
    | true =>
      rw [nmD_yes hW, nmQ_yes hW] at hn
      rw [Bool.true_and]
      have hsm := sm_ok k3 k4 (by rw [k1]; exact k5)
      rcases h1 with ⟨_, _, _, rfl⟩ | ⟨b1, o1, c1, rfl, hb1, hc1⟩
      · simp at k2
      rcases h2 with ⟨_, _, _, rfl⟩ | ⟨b2, o2, c2, rfl, hb2, hc2⟩
      · have : xs.length = 0 := k1; omega
      have HBD : Hid (∀ W, Below w.heap.size w W → Calls Try.prog 40 #[.slice (some ⟨b1, o1, none⟩) xs.length c1, .slice (some ⟨b2, o2, none⟩) xs.length c2] W fun e w' => e = .returned (.bool (bdB xs ys)) ∧ Below W.heap.size W w') := fun W h =>
        bounded_some b1 o1 c1 b2 o2 c2 xs.length xs ys W rfl k1.symm (Nat.lt_of_lt_of_le hb1 h.size) (Nat.lt_of_lt_of_le hb2 h.size) (hc1.below h hb1) (hc2.below h hb2) k2 k3 k4 (by rw [k1]; exact k5)
      have HX0 : Hid (∀ W, Below w.heap.size w W → W.cell? ⟨b1, o1, none⟩ = some (.int .i64 (el xs 0))) := fun W h => (hc1.below h hb1) 0 (by omega)
      have hx0 := numsOk_at k4 (i := 0) (by omega)
      have HWE : Hid (∀ (g cap B : Nat) (W : World), Own W B (.slice (some ⟨g, 0, none⟩) (nmL xs ys xs.length).length cap) (nmL xs ys xs.length) → Calls Try.prog 41 #[.slice (some ⟨g, 0, none⟩) (nmL xs ys xs.length).length cap, .int .i64 (el xs 0)] W fun e w' => e = .returned (.bool (evB (nmL xs ys xs.length) (el xs 0))) ∧ W = w') := fun g cap B W h =>
        whole_any g cap B _ (el xs 0) W h (by rw [nmL_length]; omega) hsm (by omega) (by omega)
      rw [← k1] at hn ⊢
      have HN := Lib.hid hn
      obtain ⟨L, hL⟩ : ∃ L, L = nmL xs ys xs.length := ⟨_, rfl⟩
      have hL0 : 0 < L.length := by rw [hL, nmL_length]; omega
      rw [← hL] at HWE HN ⊢
      obtain ⟨X, hX⟩ : ∃ X, X = el xs 0 := ⟨_, rfl⟩
      rw [← hX] at HX0 HWE ⊢
      obtain ⟨p, hp⟩ : ∃ p, p = bdB xs ys := ⟨_, rfl⟩
      rw [← hp] at HBD ⊢
      obtain ⟨q, hq⟩ : ∃ q, q = evB L X := ⟨_, rfl⟩
      rw [← hq] at HWE ⊢
      have n1 : (0 : Int) < xs.length := by omega
      clear hn hok l1 l2 k1 k2 k3 k4 k5 hW hsm hL hX hp hq hc1 hc2 hx0
      cases p with
      | false =>
        rw [Bool.false_and]
        go_enter Try.func20, Try.ntmps20
        go_wp2_with fail
        refine HN.out.mono ?_
        rintro e w1 ⟨⟨u, rfl, hO⟩, hb⟩
        go_wp2_with fail
        refine (HBD.out w1 hb).mono ?_
        rintro e w2 ⟨rfl, hb2⟩
        go_wp2_with fail
        go_ret2
        exact ⟨rfl, hb.trans (hb2.mono hb.size)⟩
      | true =>
        rw [Bool.true_and]
        go_enter Try.func20, Try.ntmps20
        go_wp2_with fail
        refine HN.out.mono ?_
        rintro e w1 ⟨⟨u, rfl, hO⟩, hb⟩
        obtain ⟨g, cap, rfl, _, _⟩ := hO.some hL0
        go_wp2_with fail
        refine (HBD.out w1 hb).mono ?_
        rintro e w2 ⟨rfl, hb2⟩
        have hB2 := hb.trans (hb2.mono hb.size)
        have x0 := HX0.out w2 hB2
        have hw := HWE.out g cap _ w2 (hO.below hb2)
        go_wp2_with fail
        refine hw.mono ?_
        rintro e w3 ⟨rfl, rfl⟩
        go_wp2_with fail
        go_ret2
        exact ⟨rfl, hB2⟩
end Go.Proofs.Ytaekecccpgcgiaa
