/-
  spec.l06Lists and spec.l06Numbers.
-/
import Derived.Test.YtaekecccpgcgiaaNa6
namespace Go.Proofs.Ytaekecccpgcgiaa
open Go.RowKit

theorem twoOk_no {b c : List Int} (h : ¬ (b.length = c.length ∧ 1 ≤ b.length ∧ b.length ≤ 10 ∧ numsOk 62 b b.length = true ∧ numsOk 62 c c.length = true)) : twoOk b c = false := by
  cases e : twoOk b c with
  | false => rfl
  | true => exact absurd ((twoOk_iff _ _).1 e) h

set_option maxHeartbeats 800000 in
theorem l06Lists_far (a1 a2 : Option Addr) (n1 n2 c1 c2 : Nat) (w : World) (h : n1 ≠ n2 ∨ n1 < 1 ∨ 10 < n1) :
    Calls Try.prog 37 #[.slice a1 n1 c1, .slice a2 n2 c2] w fun e w' => e = .returned (.bool false) ∧ w = w' := by
  by_cases h1 : n1 = n2
  · subst h1
    have t1 : ((n1 : Int) != n1) = false := by simp
    by_cases h2 : n1 < 1
    · have t2 : (n1 : Int) < 1 := by omega
      go_enter Try.func37, Try.ntmps37
      go_wp2_with fail
      go_ret
      exact ⟨rfl, rfl⟩
    · have t2 : ¬ (n1 : Int) < 1 := by omega
      have t3 : (10 : Int) < n1 := by omega
      go_enter Try.func37, Try.ntmps37
      go_wp2_with fail
      go_ret
      exact ⟨rfl, rfl⟩
  · have t1 : ((n1 : Int) != n2) = true := by rw [bne_iff_ne]; omega
    go_enter Try.func37, Try.ntmps37
    go_wp2_with fail
    go_ret
    exact ⟨rfl, rfl⟩

set_option maxHeartbeats 1600000 in
theorem l06Lists_near (b1 o1 c1 b2 o2 c2 n : Nat) (xs ys : List Int) (w : World) (h1 : xs.length = n) (h2 : ys.length = n) (hc1 : Cells w b1 o1 xs) (hc2 : Cells w b2 o2 ys) (hn0 : 1 ≤ n) (hn : n ≤ 10) :
    Calls Try.prog 37 #[.slice (some ⟨b1, o1, none⟩) n c1, .slice (some ⟨b2, o2, none⟩) n c2] w fun e w' => e = .returned (.bool (numsOk 62 xs n && numsOk 62 ys n)) ∧ w = w' := by
  have HC1 := Lib.hid hc1; have HC2 := Lib.hid hc2; have H1 := Lib.hid h1; have H2 := Lib.hid h2
  clear hc1 hc2 h1 h2
  have t1 : ((n : Int) != n) = false := by simp
  have t2 : ¬ (n : Int) < 1 := by omega
  have t3 : ¬ (10 : Int) < n := by omega
  go_enter Try.func37, Try.ntmps37
  go_wp2_with fail
  clear t1 t2 t3
  go_loop [5] (fun i => ∃ k : Nat, k ≤ n ∧ i = .int .i64 k ∧ Hid (numsOk 62 xs k = true) ∧ Hid (numsOk 62 ys k = true)) (fun i => n - (intOf i).toNat)
  case atStart => exact ⟨0, Nat.zero_le _, rfl, rfl, rfl⟩
  case round =>
    obtain ⟨k, hk, rfl, HX, HY⟩ := hrel
    by_cases hlt : (k : Int) < n
    · have hkl : k < n := by omega
      have hz1 : w.cell? ⟨b1, o1 + k, none⟩ = some (.int .i64 (el xs k)) := HC1.out k (by have := H1.out; omega)
      have hz2 : w.cell? ⟨b2, o2 + k, none⟩ = some (.int .i64 (el ys k)) := HC2.out k (by have := H2.out; omega)
      have hk0 : (0 : Int) ≤ k := by omega
      have hin := Lib.hid (in_any (el xs k) 1 62 w)
      have hin2 := Lib.hid (in_any (el ys k) 1 62 w)
      cases hx : numB 62 (el xs k) with
      | true =>
        have hx2 : (decide (1 ≤ el xs k) && decide (el xs k ≤ 62)) = true := hx
        rw [hx2] at hin
        cases hy : numB 62 (el ys k) with
        | true =>
          have hy2 : (decide (1 ≤ el ys k) && decide (el ys k ≤ 62)) = true := hy
          rw [hy2] at hin2
          have HX2 : Hid (numsOk 62 xs (k + 1) = true) := by show _ = _; rw [numsOk_succ, HX.out, hx]; rfl
          have HY2 : Hid (numsOk 62 ys (k + 1) = true) := by show _ = _; rw [numsOk_succ, HY.out, hy]; rfl
          clear hx hy hx2 hy2
          go_wp2_with fail
          refine hin.out.mono ?_
          rintro e w' ⟨rfl, rfl⟩
          go_wp2_with fail
          refine hin2.out.mono ?_
          rintro e w' ⟨rfl, rfl⟩
          go_wp2_with fail
          go_round
          case rel => exact ⟨k + 1, by omega, by go_num, HX2, HY2⟩
          case measure => simp [intOf]; omega
        | false =>
          have hy2 : (decide (1 ≤ el ys k) && decide (el ys k ≤ 62)) = false := hy
          rw [hy2] at hin2
          have HNO : Hid ((numsOk 62 xs n && numsOk 62 ys n) = false) := by show _ = _; rw [numsOk_no (g := 62) hkl hy, Bool.and_false]
          clear hx hy hx2 hy2
          go_wp2_with fail
          refine hin.out.mono ?_
          rintro e w' ⟨rfl, rfl⟩
          go_wp2_with fail
          refine hin2.out.mono ?_
          rintro e w' ⟨rfl, rfl⟩
          go_wp2_with fail
          go_ret
          exact ⟨ret_bool HNO.out.symm, rfl⟩
      | false =>
        have hx2 : (decide (1 ≤ el xs k) && decide (el xs k ≤ 62)) = false := hx
        rw [hx2] at hin
        have HNO : Hid ((numsOk 62 xs n && numsOk 62 ys n) = false) := by show _ = _; rw [numsOk_no (g := 62) hkl hx, Bool.false_and]
        clear hx hx2 hin2
        go_wp2_with fail
        refine hin.out.mono ?_
        rintro e w' ⟨rfl, rfl⟩
        go_wp2_with fail
        go_ret
        exact ⟨ret_bool HNO.out.symm, rfl⟩
    · obtain rfl : k = n := by omega
      have HYES : Hid ((numsOk 62 xs k && numsOk 62 ys k) = true) := by show _ = _; rw [HX.out, HY.out]; rfl
      go_wp2_with fail
      go_ret
      exact ⟨ret_bool HYES.out.symm, rfl⟩

theorem l06Lists_any (v1 v2 : Value) (xs ys : List Int) (w : World) (h1 : Sl w v1 xs) (h2 : Sl w v2 ys) :
    Calls Try.prog 37 #[v1, v2] w fun e w' => e = .returned (.bool (twoOk xs ys)) ∧ w = w' := by
  by_cases h : xs.length ≠ ys.length ∨ xs.length < 1 ∨ 10 < xs.length
  · rw [twoOk_no (by omega), slForm h1, slForm h2]
    exact l06Lists_far _ _ _ _ _ _ w h
  · have e1 : xs.length = ys.length := by omega
    have e2 : twoOk xs ys = (numsOk 62 xs xs.length && numsOk 62 ys xs.length) := by
      unfold twoOk
      rw [decide_eq_true e1, decide_eq_true (show 1 ≤ xs.length by omega), decide_eq_true (show xs.length ≤ 10 by omega), e1]
      simp
    rw [e2]
    rcases h1 with ⟨_, _, _, rfl⟩ | ⟨b1, o1, c1, rfl, hb1, hc1⟩
    · simp at h
    · rcases h2 with ⟨_, _, _, rfl⟩ | ⟨b2, o2, c2, rfl, hb2, hc2⟩
      · have h3 : ¬ xs.length < 1 := fun h4 => h (.inr (.inl h4))
        have h5 : xs.length = 0 := e1
        omega
      · rw [← e1]
        exact l06Lists_near b1 o1 c1 b2 o2 c2 xs.length xs ys w rfl e1.symm hc1 hc2 (by omega) (by omega)
end Go.Proofs.Ytaekecccpgcgiaa
