/-
  impl.AreFeasible.
-/
import Derived.Test.YtaekecccpgcgiaaNe6
namespace Go.Proofs.Ytaekecccpgcgiaa
open Go.RowKit

set_option maxHeartbeats 1600000 in
theorem whole_any (g cap B : Nat) (L : List Int) (k : Int) (w : World) (h : Own w B (.slice (some ⟨g, 0, none⟩) L.length cap) L) (hl : L.length ≤ 11) (hs : ∀ i, i ≤ L.length → 0 ≤ smK L i ∧ smK L i ≤ 9000000000000000000) (hk0 : 0 ≤ k) (hk1 : k ≤ 62) :
    Calls Try.prog 41 #[.slice (some ⟨g, 0, none⟩) L.length cap, .int .i64 k] w fun e w' => e = .returned (.bool (evB L k)) ∧ w = w' := by
  have H := Lib.hid h; have HS := Lib.hid hs
  obtain ⟨r, hr⟩ : ∃ r, r = evB L k := ⟨_, rfl⟩
  rw [← hr]
  have HR : Hid (r = (decide (smK L L.length % 2 = 0) || decide (k % 2 = 0))) := hr
  clear h hs hr
  go_enter Try.func41, Try.ntmps41
  go_wp2_with fail
  go_loop [5, 7, 10] (fun s _ i => ∃ j : Nat, j ≤ L.length ∧ i = .int .i64 j ∧ s = .int .i64 (smK L j)) (fun _ _ i => L.length - (intOf i).toNat)
  case atStart => exact ⟨0, Nat.zero_le _, rfl, rfl⟩
  case round =>
    obtain ⟨j, hj, rfl, rfl⟩ := hrel
    by_cases hlt : (j : Int) < L.length
    · have hjl : j < L.length := by omega
      have hj0 : (0 : Int) ≤ j := by omega
      have hz : w.cell? ⟨g, j, none⟩ = some (.int .i64 (el L j)) := H.out.cellAt hjl
      have hss : smK L (j + 1) = smK L j + el L j := rfl
      have hb := HS.out (j + 1) (by omega)
      rw [hss] at hb
      have hw : IntKind.i64.wrap (smK L j + el L j) = smK L j + el L j := IntWalk.i64_in _ (by omega)
      have HSS := Lib.hid hss
      clear hss
      generalize smK L j = S at *
      generalize el L j = z at *
      go_wp2_with fail
      go_round
      case rel => exact ⟨j + 1, by omega, by go_num, by rw [HSS.out]⟩
      case measure => simp [intOf]; omega
    · obtain rfl : j = L.length := by omega
      have hb := HS.out L.length (Nat.le_refl _)
      have hr := HR.out
      generalize smK L L.length = S at *
      by_cases h1 : S % 2 = 0
      · have t1 : (S % 2 == 0) = true := by rw [beq_iff_eq]; exact h1
        rw [decide_eq_true h1, Bool.true_or] at hr
        have HE := Lib.hid hr
        clear h1 hr
        go_wp2_with fail
        go_ret
        exact ⟨ret_bool HE.out.symm, rfl⟩
      · have t1 : (S % 2 == 0) = false := by rw [beq_eq_false_iff_ne]; exact h1
        rw [decide_eq_false h1, Bool.false_or] at hr
        by_cases h2 : k % 2 = 0
        · have t2 : (k % 2 == 0) = true := by rw [beq_iff_eq]; exact h2
          rw [decide_eq_true h2] at hr
          have HE := Lib.hid hr
          clear h1 h2 hr
          go_wp2_with fail
          go_ret
          exact ⟨ret_bool HE.out.symm, rfl⟩
        · have t2 : (k % 2 == 0) = false := by rw [beq_eq_false_iff_ne]; exact h2
          rw [decide_eq_false h2] at hr
          have HE := Lib.hid hr
          clear h1 h2 hr
          go_wp2_with fail
          go_ret
          exact ⟨ret_bool HE.out.symm, rfl⟩

set_option maxRecDepth 100000 in
set_option maxHeartbeats 3200000 in
theorem bounded_some (b1 o1 c1 b2 o2 c2 n : Nat) (xs ys : List Int) (w : World) (h1 : xs.length = n) (h2 : ys.length = n) (hb1 : b1 < w.heap.size) (hb2 : b2 < w.heap.size) (hc1 : Cells w b1 o1 xs) (hc2 : Cells w b2 o2 ys) (hn0 : 1 ≤ n) (hn : n ≤ 10) (ok1 : numsOk 62 xs n = true) (ok2 : numsOk 62 ys n = true) :
    Calls Try.prog 40 #[.slice (some ⟨b1, o1, none⟩) n c1, .slice (some ⟨b2, o2, none⟩) n c2] w fun e w' => e = .returned (.bool (decide (el ys 0 = 1) && midB xs ys n && dgB xs ys n n)) ∧ Below w.heap.size w w' := by
  have HC1 := Lib.hid hc1; have HC2 := Lib.hid hc2; have H1 := Lib.hid h1; have H2 := Lib.hid h2
  have HX : Hid (∀ k, k < n → 1 ≤ el xs k ∧ el xs k ≤ 62) := fun k hk => numsOk_at ok1 hk
  have HY : Hid (∀ k, k < n → 1 ≤ el ys k ∧ el ys k ≤ 62) := fun k hk => numsOk_at ok2 hk
  have HCX : Hid (∀ W, Below w.heap.size w W → ∀ k, k < n → W.cell? ⟨b1, o1 + k, none⟩ = some (.int .i64 (el xs k))) := fun W h k hk => (h.cell (p := ⟨b1, o1 + k, none⟩) hb1).trans (HC1.out k (by have := H1.out; omega))
  have HCY : Hid (∀ W, Below w.heap.size w W → ∀ k, k < n → W.cell? ⟨b2, o2 + k, none⟩ = some (.int .i64 (el ys k))) := fun W h k hk => (h.cell (p := ⟨b2, o2 + k, none⟩) hb2).trans (HC2.out k (by have := H2.out; omega))
  have HX0 : Hid (∀ W, Below w.heap.size w W → W.cell? ⟨b1, o1, none⟩ = some (.int .i64 (el xs 0))) := fun W h => HCX.out W h 0 (by omega)
  have y0 : w.cell? ⟨b2, o2, none⟩ = some (.int .i64 (el ys 0)) := HCY.out w (Below.refl _ _) 0 (by omega)
  have n1 : (0 : Int) < n := by omega
  clear hc1 hc2 h1 h2 ok1 ok2
  by_cases hy1 : el ys 0 = 1
  · have t1 : (el ys 0 != 1) = false := by rw [hy1]; rfl
    rw [decide_eq_true hy1, Bool.true_and]
    obtain ⟨z0, hz0⟩ : ∃ z, z = el ys 0 := ⟨_, rfl⟩
    rw [← hz0] at y0 t1
    clear hy1 hz0
    go_enter Try.func40, Try.ntmps40
    go_wp2_with fail
    clear y0 t1
    go_loopw [5] (fun i wr => ∃ k : Nat, 1 ≤ k ∧ k ≤ n ∧ i = .int .i64 k ∧ Hid (midB xs ys k = true) ∧ Below w.heap.size w wr) (fun i _ => n - (intOf i).toNat)
    case atStart => exact ⟨1, Nat.le_refl _, hn0, rfl, midB_one _ _, Below.refl _ _⟩
    case round =>
      obtain ⟨k, hk1, hk, rfl, HM, hB⟩ := hrel
      by_cases hlt : (k : Int) < n
      · have hkl : k < n := by omega
        have hk0 : (0 : Int) ≤ k := by omega
        have q0 : (0 : Int) ≤ (k : Int) - 1 := by omega
        have q1 : (k : Int) - 1 < n := by omega
        have ek : ((k : Int) - 1).toNat = k - 1 := by omega
        have x0 := HX0.out wr hB
        have x1 := HCX.out wr hB k hkl
        have x2 := HCX.out wr hB (k - 1) (by omega)
        have yy1 := HCY.out wr hB k hkl
        have yy2 := HCY.out wr hB (k - 1) (by omega)
        have r0 := HX.out 0 (by omega); have r1 := HX.out k hkl; have r2 := HX.out (k - 1) (by omega)
        have s1 := HY.out k hkl; have s2 := HY.out (k - 1) (by omega)
        have hms := midB_succ xs ys hk1
        have hno := fun h => midB_no (b := xs) (c := ys) (k := n) hk1 hkl h
        have hmd : midA xs ys k = (decide (el xs k ≤ el xs (k - 1)) && decide (el ys (k - 1) ≤ el ys k) && decide (el xs k + el ys (k - 1) ≤ el xs 0)) := rfl
        generalize el xs 0 = A0 at *
        generalize el xs k = A1 at *
        generalize el xs (k - 1) = A2 at *
        generalize el ys k = C1 at *
        generalize el ys (k - 1) = C2 at *
        by_cases c1 : A2 < A1
        · have d1 : decide (A2 < A1) = true := by simpa using c1
          have HNO : Hid ((midB xs ys n && dgB xs ys n n) = false) := by show _ = _; rw [hno (by rw [hmd, decide_eq_false (by omega)]; rfl), Bool.false_and]
          clear hms hno hmd HX0
          go_wp2_with fail
          go_quiet (fail)
          go_wp2
          go_ret
          exact ⟨ret_bool HNO.out.symm, drewN_below hB _⟩
        · have d1 : decide (A2 < A1) = false := by simpa using c1
          by_cases c2 : C1 < C2
          · have d2 : decide (C1 < C2) = true := by simpa using c2
            have HNO : Hid ((midB xs ys n && dgB xs ys n n) = false) := by show _ = _; rw [hno (by rw [hmd, decide_eq_true (show A1 ≤ A2 by omega), decide_eq_false (show ¬ C2 ≤ C1 by omega)]; rfl), Bool.false_and]
            clear hms hno hmd HX0
            go_wp2_with fail
            go_quiet (fail)
            go_wp2
            go_ret
            exact ⟨ret_bool HNO.out.symm, drewN_below hB _⟩
          · have d2 : decide (C1 < C2) = false := by simpa using c2
            by_cases c3 : A0 < A1 + C2
            · have d3 : decide (A0 < A1 + C2) = true := by simpa using c3
              have HNO : Hid ((midB xs ys n && dgB xs ys n n) = false) := by show _ = _; rw [hno (by rw [hmd, decide_eq_true (show A1 ≤ A2 by omega), decide_eq_true (show C2 ≤ C1 by omega), decide_eq_false (show ¬ A1 + C2 ≤ A0 by omega)]; rfl), Bool.false_and]
              clear hms hno hmd HX0
              go_wp2_with fail
              go_quiet (fail)
              go_wp2
              go_ret
              exact ⟨ret_bool HNO.out.symm, drewN_below hB _⟩
            · have d3 : decide (A0 < A1 + C2) = false := by simpa using c3
              have HM2 : Hid (midB xs ys (k + 1) = true) := by show _ = _; rw [hms, HM.out, hmd, decide_eq_true (show A1 ≤ A2 by omega), decide_eq_true (show C2 ≤ C1 by omega), decide_eq_true (show A1 + C2 ≤ A0 by omega)]; rfl
              clear hms hno hmd HX0
              go_wp2_with fail
              go_quiet (fail)
              go_wp2
              go_roundw
              case rel => exact ⟨k + 1, by omega, by omega, by go_num, HM2, drewN_below hB _⟩
              case measure => simp [intOf]; omega
      · obtain rfl : k = n := by omega
        go_wp2_with fail
        go_loopw [6, 57] (fun _ i wr => ∃ j : Nat, j ≤ k ∧ i = .int .i64 j ∧ Hid (dgB xs ys k j = true) ∧ Below w.heap.size w wr) (fun _ i _ => k - (intOf i).toNat)
        case atStart => exact ⟨0, Nat.zero_le _, rfl, rfl, hB⟩
        case round =>
          clear hB
          obtain ⟨j, hj, rfl, HD, hB⟩ := hrel
          by_cases hlt2 : (j : Int) < k
          · have hjl : j < k := by omega
            have hj0 : (0 : Int) ≤ j := by omega
            have q0 : (0 : Int) ≤ (k : Int) - 1 - j := by omega
            have q1 : (k : Int) - 1 - j < k := by omega
            have ek : ((k : Int) - 1 - j).toNat = k - 1 - j := by omega
            have x1 := HCX.out _ hB j hjl
            have y1 := HCY.out _ hB (k - 1 - j) (by omega)
            have hds := dgB_succ xs ys k j
            have hno := fun h => dgB_no (b := xs) (c := ys) (d := k) (k := k) hjl h
            generalize el xs j = A1 at *
            generalize el ys (k - 1 - j) = C1 at *
            by_cases c1 : A1 < C1
            · have d1 : decide (A1 < C1) = true := by simpa using c1
              have HNO : Hid ((midB xs ys k && dgB xs ys k k) = false) := by show _ = _; rw [hno (by omega), Bool.and_false]
              clear hds hno
              go_wp2_with fail
              go_quiet (fail)
              go_wp2
              go_ret
              exact ⟨ret_bool HNO.out.symm, drewN_below hB _⟩
            · have d1 : decide (A1 < C1) = false := by simpa using c1
              have HD2 : Hid (dgB xs ys k (j + 1) = true) := by show _ = _; rw [hds, HD.out, decide_eq_true (show C1 ≤ A1 by omega)]; rfl
              clear hds hno
              go_wp2_with fail
              go_quiet (fail)
              go_wp2
              go_roundw
              case rel => exact ⟨j + 1, by omega, by go_num, HD2, drewN_below hB _⟩
              case measure => simp [intOf]; omega
          · obtain rfl : j = k := by omega
            have HYES : Hid ((midB xs ys j && dgB xs ys j j) = true) := by show _ = _; rw [HM.out, HD.out]; rfl
            go_wp2_with fail
            go_ret
            exact ⟨ret_bool HYES.out.symm, hB⟩
  · have t1 : (el ys 0 != 1) = true := by rw [bne_iff_ne]; exact hy1
    rw [decide_eq_false hy1, Bool.false_and, Bool.false_and]
    obtain ⟨z0, hz0⟩ : ∃ z, z = el ys 0 := ⟨_, rfl⟩
    rw [← hz0] at y0 t1
    clear hy1 hz0
    go_enter Try.func40, Try.ntmps40
    go_wp2_with fail
    go_ret
    exact ⟨rfl, Below.refl _ _⟩
end Go.Proofs.Ytaekecccpgcgiaa
