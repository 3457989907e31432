/-
  spec.AreFeasible.
-/
import Derived.Test.YtaekecccpgcgiaaNg6
import Derived.Deep.DeepCutAuto
namespace Go.Proofs.Ytaekecccpgcgiaa
open Go.RowKit

set_option maxHeartbeats 800000 in
theorem specFe_far (v1 v2 : Value) (xs ys : List Int) (w : World) (h1 : Sl w v1 xs) (h2 : Sl w v2 ys) (hok : twoOk xs ys = false) :
    Calls Try.prog 19 #[v1, v2] w fun e w' => e = .returned (.tuple #[.bool false, .int .i64 2]) ∧ Below w.heap.size w w' := by
  have hl := l06Lists_any v1 v2 xs ys w h1 h2
  rw [hok] at hl
  have HL := Lib.hid hl
  rw [slForm h1, slForm h2] at HL ⊢
  clear h1 h2 hl hok
  go_enter Try.func19, Try.ntmps19
  go_wp2_with fail
  refine HL.out.mono ?_
  rintro e w' ⟨rfl, rfl⟩
  go_wp2_with fail
  go_ret2
  exact ⟨rfl, Below.refl _ _⟩

set_option maxRecDepth 100000 in
set_option maxHeartbeats 6400000 in
theorem specFe_some (b1 o1 c1 b2 o2 c2 n : Nat) (xs ys : List Int) (w : World) (h1 : xs.length = n) (h2 : ys.length = n) (hb1 : b1 < w.heap.size) (hb2 : b2 < w.heap.size) (hc1 : Cells w b1 o1 xs) (hc2 : Cells w b2 o2 ys) (hn0 : 1 ≤ n) (hn : n ≤ 10) (ok1 : numsOk 62 xs n = true) (ok2 : numsOk 62 ys n = true)
    (hl : Calls Try.prog 37 #[.slice (some ⟨b1, o1, none⟩) n c1, .slice (some ⟨b2, o2, none⟩) n c2] w fun e w' => e = .returned (.bool true) ∧ w = w') :
    Calls Try.prog 19 #[.slice (some ⟨b1, o1, none⟩) n c1, .slice (some ⟨b2, o2, none⟩) n c2] w fun e w' => e = .returned (.tuple #[.bool ((((nmW xs ys n && decide (el ys 0 = 1) && decide (el ys (n - 1) ≤ el xs 0)) && evB (nmQ xs ys n) (el xs 0)) && midB xs ys n) && triB xs ys n (n + 1)), .int .i64 0]) ∧ Below w.heap.size w w' := by
  have HN := Lib.hid (l06Numbers_some b1 o1 c1 b2 o2 c2 n xs ys w h1 h2 hb1 hb2 hc1 hc2 hn ok1 ok2)
  have HL := Lib.hid hl
  have H1 := Lib.hid h1; have H2 := Lib.hid h2
  have HX : Hid (∀ k, k < n → 1 ≤ el xs k ∧ el xs k ≤ 62) := fun k hk => numsOk_at ok1 hk
  have HY : Hid (∀ k, k < n → 1 ≤ el ys k ∧ el ys k ≤ 62) := fun k hk => numsOk_at ok2 hk
  have HCX : Hid (∀ W, Below w.heap.size w W → ∀ k, k < n → W.cell? ⟨b1, o1 + k, none⟩ = some (.int .i64 (el xs k))) := fun W h k hk => (h.cell (p := ⟨b1, o1 + k, none⟩) hb1).trans (hc1 k (by omega))
  have HCY : Hid (∀ W, Below w.heap.size w W → ∀ k, k < n → W.cell? ⟨b2, o2 + k, none⟩ = some (.int .i64 (el ys k))) := fun W h k hk => (h.cell (p := ⟨b2, o2 + k, none⟩) hb2).trans (hc2 k (by omega))
  have HX0 : Hid (∀ W, Below w.heap.size w W → W.cell? ⟨b1, o1, none⟩ = some (.int .i64 (el xs 0))) := fun W h => HCX.out W h 0 (by omega)
  have HY0 : Hid (∀ W, Below w.heap.size w W → W.cell? ⟨b2, o2, none⟩ = some (.int .i64 (el ys 0))) := fun W h => HCY.out W h 0 (by omega)
  have HLN : Hid ((nmQ xs ys n).length ≤ 11) := Nat.le_trans (nmQ_length _ _ _) (by omega)
  have HNN : Hid (∀ i, i < (nmQ xs ys n).length → 0 ≤ el (nmQ xs ys n) i) := by
    intro i hi
    cases hW : nmW xs ys n with
    | false => rw [nmQ_no hW] at hi; simp at hi
    | true =>
      rw [nmQ_yes hW] at hi ⊢
      rw [nmL_length] at hi
      rw [nmL_at _ _ _ _ (by omega)]
      exact (nmK_bound xs ys i (fun j hj => numsOk_at ok1 (by omega)) (fun j hj => numsOk_at ok2 (by omega))).1
  have n1 : (0 : Int) < n := by omega
  have n2 : (0 : Int) ≤ (n : Int) - 1 := by omega
  have n3 : (n : Int) - 1 < n := by omega
  have n4 : ((n : Int) - 1).toNat = n - 1 := by omega
  have r0 := HX.out 0 (by omega)
  obtain ⟨R, hR⟩ : ∃ r, r = ((((nmW xs ys n && decide (el ys 0 = 1) && decide (el ys (n - 1) ≤ el xs 0)) && evB (nmQ xs ys n) (el xs 0)) && midB xs ys n) && triB xs ys n (n + 1)) := ⟨_, rfl⟩
  obtain ⟨g0, hg0⟩ : ∃ r, r = (nmW xs ys n && decide (el ys 0 = 1) && decide (el ys (n - 1) ≤ el xs 0)) := ⟨_, rfl⟩
  rw [← hR]
  rw [← hg0] at hR
  have HR := Lib.hid hR
  have HG0 := Lib.hid hg0
  have HEV := Lib.hid (evB_odd (nmQ xs ys n) (el xs 0))
  have HOB := Lib.hid (odK_bound (nmQ xs ys n))
  generalize nmQ xs ys n = L at *
  generalize nmW xs ys n = ok at *
  clear hl hR hg0 hc1 hc2 ok1 ok2 h1 h2
  go_enter Try.func19, Try.ntmps19
  go_wp2_with fail
  refine HL.out.mono ?_
  rintro e w' ⟨rfl, rfl⟩
  go_wp2_with fail
  refine HN.out.mono ?_
  rintro e w1 ⟨⟨u, rfl, hO⟩, hB⟩
  obtain ⟨ua, ucap, rfl⟩ : ∃ a c, u = .slice a L.length c := by
    rcases hO.form with ⟨rfl, rfl⟩ | ⟨g, cap, rfl, _⟩
    · exact ⟨_, _, rfl⟩
    · exact ⟨_, _, rfl⟩
  have HO := Lib.hid hO
  have x0 := HX0.out w1 hB; have y0 := HY0.out w1 hB; have yn := HCY.out w1 hB (n - 1) (by omega)
  clear hO HL HN
  go_wp2_with fail
  go_cut [8, 9, 10] (fun a b c wx => a = .int .i64 n ∧ b = .bool g0 ∧ c = .int .i64 0 ∧ ∃ i, wx = w1.drewN i)
  case first =>
    have hg := HG0.out
    generalize el xs 0 = A0 at *
    generalize el ys 0 = C0 at *
    generalize el ys (n - 1) = C1 at *
    cases ok with
    | false =>
      have HE : Hid (g0 = false) := hg
      clear hg HG0
      go_quiet (fail)
      go_wp2_with fail
      go_meet
      exact ⟨rfl, by rw [HE.out], rfl, _, rfl⟩
    | true =>
      by_cases e1 : C0 = 1
      · have d1 : (C0 == 1) = true := by rw [beq_iff_eq]; exact e1
        by_cases e2 : C1 ≤ A0
        · have d2 : decide (C1 ≤ A0) = true := by simpa using e2
          rw [decide_eq_true e1, d2] at hg
          have HE : Hid (g0 = true) := hg
          clear hg HG0 e1
          go_quiet (fail)
          go_wp2_with fail
          go_meet
          exact ⟨rfl, by rw [HE.out], rfl, _, rfl⟩
        · have d2 : decide (C1 ≤ A0) = false := by simpa using e2
          rw [decide_eq_true e1, d2] at hg
          have HE : Hid (g0 = false) := hg
          clear hg HG0 e1
          go_quiet (fail)
          go_wp2_with fail
          go_meet
          exact ⟨rfl, by rw [HE.out], rfl, _, rfl⟩
      · have d1 : (C0 == 1) = false := by rw [beq_eq_false_iff_ne]; exact e1
        rw [decide_eq_false e1] at hg
        have HE : Hid (g0 = false) := by show _ = _; rw [hg]; rfl
        clear hg HG0 e1
        go_quiet (fail)
        go_wp2_with fail
        go_meet
        exact ⟨rfl, by rw [HE.out], rfl, _, rfl⟩
  case rest =>
  obtain ⟨rfl, rfl, rfl, i1, hw1⟩ := hcut
  have hbd : Below w1.heap.size w1 wc := by rw [hw1]; exact drewN_below (Below.refl _ _) _
  have HO1 := Lib.hid (HO.out.below hbd)
  have hBc := hB.trans (hbd.mono hB.size)
  clear hw1 hbd HO x0 y0 yn HG0
  have HP1 : Hid (∀ j, j < L.length → (odK L j + el L j % 2) = odK L (j + 1)) := fun j _ => rfl
  have HCL : Hid (∀ W, Below wc.heap.size wc W → ∀ j, j < L.length → ∃ g, ua = some ⟨g, 0, none⟩ ∧ W.cell? ⟨g, j, none⟩ = some (.int .i64 (el L j))) := by
    intro W hW j hj
    obtain ⟨g, cap, e, hg0, hg1⟩ := HO1.out.some (by omega)
    cases e
    exact ⟨g, rfl, (hW.cell (p := ⟨g, j, none⟩) hg1).trans (HO1.out.cellAt hj)⟩
  clear HO1
  go_wp2_with fail
  go_loopw [10, 11] (fun s i wr => ∃ j : Nat, j ≤ L.length ∧ i = .int .i64 j ∧ s = .int .i64 (odK L j) ∧ Below wc.heap.size wc wr) (fun _ i _ => L.length - (intOf i).toNat)
  case atStart => exact ⟨0, Nat.zero_le _, rfl, rfl, Below.refl _ _⟩
  case round =>
    obtain ⟨j, hj, rfl, rfl, hE⟩ := hrel
    by_cases hlt : (j : Int) < L.length
    · have hjl : j < L.length := by omega
      have hj0 : (0 : Int) ≤ j := by omega
      obtain ⟨g, rfl, hz⟩ := HCL.out wr hE j hjl
      have hz0 := HNN.out j hjl
      have hb := HOB.out j
      have hll := HLN.out
      have HSS := Lib.hid (HP1.out j hjl)
      have hb2 := HOB.out (j + 1)
      rw [← HSS.out] at hb2
      have hw : IntKind.i64.wrap (odK L j + el L j % 2) = odK L j + el L j % 2 := IntWalk.i64_in _ (by omega)
      generalize odK L j = S at *
      generalize el L j = z at *
      go_wp2_with fail
      go_roundw
      case rel => exact ⟨j + 1, by omega, by go_num, by rw [HSS.out], hE⟩
      case measure => simp [intOf]; omega
    · obtain rfl : j = L.length := by omega
      have hEB := hBc.trans (hE.mono hBc.size)
      have hod := HOB.out L.length
      have hll := HLN.out
      have hev := HEV.out
      obtain ⟨g1, hg1⟩ : ∃ r, r = (g0 && evB L (el xs 0)) := ⟨_, rfl⟩
      have HR1 : Hid (R = (g1 && midB xs ys n && triB xs ys n (n + 1))) := by show _ = _; rw [HR.out, hg1]
      have x0 := HX0.out wr hEB
      obtain ⟨wo, hwo⟩ : ∃ wo : World, wo = wr := ⟨_, rfl⟩
      go_upto_region 9 with fail
      go_cut [9] (fun t wx => t = .bool g1 ∧ wx = wr)
      case first =>
        generalize odK L L.length = S at *
        generalize el xs 0 = A0 at *
        rw [← hev] at hg1
        clear HR HEV hev HX0 HNN HOB HCL HP1 HR1
        cases g0 with
        | false =>
          have HE : Hid (g1 = false) := hg1
          clear hg1
          go_wp2_with fail
          go_meet
          exact ⟨by rw [HE.out], rfl⟩
        | true =>
          rw [Bool.true_and] at hg1
          have hm0 : 0 ≤ S * A0 := Int.mul_nonneg hod.1 (by omega)
          have hm1 : S * A0 ≤ 11 * 62 := Int.mul_le_mul (by omega) r0.2 (by omega) (by omega)
          generalize hSA : S * A0 = P at *
          have hwP : IntKind.i64.wrap (S * A0) = P := by rw [hSA]; exact IntWalk.i64_in _ (by omega)
          have HE := Lib.hid hg1
          clear hg1
          go_wp2_with fail
          go_meet
          exact ⟨by rw [HE.out], rfl⟩
      case rest =>
      obtain ⟨rfl, rfl⟩ := hcut
      clear hg1 hev x0 hod HEV HOB HCL HNN HP1 hll hlt hj HR hE hBc hB
      have hB := hEB
      clear hEB
      go_wp2_with fail
      go_loopw [9, 12] (fun q i wr => ∃ k : Nat, 1 ≤ k ∧ k ≤ n ∧ i = .int .i64 k ∧ q = .bool (g1 && midB xs ys k) ∧ Below w.heap.size w wr) (fun _ i _ => n - (intOf i).toNat)
      case atStart => exact ⟨1, Nat.le_refl _, hn0, rfl, by rw [midB_one, Bool.and_true], hB⟩
      case round =>
        clear hB
        obtain ⟨k, hk1, hk, rfl, rfl, hB⟩ := hrel
        obtain ⟨q, hq⟩ : ∃ q, q = (g1 && midB xs ys k) := ⟨_, rfl⟩
        rw [← hq]
        by_cases hlt : (k : Int) < n
        · have hkl : k < n := by omega
          have hk0 : (0 : Int) ≤ k := by omega
          have q0 : (0 : Int) ≤ (k : Int) - 1 := by omega
          have q1 : (k : Int) - 1 < n := by omega
          have ek : ((k : Int) - 1).toNat = k - 1 := by omega
          have x0 := HX0.out _ hB
          have x1 := HCX.out _ hB k hkl
          have x2 := HCX.out _ hB (k - 1) (by omega)
          have yy1 := HCY.out _ hB k hkl
          have yy2 := HCY.out _ hB (k - 1) (by omega)
          have r1 := HX.out k hkl
          have s2 := HY.out (k - 1) (by omega)
          have HQ : Hid ((g1 && midB xs ys (k + 1)) = (q && midA xs ys k)) := by show _ = _; rw [midB_succ xs ys hk1, hq, Bool.and_assoc]
          have hmd : midA xs ys k = (decide (el xs k ≤ el xs (k - 1)) && decide (el ys (k - 1) ≤ el ys k) && decide (el xs k + el ys (k - 1) ≤ el xs 0)) := rfl
          clear hq
          generalize hA0 : el xs 0 = A0 at *
          generalize el xs k = A1 at *
          generalize el xs (k - 1) = A2 at *
          generalize el ys k = C1 at *
          generalize el ys (k - 1) = C2 at *
          cases q with
          | false =>
            have HQ2 : Hid (false = (g1 && midB xs ys (k + 1))) := by show _ = _; rw [HQ.out, Bool.false_and]
            clear hmd HQ
            go_wp2_with fail
            go_quiet (fail)
            go_wp2
            go_roundw
            case rel => exact ⟨k + 1, by omega, by omega, by go_num, by rw [← HQ2.out], drewN_below hB _⟩
            case measure => simp [intOf]; omega
          | true =>
            rw [Bool.true_and] at HQ
            by_cases c1 : A1 ≤ A2
            · have d1 : decide (A1 ≤ A2) = true := by simpa using c1
              rw [d1, Bool.true_and] at hmd
              by_cases c2 : C2 ≤ C1
              · have d2 : decide (C2 ≤ C1) = true := by simpa using c2
                rw [d2, Bool.true_and] at hmd
                by_cases c3 : A1 + C2 ≤ A0
                · have d3 : decide (A1 + C2 ≤ A0) = true := by simpa using c3
                  rw [d3] at hmd
                  have HQ2 : Hid (true = (g1 && midB xs ys (k + 1))) := by show _ = _; rw [HQ.out, hmd]
                  clear hmd HQ
                  go_wp2_with fail
                  go_quiet (fail)
                  go_wp2
                  go_roundw
                  case rel => exact ⟨k + 1, by omega, by omega, by go_num, by rw [← HQ2.out], drewN_below hB _⟩
                  case measure => simp [intOf]; omega
                · have d3 : decide (A1 + C2 ≤ A0) = false := by simpa using c3
                  rw [d3] at hmd
                  have HQ2 : Hid (false = (g1 && midB xs ys (k + 1))) := by show _ = _; rw [HQ.out, hmd]
                  clear hmd HQ
                  go_wp2_with fail
                  go_quiet (fail)
                  go_wp2
                  go_roundw
                  case rel => exact ⟨k + 1, by omega, by omega, by go_num, by rw [← HQ2.out], drewN_below hB _⟩
                  case measure => simp [intOf]; omega
              · have d2 : decide (C2 ≤ C1) = false := by simpa using c2
                rw [d2, Bool.false_and] at hmd
                have HQ2 : Hid (false = (g1 && midB xs ys (k + 1))) := by show _ = _; rw [HQ.out, hmd]
                clear hmd HQ
                go_wp2_with fail
                go_quiet (fail)
                go_wp2
                go_roundw
                case rel => exact ⟨k + 1, by omega, by omega, by go_num, by rw [← HQ2.out], drewN_below hB _⟩
                case measure => simp [intOf]; omega
            · have d1 : decide (A1 ≤ A2) = false := by simpa using c1
              rw [d1, Bool.false_and, Bool.false_and] at hmd
              have HQ2 : Hid (false = (g1 && midB xs ys (k + 1))) := by show _ = _; rw [HQ.out, hmd]
              clear hmd HQ
              go_wp2_with fail
              go_quiet (fail)
              go_wp2
              go_roundw
              case rel => exact ⟨k + 1, by omega, by omega, by go_num, by rw [← HQ2.out], drewN_below hB _⟩
              case measure => simp [intOf]; omega
        · obtain rfl : k = n := by omega
          have HR2 : Hid (R = (q && triB xs ys k (k + 1))) := by show _ = _; rw [HR1.out, hq]
          clear hq HR1
          go_wp2_with fail
          go_loopw [9, 13, 14] (fun g i _ wr => ∃ x : Nat, 1 ≤ x ∧ x ≤ k + 1 ∧ i = .int .i64 x ∧ g = .bool (q && triB xs ys k x) ∧ Below w.heap.size w wr) (fun _ i _ _ => k + 1 - (intOf i).toNat)
          case atStart => exact ⟨1, Nat.le_refl _, by omega, rfl, by rw [triB_one, Bool.and_true], hB⟩
          case round =>
            clear hB
            obtain ⟨x, hx1, hx, rfl, rfl, hB⟩ := hrel
            by_cases hlx : (x : Int) ≤ k
            · have hlx2 : x ≤ k := by omega
              have hx0 : (1 : Int) ≤ x := by omega
              obtain ⟨p, hp⟩ : ∃ p, p = (q && triB xs ys k x) := ⟨_, rfl⟩
              rw [← hp]
              have HP : Hid ((q && triB xs ys k (x + 1)) = (p && triR xs ys k x k)) := by show _ = _; rw [triB_succ xs ys k hx1, hp, Bool.and_assoc]
              clear hp
              go_wp2_with fail
              go_loopw [9, 14] (fun g j wr => ∃ y : Nat, y ≤ k ∧ j = .int .i64 y ∧ g = .bool (p && triR xs ys k x y) ∧ Below w.heap.size w wr) (fun _ j _ => k - (intOf j).toNat)
              case atStart => exact ⟨0, Nat.zero_le _, rfl, by rw [triR_zero, Bool.and_true], hB⟩
              case round =>
                clear hB
                obtain ⟨y, hy, rfl, rfl, hB⟩ := hrel
                obtain ⟨t, ht⟩ : ∃ t, t = (p && triR xs ys k x y) := ⟨_, rfl⟩
                rw [← ht]
                by_cases hly : (y : Int) < k
                · by_cases hxy : (x : Int) + y ≤ k
                  · have hyl : y < k := by omega
                    have hy0 : (0 : Int) ≤ y := by omega
                    have q0 : (0 : Int) ≤ (x : Int) - 1 := by omega
                    have q1 : (x : Int) - 1 < k := by omega
                    have ek : ((x : Int) - 1).toNat = x - 1 := by omega
                    have x1 := HCX.out _ hB y hyl
                    have y1 := HCY.out _ hB (x - 1) (by omega)
                    have HT : Hid ((p && triR xs ys k x (y + 1)) = (t && decide (el ys (x - 1) ≤ el xs y))) := by
                      show _ = _
                      rw [triR_succ, ht, Bool.and_assoc]
                      unfold triA
                      rw [decide_eq_false (show ¬ k < x + y by omega), Bool.false_or]
                    clear ht
                    generalize el xs y = A1 at *
                    generalize el ys (x - 1) = C1 at *
                    cases t with
                    | false =>
                      have HT2 : Hid (false = (p && triR xs ys k x (y + 1))) := by show _ = _; rw [HT.out, Bool.false_and]
                      clear HT
                      go_wp2_with fail
                      go_quiet (fail)
                      go_wp2
                      go_roundw
                      case rel => exact ⟨y + 1, by omega, by go_num, by rw [← HT2.out], drewN_below hB _⟩
                      case measure => simp [intOf]; omega
                    | true =>
                      rw [Bool.true_and] at HT
                      by_cases c1 : C1 ≤ A1
                      · have d1 : decide (C1 ≤ A1) = true := by simpa using c1
                        have HT2 : Hid (true = (p && triR xs ys k x (y + 1))) := by show _ = _; rw [HT.out, d1]
                        clear HT
                        go_wp2_with fail
                        go_quiet (fail)
                        go_wp2
                        go_roundw
                        case rel => exact ⟨y + 1, by omega, by go_num, by rw [← HT2.out], drewN_below hB _⟩
                        case measure => simp [intOf]; omega
                      · have d1 : decide (C1 ≤ A1) = false := by simpa using c1
                        have HT2 : Hid (false = (p && triR xs ys k x (y + 1))) := by show _ = _; rw [HT.out, d1]
                        clear HT
                        go_wp2_with fail
                        go_quiet (fail)
                        go_wp2
                        go_roundw
                        case rel => exact ⟨y + 1, by omega, by go_num, by rw [← HT2.out], drewN_below hB _⟩
                        case measure => simp [intOf]; omega
                  · have HT2 : Hid (t = (q && triB xs ys k (x + 1))) := by
                      show _ = _
                      have := triR_stop xs ys k x y (by omega) (k - y)
                      rw [show y + (k - y) = k by omega] at this
                      rw [HP.out, ht, this]
                    clear ht
                    go_wp2_with fail
                    go_roundw
                    case rel => exact ⟨x + 1, by omega, by omega, by go_num, by rw [← HT2.out], hB⟩
                    case measure => simp [intOf]; omega
                · obtain rfl : y = k := by omega
                  have HT2 : Hid (t = (q && triB xs ys y (x + 1))) := by show _ = _; rw [HP.out, ht]
                  clear ht
                  go_wp2_with fail
                  go_roundw
                  case rel => exact ⟨x + 1, by omega, by omega, by go_num, by rw [← HT2.out], hB⟩
                  case measure => simp [intOf]; omega
            · obtain rfl : x = k + 1 := by omega
              have HRR : Hid (R = (q && triB xs ys k (k + 1))) := HR2
              go_wp2_with fail
              go_ret2
              exact ⟨by rw [HRR.out]; rfl, hB⟩

theorem specFe_any (v1 v2 : Value) (xs ys : List Int) (w : World) (h1 : Sl w v1 xs) (h2 : Sl w v2 ys) :
    Calls Try.prog 19 #[v1, v2] w fun e w' => e = .returned (.tuple #[.bool (feB xs ys), .int .i64 (feC xs ys)]) ∧ Below w.heap.size w w' := by
  cases hok : twoOk xs ys with
  | false =>
    rw [show feB xs ys = false by simp [feB, hok], show feC xs ys = 2 by simp [feC, hok]]
    exact specFe_far v1 v2 xs ys w h1 h2 hok
  | true =>
    obtain ⟨k1, k2, k3, k4, k5⟩ := (twoOk_iff _ _).1 hok
    have hl := l06Lists_any v1 v2 xs ys w h1 h2
    rw [hok] at hl
    rcases h1 with ⟨_, _, _, rfl⟩ | ⟨b1, o1, c1, rfl, hb1, hc1⟩
    · simp at k2
    rcases h2 with ⟨_, _, _, rfl⟩ | ⟨b2, o2, c2, rfl, hb2, hc2⟩
    · have : xs.length = 0 := k1; omega
    rw [← k1] at hl ⊢
    have h := specFe_some b1 o1 c1 b2 o2 c2 xs.length xs ys w rfl k1.symm hb1 hb2 hc1 hc2 k2 k3 k4 (by rw [k1]; exact k5) hl
    have e1 : evB (nmQ xs ys xs.length) (el xs 0) = evB (nmL xs ys xs.length) (el xs 0) ∨ nmW xs ys xs.length = false := by
      cases hW : nmW xs ys xs.length with
      | true => rw [nmQ_yes hW]; exact .inl rfl
      | false => exact .inr rfl
    have e2 : feB xs ys = ((((nmW xs ys xs.length && decide (el ys 0 = 1) && decide (el ys (xs.length - 1) ≤ el xs 0)) && evB (nmQ xs ys xs.length) (el xs 0)) && midB xs ys xs.length) && triB xs ys xs.length (xs.length + 1)) := by
      unfold feB
      rw [hok, Bool.true_and, ← fe_spec k2]
      rcases e1 with e1 | e1
      · rw [e1]
      · rw [e1]; simp
    rw [e2, show feC xs ys = 0 by simp [feC, hok]]
    exact h
end Go.Proofs.Ytaekecccpgcgiaa
