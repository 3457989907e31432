/-
  Places of words among words in order: slices.Compare, slices.BinarySearchFunc, impl.placeOf.
-/
import Derived.Test.YtkflcjhoghiffaaDoorBj0
namespace Go.Proofs.YtkflcjhoghiffaaDoor
set_option maxRecDepth 100000
set_option maxRecDepth 100000
open Go.RowKit

theorem cmp_step {xs ys : List Int} {j : Nat} (h1 : j < xs.length) (h2 : j < ys.length) : cmpL (xs.drop j) (ys.drop j) = if el xs j < el ys j then -1 else if el ys j < el xs j then 1 else cmpL (xs.drop (j + 1)) (ys.drop (j + 1)) := by
  rw [List.drop_eq_getElem_cons h1, List.drop_eq_getElem_cons h2, cmpL, el_lt h1, el_lt h2]

set_option maxHeartbeats 400000 in
theorem nan_any (x : Int) (w : World) : Calls Tryd.prog 75 #[.int .i64 x] w fun e w' => e = .returned (.bool false) ∧ w = w' := by
  go_enter Tryd.func75, Tryd.ntmps75
  go_wp2
  go_ret
  exact ⟨by simp, rfl⟩
set_option maxHeartbeats 800000 in
theorem ccmp_any (x y z : Int) (w : World) (hz : z = if x < y then -1 else if y < x then 1 else 0) :
    Calls Tryd.prog 70 #[.int .i64 x, .int .i64 y] w fun e w' => e = .returned (.int .i64 z) ∧ w = w' := by
  have hn := nan_any
  have hc : (decide (x < y) = true ∧ z = -1) ∨ (decide (x < y) = false ∧ decide (y < x) = true ∧ z = 1) ∨ (decide (x < y) = false ∧ decide (y < x) = false ∧ z = 0) := by
    by_cases h1 : x < y
    · rw [if_pos h1] at hz; exact .inl ⟨by simpa using h1, hz⟩
    · rw [if_neg h1] at hz
      by_cases h2 : y < x
      · rw [if_pos h2] at hz; exact .inr (.inl ⟨by simpa using h1, by simpa using h2, hz⟩)
      · rw [if_neg h2] at hz; exact .inr (.inr ⟨by simpa using h1, by simpa using h2, hz⟩)
  clear hz
  rcases hc with ⟨h1, rfl⟩ | ⟨h1, h2, rfl⟩ | ⟨h1, h2, rfl⟩
  all_goals
    go_enter Tryd.func70, Tryd.ntmps70
    go_wp2_with (go_at_call 75; refine (hn _ _).mono ?_; rintro e w' ⟨rfl, rfl⟩)
    go_ret
    exact ⟨rfl, rfl⟩

set_option maxHeartbeats 1600000 in
theorem compare_any (b1 o1 c1 b2 o2 c2 n : Nat) (xs ys : List Int) (w : World) (h1 : Cells w b1 o1 xs) (h2 : Cells w b2 o2 ys) (hx : xs.length = n) (hy : ys.length = n) (hn : n ≤ 62) :
    Calls Tryd.prog 66 #[.slice (some ⟨b1, o1, none⟩) n c1, .slice (some ⟨b2, o2, none⟩) n c2] w fun e w' => e = .returned (.int .i64 (cmpL xs ys)) ∧ w = w' := by
  have H1 := Lib.hid h1; have H2 := Lib.hid h2; have HX := Lib.hid hx; have HY := Lib.hid hy
  obtain ⟨r, HR⟩ : ∃ r, Hid (r = cmpL xs ys) := ⟨_, rfl⟩
  rw [← HR.out]
  clear h1 h2 hx hy
  go_enter Tryd.func66, Tryd.ntmps66
  go_wp2_with fail
  go_loopw [11] (fun jv wr => ∃ j : Nat, j ≤ n ∧ jv = .int .i64 j ∧ Hid (r = cmpL (xs.drop j) (ys.drop j)) ∧ w = wr) (fun jv _ => n - (intOf jv).toNat)
  case atStart => exact ⟨0, Nat.zero_le _, rfl, by show _ = _; rw [HR.out, List.drop_zero, List.drop_zero], rfl⟩
  case round =>
    obtain ⟨j, hj, rfl, HJ, rfl⟩ := hrel
    by_cases hlt : (j : Int) < n
    · have hjn : j < n := by omega
      have hst := cmp_step (xs := xs) (ys := ys) (j := j) (by have := HX.out; omega) (by have := HY.out; omega)
      have e1 := H1.out j (by have := HX.out; omega)
      have e2 := H2.out j (by have := HY.out; omega)
      obtain ⟨x, HXX⟩ : ∃ x, Hid (x = el xs j) := ⟨_, rfl⟩
      obtain ⟨y, HYY⟩ : ∃ y, Hid (y = el ys j) := ⟨_, rfl⟩
      rw [← HXX.out, ← HYY.out] at hst
      rw [← HXX.out] at e1
      rw [← HYY.out] at e2
      have hj0 : (0 : Int) ≤ j := by omega
      have hjd : ¬ (n : Int) ≤ j := by omega
      by_cases hxy : x = y
      · subst hxy
        rw [if_neg (Int.lt_irrefl x), if_neg (Int.lt_irrefl x)] at hst
        have HJ1 : Hid (r = cmpL (xs.drop (j + 1)) (ys.drop (j + 1))) := by show _ = _; rw [← hst]; exact HJ.out
        have hcc := fun W => ccmp_any x x 0 W (by rw [if_neg (Int.lt_irrefl x), if_neg (Int.lt_irrefl x)])
        clear hst
        go_wp2_with (go_at_call 70; refine (hcc _).mono ?_; rintro e w' ⟨rfl, rfl⟩)
        go_roundw
        case rel => exact ⟨j + 1, by omega, by go_num, HJ1, trivial⟩
        case measure => simp [intOf]; omega
      · obtain ⟨z, hz⟩ : ∃ z : Int, z = if x < y then -1 else if y < x then 1 else 0 := ⟨_, rfl⟩
        have hcc := fun W => ccmp_any x y z W hz
        have hrz : r = z := by
          rw [HJ.out, hst, hz]
          by_cases h1 : x < y
          · rw [if_pos h1, if_pos h1]
          · rw [if_neg h1, if_neg h1, if_pos (by omega), if_pos (by omega)]
        have hz0 : (z != 0) = true := by
          rw [hz]
          by_cases h1 : x < y
          · rw [if_pos h1]; rfl
          · rw [if_neg h1, if_pos (by omega)]; rfl
        have HRZ := Lib.hid hrz
        clear hst hz hrz HR
        go_wp2_with (go_at_call 70; refine (hcc _).mono ?_; rintro e w' ⟨rfl, rfl⟩)
        go_ret
        exact ⟨by rw [HRZ.out]; rfl, rfl⟩
    · obtain rfl : j = n := by omega
      have hr0 : r = 0 := by
        rw [HJ.out, List.drop_of_length_le (by have := HX.out; omega), List.drop_of_length_le (by have := HY.out; omega)]
        rfl
      have HR0 := Lib.hid hr0
      clear hr0
      go_wp2_with fail
      go_ret
      exact ⟨by rw [HR0.out]; rfl, rfl⟩

theorem eg_cmp : ∀ args W, (callFunc 66 args).run Tryd.prog W = .ok (.enter 66 args) W := fun _ _ => by kernel_rfl

set_option maxHeartbeats 3200000 in
theorem search_any (g cap n p b2 o2 c2 : Nat) (T : List (List Int)) (w : World) (hR : Rows w g 0 T) (hS : Srt T) (hel : ∀ i, i < T.length → (elS T i).length = n) (hn1 : 1 ≤ n) (hn : n ≤ 62) (hN : T.length ≤ 62) (hp : p < T.length) (hc : Cells w b2 o2 (elS T p)) :
    Calls Tryd.prog 65 #[.slice (some ⟨g, 0, none⟩) T.length cap, .slice (some ⟨b2, o2, none⟩) n c2, .func (.func 66) #[] #[]] w fun e w' => e = .returned (.tuple #[.int .i64 p, .bool true]) ∧ w = w' := by
  have HCM : Hid (∀ i, i < T.length → ∃ b o c, w.cell? ⟨g, i, none⟩ = some (.slice (some ⟨b, o, none⟩) n c) ∧ Calls Tryd.prog 66 #[.slice (some ⟨b, o, none⟩) n c, .slice (some ⟨b2, o2, none⟩) n c2] w fun e w' => e = .returned (.int .i64 (if i < p then -1 else if p < i then 1 else 0)) ∧ w = w') := fun i hi => by
    obtain ⟨q, c, h1, h2⟩ := hR i hi
    rw [Nat.zero_add, hel i hi] at h1
    rcases h2 with ⟨_, _, _, h0⟩ | ⟨b, o, cap', e, _, hcc⟩
    · have := hel i hi; rw [h0] at this; simp at this; omega
    · cases e
      refine ⟨b, o, c, h1, ?_⟩
      have := compare_any b o c b2 o2 c2 n (elS T i) (elS T p) w hcc hc (hel i hi) (hel p hp) hn
      rw [hS.lt hi hp] at this
      exact this
  have eg := eg_cmp
  obtain ⟨N, HN⟩ : ∃ N, Hid (N = T.length) := ⟨_, rfl⟩
  rw [← HN.out] at hN hp
  rw [← HN.out]
  clear hR hS hel hc
  go_enter Tryd.func65, Tryd.ntmps65
  go_wp2_with fail
  go_loopw [9, 10] (fun lv hv wr => ∃ lo hi : Nat, lo ≤ p ∧ p ≤ hi ∧ hi ≤ N ∧ lv = .int .i64 lo ∧ hv = .int .i64 hi ∧ w = wr) (fun lv hv _ => (intOf hv).toNat - (intOf lv).toNat)
  case atStart => exact ⟨0, N, Nat.zero_le _, by omega, Nat.le_refl _, rfl, rfl, rfl⟩
  case round =>
    obtain ⟨lo, hi, h1, h2, h3, rfl, rfl, rfl⟩ := hrel
    by_cases hlt : (lo : Int) < hi
    · have hhl : lo ≤ (lo + hi) / 2 ∧ (lo + hi) / 2 < hi := by omega
      obtain ⟨b, o, c, hcell, hcmp⟩ := HCM.out ((lo + hi) / 2) (by rw [← HN.out]; omega)
      have q0 : (0 : Int) ≤ (lo : Int) + hi := by omega
      have q1 : (lo : Int) + hi ≤ 124 := by omega
      have qN : (lo + hi) / 2 < N := by omega
      by_cases hlp : (lo + hi) / 2 < p
      · rw [if_pos hlp] at hcmp
        have HCP := Lib.hid hcmp
        clear hcmp
        go_wp2_with fail
        refine HCP.out.mono ?_
        rintro e w' ⟨rfl, rfl⟩
        clear HCP
        go_wp2_with fail
        go_roundw
        case rel => exact ⟨(lo + hi) / 2 + 1, hi, by omega, by omega, by omega, by go_num, rfl, trivial⟩
        case measure => simp [intOf]; omega
      · obtain ⟨z, hz⟩ : ∃ z : Int, z = if (lo + hi) / 2 < p then -1 else if p < (lo + hi) / 2 then 1 else 0 := ⟨_, rfl⟩
        rw [← hz] at hcmp
        have hz0 : ¬ z < 0 := by
          rw [hz, if_neg hlp]
          split <;> omega
        have HCP := Lib.hid hcmp
        clear hcmp hz
        go_wp2_with fail
        refine HCP.out.mono ?_
        rintro e w' ⟨rfl, rfl⟩
        clear HCP
        go_wp2_with fail
        go_roundw
        case rel => exact ⟨lo, (lo + hi) / 2, by omega, by omega, by omega, rfl, by go_num, trivial⟩
        case measure => simp [intOf]; omega
    · obtain rfl : lo = p := by omega
      have hpN : (lo : Int) < N := by omega
      have hp0 : (0 : Int) ≤ lo := by omega
      obtain ⟨b, o, c, hcell, hcmp⟩ := HCM.out lo (by rw [← HN.out]; omega)
      rw [if_neg (Nat.lt_irrefl lo), if_neg (Nat.lt_irrefl lo)] at hcmp
      have HCP := Lib.hid hcmp
      clear hcmp
      go_wp2_with fail
      refine HCP.out.mono ?_
      rintro e w' ⟨rfl, rfl⟩
      clear HCP
      go_wp2_with fail
      go_ret2
      exact ⟨rfl, rfl⟩

set_option maxHeartbeats 800000 in
theorem place_any (g cap n p b2 o2 c2 : Nat) (T : List (List Int)) (w : World) (hR : Rows w g 0 T) (hS : Srt T) (hel : ∀ i, i < T.length → (elS T i).length = n) (hn1 : 1 ≤ n) (hn : n ≤ 62) (hN : T.length ≤ 62) (hp : p < T.length) (hc : Cells w b2 o2 (elS T p)) :
    Calls Tryd.prog 53 #[.slice (some ⟨g, 0, none⟩) T.length cap, .slice (some ⟨b2, o2, none⟩) n c2] w fun e w' => e = .returned (.int .i64 p) ∧ w = w' := by
  have HS := Lib.hid (search_any g cap n p b2 o2 c2 T w hR hS hel hn1 hn hN hp hc)
  obtain ⟨N, hNN⟩ : ∃ N, N = T.length := ⟨_, rfl⟩
  rw [← hNN] at HS
  rw [← hNN]
  clear hR hS hel hc hNN hp hN
  go_enter Tryd.func53, Tryd.ntmps53
  go_wp2_with fail
  refine HS.out.mono ?_
  rintro e w' ⟨rfl, rfl⟩
  clear HS
  go_wp2_with fail
  go_ret
  exact ⟨rfl, rfl⟩
end Go.Proofs.YtkflcjhoghiffaaDoor
