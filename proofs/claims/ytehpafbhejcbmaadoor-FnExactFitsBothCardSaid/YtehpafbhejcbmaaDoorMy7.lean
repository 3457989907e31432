/-
  impl.mayBeJoined, spec.l07May.
-/
import Derived.Test.YtehpafbhejcbmaaDoorFa7
namespace Go.Proofs.YtehpafbhejcbmaaDoor
set_option maxRecDepth 100000
set_option maxRecDepth 100000
open Go.RowKit

theorem cyD_non {zs : List Int} {v w : Nat} (h : bt (el zs v) w = false) : cyD zs v (2 ^ w) w = cyD zs v 0 w := by
  unfold cyD
  congr 1
  funext x y
  unfold Rw
  by_cases hx : x = v
  · by_cases hy : y = w
    · subst hx; subst hy; simp [h]
    · have h2 : ((2 : Nat) ^ w).testBit y = false := by rw [Nat.testBit_two_pow]; exact decide_eq_false (fun e => hy e.symm)
      rw [h2]; simp
  · have : (x == v) = false := by simpa using hx
    rw [this]; simp
theorem countD_any (zs : List Int) (v : Nat) (W : World) (h : 0 ≤ el zs v ∧ el zs v ≤ 9223372036854775807) : Calls Tryd.prog 69 #[.int .i64 (el zs v)] W fun e w' => e = .returned (.int .i64 (dg zs v)) ∧ W = w' := by
  have := countOf_any (el zs v) W h.1 h.2
  unfold dg; exact this

set_option maxHeartbeats 3200000 in
theorem mayI_some (b off cap : Nat) (zs : List Int) (x y : Nat) (k c : Int) (w : World) (hb : b < w.heap.size) (hc : Cells w b off zs) (hT : Tab w) (hg : isG zs.length zs = true) (hx : x < zs.length) (hy : y < zs.length) (hdx : (dg zs x : Int) ≤ k) (hdy : (dg zs y : Int) ≤ k) :
    Calls Tryd.prog 71 #[.agg #[.int .i64 zs.length, .slice (some ⟨b, off, none⟩) zs.length cap], .int .i64 x, .int .i64 y, .int .i64 k, .int .i64 c] w fun e w' => e = .returned (.bool (mayB zs k c x y)) ∧ Below w.heap.size w w' := by
  obtain ⟨g1, g2, -, g4, -⟩ := isG_iff.1 hg
  have h62 : zs.length ≤ 62 := by omega
  have hp62 : 2 ^ zs.length ≤ 2 ^ 62 := Nat.pow_le_pow_right (by decide) h62
  have D0 : Below w.heap.size w (w.alloc (.cells #[.int .i64 zs.length, .slice (some ⟨b, off, none⟩) zs.length cap] 28)) := (Below.refl _ _).alloc (Nat.le_refl _) _
  have HG0 := Lib.hid (GBox.new (n := zs.length) (cap := cap) hb hc)
  have HCY : Hid (∀ W, Below w.heap.size w W → Calls Tryd.prog 34 #[.agg #[.int .i64 zs.length, .slice (some ⟨b, off, none⟩) zs.length cap], .int .i64 x, .int .i64 y] W fun e w' => e = .returned (.int .i64 (cyc zs x y)) ∧ Below W.heap.size W w') := fun W h =>
    cycle_some b off cap zs x y W (Nat.lt_of_lt_of_le hb h.size) (hc.below h hb) (hT.belowAll h) hg hx hy
  have hzx := isG_row_ok hg x hx
  have hzy := isG_row_ok hg y hy
  have HCX := Lib.hid (fun W => countD_any zs x W hzx)
  have HCV := Lib.hid (fun W => countD_any zs y W hzy)
  obtain ⟨z, hzz⟩ : ∃ z : Nat, el zs x = (z : Int) := ⟨(el zs x).toNat, by omega⟩
  have hzl := (g4 x hx).2.1
  rw [hzz, Int.toNat_natCast] at hzl
  have HHM : Hid (∀ W, Calls Tryd.prog 74 #[.int .i64 (el zs x), .int .i64 y] W fun e w' => e = .returned (.bool (bt (el zs x) y)) ∧ W = w') := fun W => by
    have := hasM_any z y W (by omega) (by omega)
    unfold bt
    rw [hzz, Int.toNat_natCast]; exact this
  have hMB : mayB zs k c x y = (!bt (el zs x) y && decide ((dg zs x : Int) < k) && decide ((dg zs y : Int) < k) && decide (c ≤ cyc zs x y)) := rfl
  rw [hMB]
  have b0 := HG0.out.b0
  have b1 := HG0.out.b1
  have cx := HG0.out.cells x hx
  have cy := HG0.out.cells y hy
  have hx0 : (0 : Int) ≤ x := by omega
  have hxm : (x : Int) < zs.length := by omega
  have hy0 : (0 : Int) ≤ y := by omega
  have hym : (y : Int) < zs.length := by omega
  have HD0 := Lib.hid D0
  clear hc hT hg g4 hzz D0 hMB
  generalize el zs x = Z at *
  generalize el zs y = Y at *
  generalize cyc zs x y = C at *
  generalize (dg zs x : Int) = dx at *
  generalize (dg zs y : Int) = dy at *
  cases hbt : bt Z y with
  | true =>
    rw [hbt] at HHM
    rw [show (!true && decide (dx < k) && decide (dy < k) && decide (c ≤ C)) = false from rfl]
    clear hbt
    go_enter Tryd.func71, Tryd.ntmps71
    go_wp2_with (go_at_call 74; refine (HHM.out _).mono ?_; rintro e w' ⟨rfl, rfl⟩)
    go_ret
    exact ⟨rfl, HD0.out⟩
  | false =>
    rw [hbt] at HHM
    by_cases hkx : dx = k
    · have t1 : (dx == k) = true := by simpa using hkx
      rw [show (!false && decide (dx < k) && decide (dy < k) && decide (c ≤ C)) = false by rw [decide_eq_false (by omega : ¬ dx < k)]; rfl]
      clear hbt hkx
      go_enter Tryd.func71, Tryd.ntmps71
      go_wp2_with (first | (go_at_call 74; refine (HHM.out _).mono ?_; rintro e w' ⟨rfl, rfl⟩) | (go_at_call 69; with_reducible refine (HCX.out _).mono ?_; rintro e w' ⟨rfl, rfl⟩))
      go_ret
      exact ⟨rfl, HD0.out⟩
    · have t1 : (dx == k) = false := by simpa using hkx
      by_cases hky : dy = k
      · have t2 : (dy == k) = true := by simpa using hky
        rw [show (!false && decide (dx < k) && decide (dy < k) && decide (c ≤ C)) = false by rw [decide_eq_false (by omega : ¬ dy < k)]; simp]
        clear hbt hkx hky
        go_enter Tryd.func71, Tryd.ntmps71
        go_wp2_with (first | (go_at_call 74; refine (HHM.out _).mono ?_; rintro e w' ⟨rfl, rfl⟩) | (go_at_call 69; with_reducible refine (HCX.out _).mono ?_; rintro e w' ⟨rfl, rfl⟩) | (go_at_call 69; with_reducible refine (HCV.out _).mono ?_; rintro e w' ⟨rfl, rfl⟩))
        go_ret
        exact ⟨rfl, HD0.out⟩
      · have t2 : (dy == k) = false := by simpa using hky
        rw [show (!false && decide (dx < k) && decide (dy < k) && decide (c ≤ C)) = decide (c ≤ C) by rw [decide_eq_true (by omega : dx < k), decide_eq_true (by omega : dy < k)]; rfl]
        clear hbt hkx hky
        go_enter Tryd.func71, Tryd.ntmps71
        go_wp2_with (first | (go_at_call 74; refine (HHM.out _).mono ?_; rintro e w' ⟨rfl, rfl⟩) | (go_at_call 69; with_reducible refine (HCX.out _).mono ?_; rintro e w' ⟨rfl, rfl⟩) | (go_at_call 69; with_reducible refine (HCV.out _).mono ?_; rintro e w' ⟨rfl, rfl⟩) | (go_at_call 34; refine (HCY.out _ HD0.out).mono ?_; rintro e w5 ⟨rfl, hb5⟩))
        have E5 := HD0.out.trans (hb5.mono HD0.out.size)
        go_ret
        exact ⟨rfl, E5⟩

set_option maxHeartbeats 3200000 in
theorem mayS_some (b off cap : Nat) (zs : List Int) (x y : Nat) (k c : Int) (w : World) (hb : b < w.heap.size) (hc : Cells w b off zs) (hg : isG zs.length zs = true) (hx : x < zs.length) (hy : y < zs.length) (hxy : x ≠ y) (hc12 : c ≤ 63) :
    Calls Tryd.prog 46 #[.agg #[.int .i64 zs.length, .slice (some ⟨b, off, none⟩) zs.length cap], .int .i64 k, .int .i64 c, .int .i64 x, .int .i64 y] w fun e w' => e = .returned (.bool (mayB zs k c x y)) ∧ Below w.heap.size w w' := by
  obtain ⟨g1, g2, -, g4, -⟩ := isG_iff.1 hg
  have h62 : zs.length ≤ 62 := by omega
  have D0 : Below w.heap.size w (w.alloc (.cells #[.int .i64 zs.length, .slice (some ⟨b, off, none⟩) zs.length cap] 28)) := (Below.refl _ _).alloc (Nat.le_refl _) _
  have HG0 := Lib.hid (GBox.new (n := zs.length) (cap := cap) hb hc)
  have hx0 : (0 : Int) ≤ x := by omega
  have hxm : (x : Int) < zs.length := by omega
  have hy0 : (0 : Int) ≤ y := by omega
  have hym : (y : Int) < zs.length := by omega
  have HFA : Hid (∀ W, Below w.heap.size w W → Calls Tryd.prog 67 #[.agg #[.int .i64 zs.length, .slice (some ⟨b, off, none⟩) zs.length cap], .int .i64 x, .int .i64 y] W fun e w' => e = .returned (.int .i64 (cyD zs x 0 y)) ∧ Below W.heap.size W w') := fun W h =>
    far_some b off cap zs x y W (Nat.lt_of_lt_of_le hb h.size) (hc.below h hb) hg hx hy
  have HHM : Hid (∀ W, Below w.heap.size w W → Calls Tryd.prog 54 #[.agg #[.int .i64 zs.length, .slice (some ⟨b, off, none⟩) zs.length cap], .int .i64 x, .int .i64 y] W fun e w' => e = .returned (.bool (bt (el zs x) y)) ∧ Below W.heap.size W w') := fun W h => by
    have := has_rows zs.length b off cap zs x y W (Nat.lt_of_lt_of_le hb h.size) (hc.below h hb) hx0 hxm hy0 (by omega) (isG_row_ok hg)
    rw [Int.toNat_natCast, Int.toNat_natCast] at this
    exact this
  have HDG : ∀ v : Nat, v < zs.length → Hid (∀ W, Below w.heap.size w W → Calls Tryd.prog 52 #[.agg #[.int .i64 zs.length, .slice (some ⟨b, off, none⟩) zs.length cap], .int .i64 v] W fun e w' => e = .returned (.int .i64 (dg zs v)) ∧ Below W.heap.size W w') := fun v hv W h => by
    have := degree_rows zs.length b off cap zs v W (Nat.lt_of_lt_of_le hb h.size) (hc.below h hb) (by omega) (by omega) (isG_row_ok hg)
    rw [Int.toNat_natCast] at this
    exact this
  have HDX := HDG x hx
  have HDY := HDG y hy
  have hbd := dOf_bd (R := Rw zs x 0) (w := y) hx
  rw [show dOf (Rw zs x 0) zs.length x y = cyD zs x 0 y from rfl] at hbd
  have HCN : bt (el zs x) y = false → cyc zs x y = if 0 ≤ cyD zs x 0 y then cyD zs x 0 y + 1 else 63 := fun h => by unfold cyc; rw [cyD_non h]
  have hne : ((x : Int) == (y : Int)) = false := by rw [beq_eq_false_iff_ne]; omega
  have hMB : mayB zs k c x y = (!bt (el zs x) y && decide ((dg zs x : Int) < k) && decide ((dg zs y : Int) < k) && decide (c ≤ cyc zs x y)) := rfl
  rw [hMB]
  obtain ⟨Wb, hWb⟩ : ∃ Wb, Wb = w.alloc (.cells #[.int .i64 zs.length, .slice (some ⟨b, off, none⟩) zs.length cap] 28) := ⟨_, rfl⟩
  rw [← hWb] at D0 HG0
  have b0 := HG0.out.b0
  have b1 := HG0.out.b1
  have HD0 := Lib.hid D0
  have HBX : Hid (∀ W, Below Wb.heap.size Wb W → W.cell? ⟨w.heap.size, 0, none⟩ = some (.int .i64 zs.length) ∧ W.cell? ⟨w.heap.size, 1, none⟩ = some (.slice (some ⟨b, off, none⟩) zs.length cap)) := fun W h =>
    have G := HG0.out.below (h.mono HG0.out.lt)
    ⟨G.b0, G.b1⟩
  clear hc hg g4 D0 hMB HDG HG0
  generalize bt (el zs x) y = B at *
  generalize cyD zs x 0 y = D at *
  generalize cyc zs x y = C at *
  generalize (dg zs x : Int) = dx at *
  generalize (dg zs y : Int) = dy at *
  cases B with
  | true =>
    rw [show (!true && decide (dx < k) && decide (dy < k) && decide (c ≤ C)) = false from rfl]
    clear HCN
    go_enter Tryd.func46, Tryd.ntmps46
    go_wp2_with fail
    rw [← hWb]
    clear hWb
    go_wp2_with (go_at_call 54; refine (HHM.out _ HD0.out).mono ?_; rintro e w1 ⟨rfl, hb1⟩)
    have E := HD0.out.trans (hb1.mono HD0.out.size)
    go_ret
    exact ⟨rfl, E⟩
  | false =>
    have hC := HCN rfl
    clear HCN
    by_cases hkx : k ≤ dx
    · rw [show (!false && decide (dx < k) && decide (dy < k) && decide (c ≤ C)) = false by rw [decide_eq_false (by omega : ¬ dx < k)]; rfl]
      clear hC
      go_enter Tryd.func46, Tryd.ntmps46
      go_wp2_with fail
      rw [← hWb]
      clear hWb
      go_wp2_with (first | (go_at_call 54; refine (HHM.out _ HD0.out).mono ?_; rintro e w1 ⟨rfl, hb1⟩; have E1 := HD0.out.trans (hb1.mono HD0.out.size); obtain ⟨c0, c1⟩ := HBX.out _ hb1) | (go_at_call 52; refine (HDX.out _ E1).mono ?_; rintro e w2 ⟨rfl, hb2⟩; have E2 := E1.trans (hb2.mono E1.size)))
      go_ret
      exact ⟨rfl, E2⟩
    · by_cases hky : k ≤ dy
      · rw [show (!false && decide (dx < k) && decide (dy < k) && decide (c ≤ C)) = false by rw [decide_eq_false (by omega : ¬ dy < k)]; simp]
        clear hC
        go_enter Tryd.func46, Tryd.ntmps46
        go_wp2_with fail
        rw [← hWb]
        clear hWb
        go_wp2_with (first | (go_at_call 54; refine (HHM.out _ HD0.out).mono ?_; rintro e w1 ⟨rfl, hb1⟩; have E1 := HD0.out.trans (hb1.mono HD0.out.size); obtain ⟨c0, c1⟩ := HBX.out _ hb1) | (go_at_call 52; with_reducible refine (HDX.out _ E1).mono ?_; rintro e w2 ⟨rfl, hb2⟩; have E2 := E1.trans (hb2.mono E1.size); obtain ⟨c0, c1⟩ := HBX.out _ (hb1.trans (hb2.mono hb1.size))) | (go_at_call 52; with_reducible refine (HDY.out _ E2).mono ?_; rintro e w3 ⟨rfl, hb3⟩; have E3 := E2.trans (hb3.mono E2.size)))
        go_ret
        exact ⟨rfl, E3⟩
      · rw [show (!false && decide (dx < k) && decide (dy < k) && decide (c ≤ C)) = decide (c ≤ C) by rw [decide_eq_true (by omega : dx < k), decide_eq_true (by omega : dy < k)]; rfl]
        by_cases hD : D < 0
        · rw [if_neg (by omega)] at hC
          rw [show decide (c ≤ C) = true by rw [hC]; exact decide_eq_true hc12]
          clear hC
          go_enter Tryd.func46, Tryd.ntmps46
          go_wp2_with fail
          rw [← hWb]
          clear hWb
          go_wp2_with (first | (go_at_call 54; refine (HHM.out _ HD0.out).mono ?_; rintro e w1 ⟨rfl, hb1⟩; have E1 := HD0.out.trans (hb1.mono HD0.out.size); obtain ⟨c0, c1⟩ := HBX.out _ hb1) | (go_at_call 52; with_reducible refine (HDX.out _ E1).mono ?_; rintro e w2 ⟨rfl, hb2⟩; have E2 := E1.trans (hb2.mono E1.size); obtain ⟨c0, c1⟩ := HBX.out _ (hb1.trans (hb2.mono hb1.size))) | (go_at_call 52; with_reducible refine (HDY.out _ E2).mono ?_; rintro e w3 ⟨rfl, hb3⟩; have E3 := E2.trans (hb3.mono E2.size); obtain ⟨c0, c1⟩ := HBX.out _ ((hb1.trans (hb2.mono hb1.size)).trans (hb3.mono (Nat.le_trans hb1.size hb2.size)))) | (go_at_call 67; refine (HFA.out _ E3).mono ?_; rintro e w4 ⟨rfl, hb4⟩; have E4 := E3.trans (hb4.mono E3.size)))
          go_ret
          exact ⟨rfl, E4⟩
        · rw [if_pos (by omega)] at hC
          rw [hC]
          clear hC
          go_enter Tryd.func46, Tryd.ntmps46
          go_wp2_with fail
          rw [← hWb]
          clear hWb
          go_wp2_with (first | (go_at_call 54; refine (HHM.out _ HD0.out).mono ?_; rintro e w1 ⟨rfl, hb1⟩; have E1 := HD0.out.trans (hb1.mono HD0.out.size); obtain ⟨c0, c1⟩ := HBX.out _ hb1) | (go_at_call 52; with_reducible refine (HDX.out _ E1).mono ?_; rintro e w2 ⟨rfl, hb2⟩; have E2 := E1.trans (hb2.mono E1.size); obtain ⟨c0, c1⟩ := HBX.out _ (hb1.trans (hb2.mono hb1.size))) | (go_at_call 52; with_reducible refine (HDY.out _ E2).mono ?_; rintro e w3 ⟨rfl, hb3⟩; have E3 := E2.trans (hb3.mono E2.size); obtain ⟨c0, c1⟩ := HBX.out _ ((hb1.trans (hb2.mono hb1.size)).trans (hb3.mono (Nat.le_trans hb1.size hb2.size)))) | (go_at_call 67; refine (HFA.out _ E3).mono ?_; rintro e w4 ⟨rfl, hb4⟩; have E4 := E3.trans (hb4.mono E3.size)))
          go_ret
          refine ⟨?_, E4⟩
          show Ending.returned (Value.bool (decide (D < 0) || decide (c ≤ D + 1))) = _
          rw [decide_eq_false (show ¬ D < 0 by omega)]; rfl
end Go.Proofs.YtehpafbhejcbmaaDoor
