/-
  spec.CountClosedAt.
-/
import Derived.Test.YtlodaeoikkjbkaaDoorCd6
namespace Go.Proofs.YtlodaeoikkjbkaaDoor
set_option maxRecDepth 100000
set_option maxRecDepth 100000
open Go.RowKit

/-- The first n values of a function. -/
def fnL (g : Nat → Int) (n : Nat) : List Int := (List.range n).map g
theorem fnL_length (g : Nat → Int) (n : Nat) : (fnL g n).length = n := by simp [fnL]
theorem fnL_at (g : Nat → Int) {n i : Nat} (h : i < n) : el (fnL g n) i = g i := by rw [el_lt (by rw [fnL_length]; exact h)]; simp [fnL]
theorem fnL_congr {f g : Nat → Int} {n : Nat} (h : ∀ i, i < n → f i = g i) : fnL f n = fnL g n := List.map_congr_left fun i hi => h i (List.mem_range.1 hi)
theorem fnL_set (g : Nat → Int) (n y : Nat) (v : Int) : (fnL g n).set y v = fnL (fun j => if j = y then v else g j) n := by
  refine ext_el (by rw [List.length_set, fnL_length, fnL_length]) fun i hi => ?_
  rw [List.length_set, fnL_length] at hi
  rw [fnL_at _ hi]
  by_cases e : i = y
  · rw [e, elSet_eq (by rw [fnL_length]; omega), if_pos rfl]
  · rw [elSet_ne e, fnL_at _ hi, if_neg e]
theorem fnL_zero (n : Nat) : List.replicate n (0 : Int) = fnL (fun _ => 0) n := by
  refine (List.eq_replicate_iff.2 ⟨by rw [fnL_length], fun x hx => ?_⟩).symm
  simp [fnL] at hx
  exact hx.2.symm ▸ rfl
/-- What stands at j while x sends, those ahead of y done. -/
def amM (zs : List Int) (f : Nat → Int) (x y j : Nat) : Int := if j < y then acW zs f (x + 1) j else acW zs f x j
theorem amM_zero (zs : List Int) (f : Nat → Int) (x : Nat) : amM zs f x 0 = acW zs f x := by funext j; simp [amM]
theorem amM_yes {zs : List Int} {f : Nat → Int} {x y : Nat} (h : bt (el zs x) y = true) : (fun j => if j = y then acW zs f x y + f x else amM zs f x y j) = amM zs f x (y + 1) := by
  funext j
  unfold amM
  by_cases e : j = y
  · subst e; simp [acW, h]
  · rw [if_neg e]
    by_cases h2 : j < y
    · rw [if_pos h2, if_pos (by omega)]
    · rw [if_neg h2, if_neg (by omega)]
theorem amM_no {zs : List Int} {f : Nat → Int} {x y : Nat} (h : bt (el zs x) y = false) : amM zs f x (y + 1) = amM zs f x y := by
  funext j
  unfold amM
  by_cases e : j = y
  · subst e; simp [acW, h]
  · by_cases h2 : j < y
    · rw [if_pos h2, if_pos (by omega)]
    · rw [if_neg h2, if_neg (by omega)]

theorem row_bd6 {zs : List Int} (hg : isG (zs.length : Int) zs = true) {v : Nat} (hv : v < zs.length) : 0 ≤ el zs v ∧ el zs v ≤ 4611686018427387903 := by
  have hp := isG_parts hg
  have h1 := rowsOk_at hp.2.2.2.1 hv
  have h2 := rowOk_le h1
  rw [Int.toNat_natCast] at h2
  have h3 := isG_row_ok hg v hv
  have e : ((2 : Int) ^ zs.length) = ((2 ^ zs.length : Nat) : Int) := by simp
  have h4 : 2 ^ zs.length ≤ 2 ^ 62 := Nat.pow_le_pow_right (by decide) (by omega)
  rw [e] at h2
  omega
theorem acW_le {zs : List Int} {f : Nat → Int} {M : Int} (hM : 0 ≤ M) (hf : ∀ x, 0 ≤ f x ∧ f x ≤ M) (h62 : zs.length ≤ 62) {x y : Nat} (hx : x < zs.length) : 0 ≤ amM zs f x y y ∧ amM zs f x y y ≤ 62 * M := by
  have h := acW_bound zs f M hM hf x y
  have h2 : (x : Int) * M ≤ 62 * M := Int.mul_le_mul_of_nonneg_right (by omega) hM
  have e : amM zs f x y y = acW zs f x y := by simp [amM]
  rw [e]; exact ⟨h.1, Int.le_trans h.2 h2⟩
theorem pow_le7 {t : Nat} (h : t ≤ 7) : (62 : Int) ^ t ≤ 3521614606208 := by
  have : t = 0 ∨ t = 1 ∨ t = 2 ∨ t = 3 ∨ t = 4 ∨ t = 5 ∨ t = 6 ∨ t = 7 := by omega
  rcases this with rfl | rfl | rfl | rfl | rfl | rfl | rfl | rfl <;> decide

set_option maxHeartbeats 4000000 in
theorem specCc_yes (b off cap : Nat) (zs : List Int) (x k : Nat) (w : World) (hb : b < w.heap.size) (hc : Cells w b off zs) (hg : isG zs.length zs = true) (hx : x < zs.length) (hk : k ≤ 8) :
    Calls Tryd.prog 22 #[.agg #[.int .i64 zs.length, .slice (some ⟨b, off, none⟩) zs.length cap], .int .i64 x, .int .i64 k] w fun e w' => e = .returned (.tuple #[.int .i64 (wyN zs x k x), .int .i64 0]) ∧ Below w.heap.size w w' := by
  have hp := isG_parts hg
  have hm62 : zs.length ≤ 62 := by omega
  have HRW := Lib.hid (fun v (hv : v < zs.length) => row_bd6 hg (v := v) (by omega))
  have D0 : Below w.heap.size w ((w.alloc (.cells #[.int .i64 zs.length, .slice (some ⟨b, off, none⟩) zs.length cap] 28)).alloc (.cells #[.int .i64 x] 2)) := ((Below.refl _ _).alloc (Nat.le_refl _) _).alloc (by simp) _
  have hx1 := cell_one_new (w.alloc (.cells #[.int .i64 zs.length, .slice (some ⟨b, off, none⟩) zs.length cap] 28)) (.int .i64 x) 2
  rw [World.size_alloc] at hx1
  have hv := code2_some zs.length b off cap zs (w.heap.size + 1) 0 1 [(x : Int)] _ (Nat.lt_of_lt_of_le hb D0.size) (hc.below D0 hb) (by simp) (cells_one (hx1 0 _ rfl)) hg (by omega) (by simp)
  rw [vc_yes (by rw [show [(x : Int)].length = 1 from rfl, vs_one]; simp; omega)] at hv
  have HG0 := Lib.hid (GBox.new (n := zs.length) (cap := cap) hb hc)
  have hin : ∀ W, Calls Tryd.prog 39 #[.int .i64 k, .int .i64 0, .int .i64 8] W fun e w' => e = .returned (.bool true) ∧ W = w' := fun W => by
    have h := in_any (k : Int) 0 8 W
    rw [show (decide ((0 : Int) ≤ k) && decide ((k : Int) ≤ 8)) = true by simp; omega] at h
    exact h
  have hmk := run_mkInts zs.length (by omega)
  have hx0 : (0 : Int) ≤ x := by omega
  have hxn : (x : Int) < zs.length := by omega
  clear hc hg hx1 hp
  go_enter Tryd.func22, Tryd.ntmps22
  go_wp2_with fail
  refine hv.mono ?_
  rintro e w1 ⟨rfl, hb1⟩
  have G1 := Lib.hid (HG0.out.below (((Below.refl (w.heap.size + 1) (w.alloc (.cells #[.int .i64 zs.length, .slice (some ⟨b, off, none⟩) zs.length cap] 28))).alloc (by simp) (.cells #[.int .i64 x] 2)).trans (hb1.mono (by simp))))
  have D1 : Below w.heap.size w w1 := D0.trans (hb1.mono (by simp; omega))
  have s1 : w.heap.size + 2 ≤ w1.heap.size := by have := hb1.size; simpa using this
  clear hv hb1 D0 HG0
  have b0 := G1.out.b0
  have b1 := G1.out.b1
  have hcz := (Blk.new w1 (List.replicate zs.length 0)).cell (i := x) (by simpa using hx)
  have hfz := (Blk.new w1 (List.replicate zs.length 0)).frozen x
  go_wp2_with (go_at_call 39; refine (hin _).mono ?_; rintro e w' ⟨rfl, rfl⟩)
  obtain ⟨Wy, hWy⟩ : ∃ Wy, Wy = w1.alloc (.cells ((intsA (List.replicate zs.length 0)).setIfInBounds x (.int .i64 1)) 2) := ⟨_, rfl⟩
  rw [← hWy]
  have HA1 : Hid (Blk Wy w1.heap.size (fnL (wyN zs x 0) zs.length)) := by
    show Blk _ _ _
    have e : (intsA (List.replicate zs.length 0)).setIfInBounds x (.int .i64 1) = intsA (fnL (wyN zs x 0) zs.length) := by
      have h : (List.replicate zs.length (0 : Int)).set x 1 = fnL (wyN zs x 0) zs.length := by rw [fnL_zero, fnL_set]; rfl
      rw [← h]; unfold intsA; rw [List.setIfInBounds_toArray, List.map_set]
    rw [hWy, e]; exact Blk.new w1 _
  have hE1 : Below w1.heap.size w1 Wy := by rw [hWy]; exact (Below.refl _ _).alloc (Nat.le_refl _) _
  clear hWy b0 b1 hcz hfz
  go_loopw [2, 9] (fun kv nv wr => ∃ t r gN : Nat, t + r = k ∧ kv = .int .i64 r ∧ nv = .slice (some ⟨gN, 0, none⟩) zs.length zs.length ∧ w1.heap.size ≤ gN ∧ Hid (Blk wr gN (fnL (wyN zs x t) zs.length)) ∧ Below w1.heap.size w1 wr) (fun kv _ _ => (intOf kv).toNat)
  case atStart => exact ⟨0, k, w1.heap.size, by omega, rfl, rfl, Nat.le_refl _, HA1, hE1⟩
  case round =>
    clear HA1 hE1
    obtain ⟨t, r, gN, htr, rfl, rfl, hgN, HN, hE⟩ := hrel
    have b0 := (G1.out.below (hE.mono (by omega))).b0
    have b1 := (G1.out.below (hE.mono (by omega))).b1
    have hwl := HN.out.lt
    cases r with
    | zero =>
      obtain rfl : t = k := by omega
      have hcx := HN.out.cell (i := x) (by rw [fnL_length]; exact hx)
      rw [fnL_at _ hx] at hcx
      have E := Lib.hid (D1.trans (hE.mono (by omega)))
      go_wp2
      go_ret2
      exact ⟨rfl, E.out⟩
    | succ r =>
      have hr0 : (0 : Int) < ((r + 1 : Nat) : Int) := by omega
      have hp7 := pow_le7 (t := t) (by omega)
      have hpp : (0 : Int) ≤ 62 ^ t := Int.pow_nonneg (by decide)
      have HF := Lib.hid (fun y => wyN_bound (zs := zs) (v := x) hm62 t y)
      have HAM := Lib.hid (fun (i y : Nat) (hi : i < zs.length) => acW_le hpp (fun y => wyN_bound (zs := zs) (v := x) hm62 t y) hm62 (x := i) (y := y) hi)
      go_wp2
      obtain ⟨wo, hwo⟩ : ∃ wo, wo = wr.alloc (.cells (intsA (List.replicate zs.length 0)) 2) := ⟨_, rfl⟩
      obtain ⟨gX, hgX⟩ : ∃ gX, gX = wr.heap.size := ⟨_, rfl⟩
      have HX0 : Hid (Blk wo gX (fnL (acW zs (wyN zs x t) 0) zs.length)) := by show Blk _ _ _; rw [show acW zs (wyN zs x t) 0 = fun _ => 0 from rfl, ← fnL_zero, hwo, hgX]; exact Blk.new wr _
      have HN0 : Hid (Blk wo gN (fnL (wyN zs x t) zs.length)) := by show Blk _ _ _; rw [hwo]; exact HN.out.alloc _
      have hE0 : Below w1.heap.size w1 wo := by rw [hwo]; exact hE.alloc hE.size _
      rw [← hwo, ← hgX]
      rw [← hgX] at hwl
      clear hwo hgX HN hE b0 b1
      go_loopw [11] (fun iv wr => ∃ i : Nat, i ≤ zs.length ∧ iv = .int .i64 i ∧ Hid (Blk wr gX (fnL (acW zs (wyN zs x t) i) zs.length)) ∧ Hid (Blk wr gN (fnL (wyN zs x t) zs.length)) ∧ Below w1.heap.size w1 wr) (fun iv _ => zs.length - (intOf iv).toNat)
      case atStart => exact ⟨0, Nat.zero_le _, rfl, HX0, HN0, hE0⟩
      case round =>
        clear HX0 HN0 hE0
        obtain ⟨i, hi, rfl, HX, HN, hE⟩ := hrel
        have b0 := (G1.out.below (hE.mono (by omega))).b0
        have b1 := (G1.out.below (hE.mono (by omega))).b1
        by_cases hlt : i < zs.length
        · have hlti : (i : Int) < zs.length := by omega
          go_wp2
          have HX1 : Hid (Blk wr gX (fnL (amM zs (wyN zs x t) i 0) zs.length)) := by show Blk _ _ _; rw [amM_zero]; exact HX.out
          clear b0 b1
          go_loopw [12] (fun jv wr => ∃ j : Nat, j ≤ zs.length ∧ jv = .int .i64 j ∧ Hid (Blk wr gX (fnL (amM zs (wyN zs x t) i j) zs.length)) ∧ Hid (Blk wr gN (fnL (wyN zs x t) zs.length)) ∧ Below w1.heap.size w1 wr) (fun jv _ => zs.length - (intOf jv).toNat)
          case atStart => exact ⟨0, Nat.zero_le _, rfl, HX1, HN, hE⟩
          case round =>
            clear HX1 HX HN hE
            obtain ⟨j, hj, rfl, HX, HN, hE⟩ := hrel
            have b0 := (G1.out.below (hE.mono (by omega))).b0
            have b1 := (G1.out.below (hE.mono (by omega))).b1
            by_cases hlj : j < zs.length
            · have hljj : (j : Int) < zs.length := by omega
              have hz := (G1.out.below (hE.mono (by omega))).cells i hlt
              obtain ⟨hz0, hz1⟩ := HRW.out i hlt
              obtain ⟨z, hzz⟩ : ∃ z : Nat, el zs i = (z : Int) := ⟨(el zs i).toNat, by omega⟩
              have HSH : Hid ((bits .and .i64 ((z : Int) / 2 ^ j) 1 == 1) = bt (el zs i) j) := by
                have := shr_bit (z : Int) j (by omega) (by omega)
                show _ = _
                rw [this, ← hzz]
              rw [hzz] at hz hz1
              have hi0 : (0 : Int) ≤ i := by omega
              have hj0 : (0 : Int) ≤ j := by omega
              have hki : (j : Int) < 62 := by omega
              have huk : IntKind.u64.wrap (j : Int) = j := by rw [IntKind.wrap_u64]; omega
              have hzp : (0 : Int) ≤ z := by omega
              clear hz0
              cases hbt : bt (el zs i) j with
              | true =>
                have hbit := HSH.out
                rw [hbt] at hbit
                have HY := Lib.hid (amM_yes (f := wyN zs x t) hbt)
                have cX := HX.out.cell (i := j) (by rw [fnL_length]; exact hlj)
                have fX := HX.out.frozen j
                have cN := HN.out.cell (i := i) (by rw [fnL_length]; exact hlt)
                rw [fnL_at _ hlj] at cX
                rw [fnL_at _ hlt] at cN
                obtain ⟨a0, a1⟩ := HAM.out i j hlt
                obtain ⟨c0, c1⟩ := HF.out i
                have eA : amM zs (wyN zs x t) i j j = acW zs (wyN zs x t) i j := by simp [amM]
                rw [eA] at cX a0 a1
                obtain ⟨A, hA⟩ : ∃ A, A = acW zs (wyN zs x t) i j := ⟨_, rfl⟩
                obtain ⟨F, hF⟩ : ∃ F, F = wyN zs x t i := ⟨_, rfl⟩
                rw [← hA] at cX a0 a1
                rw [← hF] at cN c0 c1
                have hAF : IntKind.i64.wrap (A + F) = A + F := by rw [IntKind.wrap_i64]; omega
                have HAA := Lib.hid hA
                have HFF := Lib.hid hF
                clear HSH hbt hzz eA hA hF
                go_wp2_with fail
                go_region
                obtain ⟨w5, h5⟩ : ∃ w5, w5 = (wr.setCell ⟨gX, j, none⟩ (.int .i64 (A + F))).drew := ⟨_, rfl⟩
                rw [← h5]
                have HX5 : Hid (Blk w5 gX (fnL (amM zs (wyN zs x t) i (j + 1)) zs.length)) := by
                  have h := HX.out.set j (A + F)
                  rw [fnL_set, HAA.out, HFF.out, HY.out] at h
                  show Blk _ _ _
                  rw [h5, HAA.out, HFF.out]; exact h
                have HN5 : Hid (Blk w5 gN (fnL (wyN zs x t) zs.length)) := by
                  show Blk _ _ _
                  rw [h5]; exact (HN.out.other (a := ⟨gX, j, none⟩) (by simp; omega) _)
                have hE5 : Below w1.heap.size w1 w5 := by rw [h5]; exact (hE.setCell (p := ⟨gX, j, none⟩) (by simp; omega) _).drew
                clear h5 cX cN fX HX HN hE hz b0 b1
                go_wp2
                go_roundw
                case rel => exact ⟨j + 1, hlj, by go_num, HX5, HN5, hE5⟩
                case measure => simp [intOf]; omega
              | false =>
                have hbit := HSH.out
                rw [hbt] at hbit
                have HX5 : Hid (Blk wr gX (fnL (amM zs (wyN zs x t) i (j + 1)) zs.length)) := by show Blk _ _ _; rw [amM_no hbt]; exact HX.out
                clear HSH hbt hzz
                go_wp2
                go_roundw
                case rel => exact ⟨j + 1, hlj, by go_num, HX5, HN, hE⟩
                case measure => simp [intOf]; omega
            · obtain rfl : j = zs.length := by omega
              have HX6 : Hid (Blk wr gX (fnL (acW zs (wyN zs x t) (i + 1)) zs.length)) := by
                show Blk _ _ _
                rw [show fnL (acW zs (wyN zs x t) (i + 1)) zs.length = fnL (amM zs (wyN zs x t) i zs.length) zs.length from fnL_congr fun q hq => by simp [amM, hq]]
                exact HX.out
              go_wp2
              go_roundw
              case rel => exact ⟨i + 1, hlt, by go_num, HX6, HN, hE⟩
              case measure => simp [intOf]; omega
        · obtain rfl : i = zs.length := by omega
          have HX6 : Hid (Blk wr gX (fnL (wyN zs x (t + 1)) zs.length)) := HX
          go_wp2
          go_roundw
          case rel => exact ⟨t + 1, r, gX, by omega, by go_num, rfl, by omega, HX6, hE⟩
          case measure => simp [intOf]

set_option maxHeartbeats 1600000 in
theorem specCc_far (n : Int) (b off cap : Nat) (zs : List Int) (x k : Int) (w : World) (hb : b < w.heap.size) (hc : Cells w b off zs) (hg : isG n zs = true) (hx : (decide (0 ≤ x) && decide (x ≤ n - 1)) = false ∨ kOk k = false) (hl : zs.length ≤ 9223372036854775807) :
    Calls Tryd.prog 22 #[.agg #[.int .i64 n, .slice (some ⟨b, off, none⟩) zs.length cap], .int .i64 x, .int .i64 k] w fun e w' => e = .returned (.tuple #[.int .i64 0, .int .i64 2]) ∧ Below w.heap.size w w' := by
  have D0 : Below w.heap.size w ((w.alloc (.cells #[.int .i64 n, .slice (some ⟨b, off, none⟩) zs.length cap] 28)).alloc (.cells #[.int .i64 x] 2)) := ((Below.refl _ _).alloc (Nat.le_refl _) _).alloc (by simp) _
  have hx1 := cell_one_new (w.alloc (.cells #[.int .i64 n, .slice (some ⟨b, off, none⟩) zs.length cap] 28)) (.int .i64 x) 2
  rw [World.size_alloc] at hx1
  have hv := code2_some n b off cap zs (w.heap.size + 1) 0 1 [x] _ (Nat.lt_of_lt_of_le hb D0.size) (hc.below D0 hb) (by simp) (cells_one (hx1 0 _ rfl)) hg hl (by simp)
  clear hc hg hx1
  cases hxx : decide (0 ≤ x) && decide (x ≤ n - 1) with
  | false =>
    rw [vc_no (by rw [show [x].length = 1 from rfl, vs_one]; exact hxx)] at hv
    clear hx hxx
    go_enter Tryd.func22, Tryd.ntmps22
    go_wp2_with fail
    refine hv.mono ?_
    rintro e w1 ⟨rfl, hb1⟩
    have D1 := D0.trans (hb1.mono (by simp; omega))
    clear hb1 hv
    go_wp2
    go_ret2
    exact ⟨rfl, D1⟩
  | true =>
    rw [vc_yes (by rw [show [x].length = 1 from rfl, vs_one]; exact hxx)] at hv
    have hk : kOk k = false := by
      rcases hx with h | h
      · rw [h] at hxx; cases hxx
      · exact h
    have hin : ∀ W, Calls Tryd.prog 39 #[.int .i64 k, .int .i64 0, .int .i64 8] W fun e w' => e = .returned (.bool false) ∧ W = w' := fun W => by
      have h := in_any k 0 8 W
      rw [show (decide (0 ≤ k) && decide (k ≤ 8)) = false from hk] at h
      exact h
    clear hx hxx hk
    go_enter Tryd.func22, Tryd.ntmps22
    go_wp2_with fail
    refine hv.mono ?_
    rintro e w1 ⟨rfl, hb1⟩
    have D1 := D0.trans (hb1.mono (by simp; omega))
    clear hb1 hv
    go_wp2_with (go_at_call 39; refine (hin _).mono ?_; rintro e w' ⟨rfl, rfl⟩)
    go_ret2
    exact ⟨rfl, D1⟩

set_option maxHeartbeats 800000 in
theorem specCc_no (n : Int) (v : Value) (zs : List Int) (x k : Int) (w : World) (h : Sl w v zs) (hg : isG n zs = false) (hl : zs.length ≤ 9223372036854775807) :
    Calls Tryd.prog 22 #[.agg #[.int .i64 n, v], .int .i64 x, .int .i64 k] w fun e w' => e = .returned (.tuple #[.int .i64 0, .int .i64 1]) ∧ Below w.heap.size w w' := by
  have D0 : Below w.heap.size w ((w.alloc (.cells #[.int .i64 n, v] 28)).alloc (.cells #[.int .i64 x] 2)) := ((Below.refl _ _).alloc (Nat.le_refl _) _).alloc (by simp) _
  have hv := fun u => code2_no n v u zs _ (h.below D0) hg hl
  clear h hg
  go_enter Tryd.func22, Tryd.ntmps22
  go_wp2_with fail
  refine (hv _).mono ?_
  rintro e w1 ⟨rfl, hb1⟩
  have D1 := D0.trans (hb1.mono (by simp; omega))
  clear hb1 hv
  go_wp2
  go_ret2
  exact ⟨rfl, D1⟩

theorem specCc_any (n : Int) (v : Value) (zs : List Int) (x k : Int) (w : World) (h : Sl w v zs) (hl : zs.length ≤ 9223372036854775807) :
    Calls Tryd.prog 22 #[.agg #[.int .i64 n, v], .int .i64 x, .int .i64 k] w fun e w' => e = .returned (.tuple #[.int .i64 (CcN n zs x k), .int .i64 (CcC n zs x k)]) ∧ Below w.heap.size w w' := by
  cases hg : isG n zs
  · have hN : NC n zs x = 1 := by simp [NC, hg]
    rw [show CcN n zs x k = 0 by simp [CcN, hN], show CcC n zs x k = 1 by simp [CcC, hN]]
    exact specCc_no n v zs x k w h hg hl
  · obtain ⟨h1, _, h3, _⟩ := isG_parts hg
    obtain ⟨b, off, cap, rfl, hb, hc⟩ := sl_some h (by omega)
    cases hx : (decide (0 ≤ x) && decide (x ≤ n - 1))
    · have hN : NC n zs x = 2 := by simp [NC, hg, hx]
      rw [show CcN n zs x k = 0 by simp [CcN, hN], show CcC n zs x k = 2 by simp [CcC, hN]]
      exact specCc_far n b off cap zs x k w hb hc hg (.inl hx) hl
    · have hN : NC n zs x = 0 := by simp [NC, hg, hx]
      cases hk : kOk k
      · rw [show CcN n zs x k = 0 by simp [CcN, hN, hk], show CcC n zs x k = 2 by simp [CcC, hN, hk]]
        exact specCc_far n b off cap zs x k w hb hc hg (.inr hk) hl
      · rw [show CcN n zs x k = wyN zs x.toNat k.toNat x.toNat by simp [CcN, hN, hk], show CcC n zs x k = 0 by simp [CcC, hN, hk]]
        simp only [Bool.and_eq_true, decide_eq_true_eq] at hx
        unfold kOk at hk
        simp only [Bool.and_eq_true, decide_eq_true_eq] at hk
        obtain ⟨j, rfl⟩ := Int.eq_ofNat_of_zero_le hx.1
        obtain ⟨t, rfl⟩ := Int.eq_ofNat_of_zero_le hk.1
        obtain rfl : (zs.length : Int) = n := h3
        exact specCc_yes b off cap zs j t w hb hc hg (by omega) (by omega)
end Go.Proofs.YtlodaeoikkjbkaaDoor
