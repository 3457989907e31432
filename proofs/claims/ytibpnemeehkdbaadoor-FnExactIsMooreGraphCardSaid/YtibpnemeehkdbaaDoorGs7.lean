/-
  spec.l02Girth, spec.GirthOf.
-/
import Derived.Test.YtibpnemeehkdbaaDoorAr7
import Derived.Test.YtibpnemeehkdbaaDoorEs7
namespace Go.Proofs.YtibpnemeehkdbaaDoor
set_option maxRecDepth 100000
set_option maxRecDepth 100000
open Go.RowKit

/-- The least cycle through the edges of a list as the model tells it: 0 for none. -/
def oG (zs : List Int) (q : List (Nat × Nat)) : Int := if gF zs q = 63 then 0 else gF zs q
theorem edW_sub {zs : List Int} {v y : Nat} (hz : ∀ i, i < zs.length → (el zs i).toNat < 2 ^ zs.length) (hv : v < zs.length) (hy : y ≤ zs.length) : ∀ p, p ∈ edW zs v y → p.1 < p.2 ∧ p.2 < zs.length := by
  rintro ⟨a, b⟩ hp
  unfold edW at hp
  rcases List.mem_append.1 hp with h | h
  · exact edL_lt ((edP_pre zs (Nat.le_of_lt hv)).subset h) hz
  · obtain ⟨c, hc, he⟩ := List.mem_map.1 h
    cases he
    have h2 := List.mem_filter.1 hc
    have h3 := List.mem_range.1 h2.1
    have h4 := h2.2
    rw [Bool.and_eq_true] at h4
    exact ⟨by simpa using h4.1, by omega⟩
theorem gF_bd2 {zs : List Int} {q : List (Nat × Nat)} (hq : ∀ p, p ∈ q → p.1 < p.2 ∧ p.2 < zs.length) : 3 ≤ gF zs q ∧ gF zs q ≤ 63 := by
  refine ⟨gF_le.2 ⟨by omega, fun p hp => ?_⟩, (gF_le.1 (Int.le_refl _)).1⟩
  have := hq p hp
  exact cyc_ge (by omega) (by omega)
/-- One more edge. -/
theorem oG_snoc {zs : List Int} {q : List (Nat × Nat)} {a b : Nat} (hq : 3 ≤ gF zs q ∧ gF zs q ≤ 63) (h62 : zs.length ≤ 62) (ha : a < zs.length) (hab : a ≠ b) :
    (0 < arL zs a b ∧ (oG zs q = 0 ∨ arL zs a b < oG zs q) → oG zs (q ++ [(a, b)]) = arL zs a b) ∧ (¬ (0 < arL zs a b ∧ (oG zs q = 0 ∨ arL zs a b < oG zs q)) → oG zs (q ++ [(a, b)]) = oG zs q) := by
  have h1 := cyc_ge (zs := zs) ha hab
  have h2 : cyD zs a (2 ^ b) b < zs.length := (dOf_bd ha).2
  have h3 := gF_snoc zs q (a, b)
  unfold oG
  rw [h3]
  show _ ∧ _
  unfold arL
  unfold cyc at h1 ⊢
  simp only
  generalize cyD zs a (2 ^ b) b = D at *
  generalize gF zs q = g at *
  by_cases hD : 0 ≤ D
  · rw [if_pos hD] at h1 ⊢
    rw [if_pos hD]
    refine ⟨fun h => ?_, fun h => ?_⟩ <;> (repeat' split) <;> split at h <;> omega
  · rw [if_neg hD] at h1 ⊢
    rw [if_neg hD]
    refine ⟨fun h => ?_, fun h => ?_⟩ <;> (repeat' split) <;> omega

set_option maxHeartbeats 3200000 in
theorem girthS_some (b off cap : Nat) (zs : List Int) (w : World) (hb : b < w.heap.size) (hc : Cells w b off zs) (hg : isG zs.length zs = true) :
    Calls Tryd.prog 24 #[.agg #[.int .i64 zs.length, .slice (some ⟨b, off, none⟩) zs.length cap], .int .i64 (-1)] w fun e w' => e = .returned (.int .i64 (goN zs)) ∧ Below w.heap.size w w' := by
  obtain ⟨p1, p2, -, -, -⟩ := isG_parts hg
  have hm62 : zs.length ≤ 62 := by omega
  have D0 : Below w.heap.size w (w.alloc (.cells #[.int .i64 zs.length, .slice (some ⟨b, off, none⟩) zs.length cap] 28)) := (Below.refl _ _).alloc (Nat.le_refl _) _
  have HG0 := Lib.hid (GBox.new (n := zs.length) (cap := cap) hb hc)
  have HZ := Lib.hid (isG_row_ok hg)
  have HZ2 : Hid (∀ k, k < zs.length → (el zs k).toNat < 2 ^ zs.length) := fun k hk => ((isG_iff.1 hg).2.2.2.1 k hk).2.1
  have HAW : Hid (∀ (W : World) (x y : Nat), Below w.heap.size w W → x < zs.length → y < zs.length → Calls Tryd.prog 42 #[.agg #[.int .i64 zs.length, .slice (some ⟨b, off, none⟩) zs.length cap], .int .i64 x, .int .i64 y] W fun ed w' => (∃ c : Int, ed = .returned (.tuple #[.int .i64 (arL zs x y), .int .i64 c])) ∧ Below W.heap.size W w') := fun W x y h hx hy => around_some b off cap zs x y W (Nat.lt_of_lt_of_le hb h.size) (hc.below h hb) hg hx hy
  have HFIN : Hid (oG zs (edP zs zs.length) = goN zs) := rfl
  obtain ⟨GN, hGN⟩ : ∃ GN, GN = goN zs := ⟨_, rfl⟩
  rw [← hGN] at HFIN ⊢
  obtain ⟨Wb, hWb⟩ : ∃ Wb, Wb = w.alloc (.cells #[.int .i64 zs.length, .slice (some ⟨b, off, none⟩) zs.length cap] 28) := ⟨_, rfl⟩
  rw [← hWb] at D0 HG0
  have sb : w.heap.size + 1 ≤ Wb.heap.size := by rw [hWb]; simp
  have HFX : Hid (∀ W, Below (w.heap.size + 1) Wb W → ∀ x : Nat, x < zs.length → W.cell? ⟨w.heap.size, 0, none⟩ = some (.int .i64 zs.length) ∧ W.cell? ⟨w.heap.size, 1, none⟩ = some (.slice (some ⟨b, off, none⟩) zs.length cap) ∧ W.cell? ⟨b, off + x, none⟩ = some (.int .i64 (el zs x))) := fun W hW x hx => by
    have hGW := HG0.out.below hW
    exact ⟨hGW.b0, hGW.b1, hGW.cells x hx⟩
  have HDB : Hid (∀ W, Below (w.heap.size + 1) Wb W → Below w.heap.size w W) := fun W hW => D0.trans (hW.mono (by omega))
  have HS0 : Hid (oG zs (edP zs 0) = 0) := rfl
  have hp0 : 0 < zs.length := by omega
  clear hc hg hGN HG0 D0
  go_enter Tryd.func24, Tryd.ntmps24
  go_wp2_with fail
  rw [← hWb]
  clear hWb
  go_loopw [5, 6] (fun o i wr => ∃ (k : Nat) (t : Int), k ≤ zs.length ∧ o = .int .i64 t ∧ i = .int .i64 k ∧ Hid (t = oG zs (edP zs k)) ∧ Below (w.heap.size + 1) Wb wr) (fun _ i _ => zs.length - (intOf i).toNat)
  case atStart => exact ⟨0, 0, Nat.zero_le _, rfl, rfl, HS0.out.symm, Below.refl _ _⟩
  case round =>
    clear HS0
    obtain ⟨k, t, hk, rfl, rfl, HT, hE⟩ := hrel
    obtain ⟨b0, b1, -⟩ := HFX.out _ hE 0 hp0
    by_cases hlt : (k : Int) < zs.length
    · have hkl : k < zs.length := by omega
      have hk0 : (0 : Int) ≤ k := by omega
      have HT1 : Hid (t = oG zs (edW zs k (k + 1))) := by show _ = _; rw [edW_start]; exact HT.out
      go_wp2_with fail
      clear b0 b1 HT
      obtain ⟨wo, rfl⟩ : ∃ wo : World, wo = wr := ⟨_, rfl⟩
      go_loopw [5, 7, 8, 9] (fun o i _ _ wr => ∃ (y : Nat) (t : Int), k < y ∧ y ≤ zs.length ∧ o = .int .i64 t ∧ i = .int .i64 y ∧ Hid (t = oG zs (edW zs k y)) ∧ Below (w.heap.size + 1) Wb wr) (fun _ i _ _ _ => zs.length - (intOf i).toNat)
      case atStart => exact ⟨k + 1, t, by omega, by omega, rfl, by go_num, HT1, hE⟩
      case round =>
        clear HT1 hE
        obtain ⟨y, t, hky, hy, rfl, rfl, HT, hE⟩ := hrel
        obtain ⟨b0, b1, rk⟩ := HFX.out _ hE k hkl
        have hs := hE.size
        by_cases hly : (y : Int) < zs.length
        · have hyl : y < zs.length := by omega
          have hy0 : (0 : Int) ≤ y := by omega
          have hy62 : (y : Int) ≤ 61 := by omega
          obtain ⟨hb0, hb1⟩ := HZ.out k hkl
          have bit0 := bit_zero (el zs k) y hb0 hb1
          clear hb0 hb1
          cases hbt : bt (el zs k) y with
          | true =>
            rw [hbt] at bit0
            have HST := Lib.hid (oG_snoc (gF_bd2 (edW_sub HZ2.out hkl hy)) hm62 hkl (show k ≠ y by omega))
            rw [← edW_yes hky hbt, ← HT.out] at HST
            have har := HAW.out wr k y (HDB.out _ hE) hkl hyl
            obtain ⟨ar, ha⟩ : ∃ ar, ar = arL zs k y := ⟨_, rfl⟩
            rw [← ha] at har HST
            clear hbt HT ha
            by_cases h1 : 0 < ar
            · have h1' : decide (ar > 0) = true := by simpa using h1
              by_cases h2 : t = 0
              · have h2' : (t == 0) = true := by simpa using h2
                have HN := Lib.hid (HST.out.1 ⟨h1, .inl h2⟩)
                clear HST h2
                go_wp2_with (go_at_call 42; refine har.mono ?_; rintro ed w2 ⟨⟨cw, rfl⟩, hb2⟩; have hE2 := hE.trans (hb2.mono (by omega)))
                go_roundw
                case rel => exact ⟨y + 1, ar, by omega, by omega, rfl, by go_num, HN.out.symm, hE2⟩
                case measure => simp [intOf]; omega
              · have h2' : (t == 0) = false := by simpa using h2
                by_cases h3 : ar < t
                · have h3' : decide (ar < t) = true := by simpa using h3
                  have HN := Lib.hid (HST.out.1 ⟨h1, .inr h3⟩)
                  clear HST
                  go_wp2_with (go_at_call 42; refine har.mono ?_; rintro ed w2 ⟨⟨cw, rfl⟩, hb2⟩; have hE2 := hE.trans (hb2.mono (by omega)))
                  go_roundw
                  case rel => exact ⟨y + 1, ar, by omega, by omega, rfl, by go_num, HN.out.symm, hE2⟩
                  case measure => simp [intOf]; omega
                · have h3' : decide (ar < t) = false := by simpa using h3
                  have HN := Lib.hid (HST.out.2 (fun h => h.2.elim h2 h3))
                  clear HST
                  go_wp2_with (go_at_call 42; refine har.mono ?_; rintro ed w2 ⟨⟨cw, rfl⟩, hb2⟩; have hE2 := hE.trans (hb2.mono (by omega)))
                  go_roundw
                  case rel => exact ⟨y + 1, t, by omega, by omega, rfl, by go_num, HN.out.symm, hE2⟩
                  case measure => simp [intOf]; omega
            · have h1' : decide (ar > 0) = false := by simpa using h1
              have HN := Lib.hid (HST.out.2 (fun h => h1 h.1))
              clear HST
              go_wp2_with (go_at_call 42; refine har.mono ?_; rintro ed w2 ⟨⟨cw, rfl⟩, hb2⟩; have hE2 := hE.trans (hb2.mono (by omega)))
              go_roundw
              case rel => exact ⟨y + 1, t, by omega, by omega, rfl, by go_num, HN.out.symm, hE2⟩
              case measure => simp [intOf]; omega
          | false =>
            rw [hbt] at bit0
            have HN : Hid (t = oG zs (edW zs k (y + 1))) := by show _ = _; rw [edW_no hbt]; exact HT.out
            clear HT hbt
            go_wp2_with fail
            go_roundw
            case rel => exact ⟨y + 1, t, by omega, by omega, rfl, by go_num, HN, hE⟩
            case measure => simp [intOf]; omega
        · obtain rfl : y = zs.length := by omega
          have HT1 : Hid (t = oG zs (edP zs (k + 1))) := by show _ = _; rw [← edW_end hm62 (HZ2.out k hkl)]; exact HT.out
          clear HT
          go_wp2_with fail
          go_roundw
          case rel => exact ⟨k + 1, t, by omega, rfl, by go_num, HT1, hE⟩
          case measure => simp [intOf]; omega
    · obtain rfl : k = zs.length := by omega
      have HR : Hid (t = GN) := HT.out.trans HFIN.out
      have hEF := HDB.out _ hE
      clear HT
      go_wp2_with fail
      go_ret
      exact ⟨ret_int HR.out, hEF⟩

end Go.Proofs.YtibpnemeehkdbaaDoor
