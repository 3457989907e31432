/-
  spec.l01Is: its answer is isG.
-/
import Derived.Test.YtlodaeoikkjbkaaDoorMem
import Derived.Deep.RegionHeld3
import Derived.Deep.RegionWith
import Derived.Lib.Hide
namespace Go.Proofs.YtlodaeoikkjbkaaDoor
set_option maxRecDepth 100000
open Go.RowKit

set_option maxHeartbeats 800000 in
theorem l01Is_some (n : Int) (b off cap : Nat) (zs : List Int) (w : World) (hb : b < w.heap.size) (hc : Cells w b off zs) (hl : zs.length ≤ 9223372036854775807) :
    Calls Tryd.prog 38 #[.agg #[.int .i64 n, .slice (some ⟨b, off, none⟩) zs.length cap]] w fun e w' => e = .returned (.bool (isG n zs)) ∧ Below w.heap.size w w' := by
  by_cases h1 : 1 ≤ n ∧ n ≤ 62
  · have e1 : (!(decide (1 ≤ n) && decide (n ≤ 62))) = false := by simp [h1]
    by_cases h2 : (zs.length : Int) = n
    · have e2 : ((zs.length : Int) != n) = false := by simpa using h2
      have hc' : Hid (Cells w b off zs) := hc
      clear hc
      obtain ⟨h1a, h1b⟩ := h1
      have H2 : Hid ((zs.length : Int) = n) := h2
      clear h2
      obtain ⟨p1, p2⟩ := pow_bounds n.toNat (by omega)
      go_enter Tryd.func38, Tryd.ntmps38
      go_wp2_with (go_at_call 39; refine (in_any _ _ _ _).mono ?_; rintro e w' ⟨rfl, rfl⟩)
      go_loopw [3] (fun i wr => ∃ k : Nat, k ≤ zs.length ∧ i = .int .i64 k ∧ rowsOk n zs k = true ∧ Below (w.heap.size + 1) (w.alloc (.cells #[.int .i64 n, .slice (some ⟨b, off, none⟩) zs.length cap] 28)) wr) (fun i _ => zs.length - (intOf i).toNat)
      case atStart => exact ⟨0, Nat.zero_le _, rfl, rfl, Below.refl _ _⟩
      case round =>
        obtain ⟨k, hk, rfl, hrows, hB⟩ := hrel
        have HR : Hid (rowsOk n zs k = true) := hrows
        clear hrows
        have hs := hB.size
        simp only [World.size_alloc] at hs
        have b0 : wr.cell? ⟨w.heap.size, 0, none⟩ = some (.int .i64 n) := (hB.cell (p := ⟨w.heap.size, 0, none⟩) (by simp)).trans (by simp)
        have b1 : wr.cell? ⟨w.heap.size, 1, none⟩ = some (.slice (some ⟨b, off, none⟩) zs.length cap) := (hB.cell (p := ⟨w.heap.size, 1, none⟩) (by simp)).trans (by simp)
        by_cases hlt : (k : Int) < n
        · have hki : k < zs.length := by have := H2.out; omega
          have hz : wr.cell? ⟨b, off + k, none⟩ = some (.int .i64 (el zs k)) := (hB.cell (p := ⟨b, off + k, none⟩) (by simp; omega)).trans ((World.cell?_alloc_lt _ _ _ hb).trans (hc'.out k hki))
          by_cases hr : 0 ≤ el zs k ∧ el zs k ≤ 2 ^ n.toNat - 1
          · have g1 : (!(decide (0 ≤ el zs k) && decide (el zs k ≤ 2 ^ n.toNat - 1))) = false := by simp [hr]
            obtain ⟨hr0, hr1⟩ := hr
            have hki' : (k : Int) < zs.length := by omega
            have hk0 : (0 : Int) ≤ k := by omega
            have hk62 : (k : Int) < 62 := by omega
            have hz1 : el zs k ≤ 9223372036854775807 := by omega
            obtain ⟨r, hbt⟩ : ∃ r, bt (el zs k) k = r := ⟨_, rfl⟩
            have HBT := Lib.hid hbt; clear hbt
            have wu := u64_small n (by omega) h1b
            have wm := min_small n h1b
            have wp := i64_pow n h1b
            have wq := i64_pow1 n h1b
            go_wp2_with fail
            go_region_held3 (fun w' => w'.cell? ⟨w.heap.size, 0, none⟩ = some (.int .i64 n) ∧ w'.cell? ⟨w.heap.size, 1, none⟩ = some (.slice (some ⟨b, off, none⟩) zs.length cap) ∧ w'.cell? ⟨b, off + k, none⟩ = some (.int .i64 (el zs k)))
              (go_keep)
              (first | (go_at_call 39; refine (in_any _ _ _ _).mono ?_; rintro e w' ⟨rfl, rfl⟩) | (go_at_call 62; refine (has_any n b off _ cap (el zs k) k k _ (by simp; omega) (by simp [hz]) hk0 hki' hk0 hk62 hr0 hz1 r HBT.out).mono ?_; rintro e w2 ⟨rfl, hb2⟩; have k0 : w2.cell? ⟨w.heap.size, 0, none⟩ = some (.int .i64 n) := (hb2.cell (p := ⟨w.heap.size, 0, none⟩) (by simp; omega)).trans (by simp [b0]); have k1 : w2.cell? ⟨w.heap.size, 1, none⟩ = some (.slice (some ⟨b, off, none⟩) zs.length cap) := (hb2.cell (p := ⟨w.heap.size, 1, none⟩) (by simp; omega)).trans (by simp [b1]); have k2 : w2.cell? ⟨b, off + k, none⟩ = some (.int .i64 (el zs k)) := (hb2.cell (p := ⟨b, off + k, none⟩) (by simp; omega)).trans (by simp [hz])))
            clear wu wm wp wq
            have hB2 : Below (w.heap.size + 1) (w.alloc (.cells #[.int .i64 n, .slice (some ⟨b, off, none⟩) zs.length cap] 28)) w2 := (hB.drew).trans (hb2.mono (by simp; omega))
            cases r
            · have HO : Hid (rowsOk n zs (k + 1) = true) := by show _ = _; rw [rowsOk_succ, HR.out, rowOk_mk hr0 hr1 HBT.out]; rfl
              go_wp2
              go_roundw
              case rel => exact ⟨k + 1, by omega, by go_num, HO.out, hB2⟩
              case measure => simp [intOf]; omega
            · have e3 : isG n zs = false := isG_row hki (rowOk_no (.inr HBT.out))
              have E3 := Lib.hid e3; clear e3
              go_wp2
              go_ret
              exact ⟨ret_bool E3.out.symm, ((Below.refl _ _).alloc (Nat.le_refl _) _).trans (hB2.mono (by simp))⟩
          · have g1 : (!(decide (0 ≤ el zs k) && decide (el zs k ≤ 2 ^ n.toNat - 1))) = true := by simp; omega
            have hki' : (k : Int) < zs.length := by omega
            have hk0 : (0 : Int) ≤ k := by omega
            have wu := u64_small n (by omega) h1b
            have wm := min_small n h1b
            have wp := i64_pow n h1b
            have wq := i64_pow1 n h1b
            have e3 : isG n zs = false := isG_row hki (rowOk_no (.inl hr))
            have E3 := Lib.hid e3; clear e3 hr
            have hn0 : 0 ≤ n := by omega
            go_wp2_with fail
            go_quiet ((go_at_call 39; exact qsame (in_any _ _ _ _)))
            clear wu wm wp wq
            go_wp2
            go_ret
            exact ⟨ret_bool E3.out.symm, ((Below.refl _ _).alloc (Nat.le_refl _) _).trans ((drewN_below hB _).mono (by simp))⟩
        · have hkl : k = zs.length := by have := H2.out; omega
          subst hkl
          have HZ : Hid (∀ i, i < zs.length → 0 ≤ el zs i ∧ el zs i ≤ 9223372036854775807) := fun i hi => ⟨rowOk_ge (rowsOk_at HR.out hi), by have := rowOk_le (rowsOk_at HR.out hi); omega⟩
          go_wp2
          obtain ⟨wo, rfl⟩ : ∃ wo : World, wo = wr := ⟨_, rfl⟩
          go_loopw [4, 5] (fun i _ wr => ∃ v : Nat, v ≤ zs.length ∧ i = .int .i64 v ∧ symTo zs v = true ∧ Below (w.heap.size + 1) (w.alloc (.cells #[.int .i64 n, .slice (some ⟨b, off, none⟩) zs.length cap] 28)) wr) (fun i _ _ => zs.length - (intOf i).toNat)
          case atStart => exact ⟨0, Nat.zero_le _, rfl, rfl, hB⟩
          case round =>
            clear hB b0 b1 hs
            obtain ⟨v, hv, rfl, hsym, hB⟩ := hrel
            have HS := Lib.hid hsym; clear hsym
            have G0 := (GBox.new (n := n) (cap := cap) hb hc'.out).below hB
            have b0 := G0.b0
            have b1 := G0.b1
            by_cases hlt : (v : Int) < n
            · have hvl : v < zs.length := by have := H2.out; omega
              have hv62 : (v : Int) < 62 := by omega
              have hvl' : (v : Int) < zs.length := by omega
              have hv0 : (0 : Int) ≤ v := by omega
              go_wp2
              obtain ⟨wo2, rfl⟩ : ∃ wo : World, wo = wr := ⟨_, rfl⟩
              go_loopw [5] (fun j wr => ∃ u : Nat, u ≤ v ∧ j = .int .i64 u ∧ symAt zs v u = true ∧ Below (w.heap.size + 1) (w.alloc (.cells #[.int .i64 n, .slice (some ⟨b, off, none⟩) zs.length cap] 28)) wr) (fun j _ => v - (intOf j).toNat)
              case atStart => exact ⟨0, Nat.zero_le _, rfl, rfl, hB⟩
              case round =>
                clear hB b0 b1 G0
                obtain ⟨u, hu, rfl, hsa, hB⟩ := hrel
                have HA := Lib.hid hsa; clear hsa
                have G0 := (GBox.new (n := n) (cap := cap) hb hc'.out).below hB
                have b0 := G0.b0
                have b1 := G0.b1
                by_cases huv : (u : Int) < v
                · have hu62 : (u : Int) < 62 := by omega
                  have hul' : (u : Int) < zs.length := by omega
                  have hu0 : (0 : Int) ≤ u := by omega
                  have GD : GBox wr.drew w.heap.size n b off cap zs := G0.drewN 1
                  have BD : Below (w.heap.size + 1) (w.alloc (.cells #[.int .i64 n, .slice (some ⟨b, off, none⟩) zs.length cap] 28)) wr.drew := hB.drew
                  go_wp2_with fail
                  go_region_held3 (fun w' => w'.cell? ⟨w.heap.size, 0, none⟩ = some (.int .i64 n) ∧ w'.cell? ⟨w.heap.size, 1, none⟩ = some (.slice (some ⟨b, off, none⟩) zs.length cap))
                    (go_keep)
                    (first | (go_at_call 62; refine (has_rows n b off cap zs _ _ _ (GBox.lb (by assumption)) (GBox.cells (H := w.heap.size) (n := n) (cap := cap) (by assumption)) (by omega) (by omega) (by omega) (by omega) HZ.out).mono ?_; rintro e w2 ⟨rfl, hb2⟩; have hb3 := hb2.mono (GBox.lt (H := w.heap.size) (n := n) (b := b) (off := off) (cap := cap) (zs := zs) (by assumption)); have G2 : GBox w2 w.heap.size n b off cap zs := GBox.below (by assumption) hb3; have k0 := G2.b0; have k1 := G2.b1; have D2 : Below (w.heap.size + 1) (w.alloc (.cells #[.int .i64 n, .slice (some ⟨b, off, none⟩) zs.length cap] 28)) w2 := Below.trans (by assumption) hb3))
                  generalize hr : (bt (el zs v) u == bt (el zs u) v) = r
                  have HRR := Lib.hid hr
                  clear hr
                  cases r
                  · have e3 : isG n zs = false := isG_sym hvl (by omega) HRR.out
                    have E3 := Lib.hid e3; clear e3
                    go_wp2
                    go_ret
                    exact ⟨ret_bool E3.out.symm, ((Below.refl _ _).alloc (Nat.le_refl _) _).trans (D2.mono (by simp))⟩
                  · have HO : Hid (symAt zs v (u + 1) = true) := by show _ = _; rw [symAt_succ, HA.out, HRR.out]; rfl
                    go_wp2
                    go_roundw
                    case rel => exact ⟨u + 1, by omega, by go_num, HO.out, D2⟩
                    case measure => simp [intOf]; omega
                · have huv' : u = v := by omega
                  subst huv'
                  have HO : Hid (symTo zs (u + 1) = true) := by show _ = _; rw [symTo_succ, HS.out, HA.out]; rfl
                  go_wp2
                  go_roundw
                  case rel => exact ⟨u + 1, by omega, by go_num, HO.out, hB⟩
                  case measure => first | omega | (simp [intOf]; omega)
            · have hvl : v = zs.length := by have := H2.out; omega
              have e3 : isG n zs = true := isG_mk h1a h1b H2.out HR.out (by rw [← hvl]; exact HS.out)
              have E3 := Lib.hid e3; clear e3
              go_wp2
              go_ret
              exact ⟨ret_bool E3.out.symm, ((Below.refl _ _).alloc (Nat.le_refl _) _).trans (hB.mono (by simp))⟩
    · have e2 : ((zs.length : Int) != n) = true := by simpa using h2
      have e3 : isG n zs = false := by unfold isG; simp [h2]
      rw [e3]; clear e3 hc
      go_enter Tryd.func38, Tryd.ntmps38
      go_wp2_with (go_at_call 39; refine (in_any _ _ _ _).mono ?_; rintro e w' ⟨rfl, rfl⟩)
      go_ret
      exact ⟨rfl, (Below.refl _ _).alloc (Nat.le_refl _) _⟩
  · have e1 : (!(decide (1 ≤ n) && decide (n ≤ 62))) = true := by simp; omega
    have e3 : isG n zs = false := by unfold isG; simp; intro a b; exact absurd ⟨a, b⟩ h1
    rw [e3]; clear e3 hc
    go_enter Tryd.func38, Tryd.ntmps38
    go_wp2_with (go_at_call 39; refine (in_any _ _ _ _).mono ?_; rintro e w' ⟨rfl, rfl⟩)
    go_ret
    exact ⟨rfl, (Below.refl _ _).alloc (Nat.le_refl _) _⟩

set_option maxHeartbeats 400000 in
theorem l01Is_nil (n : Int) (a : Option Addr) (c : Nat) (w : World) :
    Calls Tryd.prog 38 #[.agg #[.int .i64 n, .slice a 0 c]] w fun e w' => e = .returned (.bool (isG n [])) ∧ Below w.heap.size w w' := by
  by_cases h1 : 1 ≤ n ∧ n ≤ 62
  · have e1 : (!(decide (1 ≤ n) && decide (n ≤ 62))) = false := by simp [h1]
    have e2 : ((0 : Int) != n) = true := by rw [bne_iff_ne]; omega
    have e3 : isG n [] = false := by unfold isG; simp; omega
    rw [e3]; clear e3
    go_enter Tryd.func38, Tryd.ntmps38
    go_wp2_with (go_at_call 39; refine (in_any _ _ _ _).mono ?_; rintro e w' ⟨rfl, rfl⟩)
    go_ret
    exact ⟨rfl, (Below.refl _ _).alloc (Nat.le_refl _) _⟩
  · have e1 : (!(decide (1 ≤ n) && decide (n ≤ 62))) = true := by simp; omega
    have e3 : isG n [] = false := by unfold isG; simp; omega
    rw [e3]; clear e3
    go_enter Tryd.func38, Tryd.ntmps38
    go_wp2_with (go_at_call 39; refine (in_any _ _ _ _).mono ?_; rintro e w' ⟨rfl, rfl⟩)
    go_ret
    exact ⟨rfl, (Below.refl _ _).alloc (Nat.le_refl _) _⟩

theorem l01Is_any (n : Int) (v : Value) (zs : List Int) (w : World) (h : Sl w v zs) (hl : zs.length ≤ 9223372036854775807) :
    Calls Tryd.prog 38 #[.agg #[.int .i64 n, v]] w fun e w' => e = .returned (.bool (isG n zs)) ∧ Below w.heap.size w w' := by
  rcases h with ⟨a, c, rfl, rfl⟩ | ⟨b, off, cap, rfl, hb, hc⟩
  · exact l01Is_nil n a c w
  · exact l01Is_some n b off cap zs w hb hc hl

end Go.Proofs.YtlodaeoikkjbkaaDoor
