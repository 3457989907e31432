/-
  spec.l02Around.
-/
import Derived.Test.YtibpnemeehkdbaaDoorFe7
namespace Go.Proofs.YtibpnemeehkdbaaDoor
set_option maxRecDepth 100000
set_option maxRecDepth 100000
open Go.RowKit

/-- The length of the shortest cycle with an edge as the model tells it: 0 for none. -/
def arL (zs : List Int) (a b : Nat) : Int := if 0 ≤ cyD zs a (2 ^ b) b then cyD zs a (2 ^ b) b + 1 else 0

set_option maxHeartbeats 3200000 in
theorem around_some (b off cap : Nat) (zs : List Int) (v e : Nat) (w : World) (hb : b < w.heap.size) (hc : Cells w b off zs) (hg : isG zs.length zs = true) (hv : v < zs.length) (he : e < zs.length) :
    Calls Tryd.prog 42 #[.agg #[.int .i64 zs.length, .slice (some ⟨b, off, none⟩) zs.length cap], .int .i64 v, .int .i64 e] w fun ed w' => (∃ c : Int, ed = .returned (.tuple #[.int .i64 (arL zs v e), .int .i64 c])) ∧ Below w.heap.size w w' := by
  obtain ⟨p1, p2, -, -, -⟩ := isG_parts hg
  have hm62 : zs.length ≤ 62 := by omega
  have D0 : Below w.heap.size w (w.alloc (.cells #[.int .i64 zs.length, .slice (some ⟨b, off, none⟩) zs.length cap] 28)) := (Below.refl _ _).alloc (Nat.le_refl _) _
  have hfr := fromE_some b off cap zs v e _ (Nat.lt_of_lt_of_le hb D0.size) (hc.below D0 hb) hg hv
  have HG0 := Lib.hid (GBox.new (n := zs.length) (cap := cap) hb hc)
  have HZ := Lib.hid (isG_row_ok hg)
  have HDE : Hid (el (dsE zs v e) e = cyD zs v (2 ^ e) e) := dsE_end hv he
  have HDB : Hid (∀ y, y < zs.length → -1 ≤ el (dsE zs v e) y ∧ el (dsE zs v e) y < zs.length) := fun y hy => by
    rw [dsE_at hy]; exact dOf_bd hv
  have HLN := Lib.hid (dsE_length zs v e)
  have hAR : Hid (arL zs v e = if 0 ≤ el (dsE zs v e) e then el (dsE zs v e) e + 1 else 0) := by show _ = _; rw [HDE.out]; rfl
  obtain ⟨R, hR⟩ : ∃ R, R = arL zs v e := ⟨_, rfl⟩
  rw [← hR] at hAR ⊢
  have HR1 : Hid (el (dsE zs v e) e < 0 → R = 0) := fun h => by rw [hAR.out, if_neg (by omega)]
  have HR2 : Hid (0 ≤ el (dsE zs v e) e → R = el (dsE zs v e) e + 1) := fun h => by rw [hAR.out, if_pos h]
  clear hR
  generalize dsE zs v e = Dl at *
  have HD0 := Lib.hid D0
  have HXX : Hid (∀ x, x < zs.length → bt (el zs x) x = false) := fun x hx => ((isG_iff.1 hg).2.2.2.1 x hx).2.2
  clear hc hg HDE hAR D0
  go_enter Tryd.func42, Tryd.ntmps42
  go_wp2_with fail
  refine hfr.mono ?_
  rintro ed w1 ⟨u, rfl, hO, hb1⟩
  obtain ⟨gd, cd, rfl, hg1, hg2⟩ := own_some9 hO HLN.out (by omega)
  have HO := Lib.hid hO
  have G1 := Lib.hid (HG0.out.below (hb1.mono (by simp)))
  have HB1 := Lib.hid (HD0.out.trans (hb1.mono HD0.out.size))
  have s1 : w.heap.size + 1 ≤ w1.heap.size := by have := hb1.size; simpa using this
  have hce := own_cells9 hO HLN.out e (by rw [HLN.out]; exact he)
  rw [Nat.zero_add] at hce
  have he0 : (0 : Int) ≤ e := by omega
  have hel : (e : Int) < zs.length := by omega
  have hv0 : (0 : Int) ≤ v := by omega
  have hvl : (v : Int) < zs.length := by omega
  obtain ⟨hdb0, hdb1⟩ := HDB.out e he
  obtain ⟨de, hde⟩ : ∃ de, de = el Dl e := ⟨_, rfl⟩
  rw [← hde] at hce hdb0 hdb1 HR1 HR2
  have HDEE := Lib.hid hde
  clear hO hb1 hfr HG0 hde
  by_cases hneg : de < 0
  · have HR := Lib.hid (HR1.out hneg)
    clear HR1 HR2
    go_wp2
    go_ret2
    exact ⟨⟨0, by rw [HR.out]; rfl⟩, HB1.out⟩
  · have HR := Lib.hid (HR2.out (by omega))
    clear HR1 HR2
    have b0 := G1.out.b0
    have b1 := G1.out.b1
    have hwr : IntKind.i64.wrap (de + 1) = de + 1 := IntWalk.i64_in _ (by omega)
    have hmk := run_mkInts zs.length (by omega) w1
    obtain ⟨Wz, hWz⟩ : ∃ Wz, Wz = w1.alloc (.cells ((intsA (List.replicate zs.length 0)).setIfInBounds v (.int .i64 1)) 2) := ⟨_, rfl⟩
    have K1 : Blk (w1.alloc (.cells (intsA (List.replicate zs.length 0)) 2)) w1.heap.size (List.replicate zs.length 0) := Blk.new w1 (List.replicate zs.length 0)
    have K2 : Hid (Blk Wz w1.heap.size ((List.replicate zs.length 0).set v 1)) := by
      show Blk _ _ _
      have h := Blk.new w1 ((List.replicate zs.length (0 : Int)).set v 1)
      have ha : intsA ((List.replicate zs.length (0 : Int)).set v 1) = (intsA (List.replicate zs.length 0)).setIfInBounds v (.int .i64 1) := by
        refine Array.ext' ?_
        simp [intsA, List.map_set]
      rw [ha] at h
      rw [hWz]; exact h
    have Bz : Hid (Below w1.heap.size w1 Wz) := by
      show Below _ _ _
      rw [hWz]; exact (Below.refl _ _).alloc (Nat.le_refl _) _
    have kc := K1.cell (show v < (List.replicate zs.length (0 : Int)).length by rw [List.length_replicate]; exact hv)
    have kf := K1.frozen v
    clear K1
    go_wp2_with fail
    rw [← hWz]
    clear hWz kc kf hmk b0 b1 hce
    have HFX : Hid (∀ W, Below w1.heap.size w1 W → ∀ x : Nat, x < zs.length → W.cell? ⟨gd, x, none⟩ = some (.int .i64 (el Dl x)) ∧ W.cell? ⟨w.heap.size, 0, none⟩ = some (.int .i64 zs.length) ∧ W.cell? ⟨w.heap.size, 1, none⟩ = some (.slice (some ⟨b, off, none⟩) zs.length cap) ∧ W.cell? ⟨b, off + x, none⟩ = some (.int .i64 (el zs x))) := fun W hW x hx => by
      have h1 := own_cells9 (HO.out.below hW) HLN.out x (by rw [HLN.out]; exact hx)
      rw [Nat.zero_add] at h1
      have hGW := G1.out.below (hW.mono s1)
      exact ⟨h1, hGW.b0, hGW.b1, hGW.cells x hx⟩
    clear HO G1 hg1
    go_loopw [10] (fun d wr => ∃ (dn : Nat) (L : List Int), (dn : Int) ≤ de + 1 ∧ d = .int .i64 dn ∧ L.length = zs.length ∧ Hid (Blk wr w1.heap.size L) ∧ Below w1.heap.size w1 wr) (fun d _ => (de + 1 - intOf d).toNat)
    case atStart => exact ⟨0, _, by omega, rfl, by rw [List.length_set, List.length_replicate], K2, Bz.out⟩
    case round =>
      clear K2 Bz
      obtain ⟨dn, L, hdn, rfl, hLl, HK, hE⟩ := hrel
      obtain ⟨c0, b0, b1, -⟩ := HFX.out _ hE e he
      rw [← HDEE.out] at c0
      by_cases hlt : (dn : Int) < de
      · have hd0 : (0 : Int) ≤ dn := by omega
        have hwd : IntKind.i64.wrap ((dn : Int) + 1) = (dn : Int) + 1 := IntWalk.i64_in _ (by omega)
        go_wp2_with fail
        clear c0 b0 b1
        obtain ⟨wo, rfl⟩ : ∃ wo : World, wo = wr := ⟨_, rfl⟩
        go_loopw [11] (fun t wr => ∃ (x : Nat) (L : List Int), x ≤ zs.length ∧ t = .int .i64 x ∧ L.length = zs.length ∧ Hid (Blk wr w1.heap.size L) ∧ Below w1.heap.size w1 wr) (fun t _ => zs.length - (intOf t).toNat)
        case atStart => exact ⟨0, L, Nat.zero_le _, rfl, hLl, HK, hE⟩
        case round =>
          clear HK hE hLl
          obtain ⟨x, L, hx, rfl, hLl, HK, hE⟩ := hrel
          obtain ⟨-, b0, b1, -⟩ := HFX.out _ hE e he
          by_cases hxl : (x : Int) < zs.length
          · have hxn : x < zs.length := by omega
            have hx0 : (0 : Int) ≤ x := by omega
            go_wp2_with fail
            clear b0 b1
            obtain ⟨wp, rfl⟩ : ∃ wp : World, wp = wr := ⟨_, rfl⟩
            go_loopw [12] (fun t wr => ∃ (y : Nat) (L : List Int), y ≤ zs.length ∧ t = .int .i64 y ∧ L.length = zs.length ∧ Hid (Blk wr w1.heap.size L) ∧ Below w1.heap.size w1 wr) (fun t _ => zs.length - (intOf t).toNat)
            case atStart => exact ⟨0, L, Nat.zero_le _, rfl, hLl, HK, hE⟩
            case round =>
              clear HK hE hLl
              obtain ⟨y, L, hy, rfl, hLl, HK, hE⟩ := hrel
              obtain ⟨cx, b0, b1, rx⟩ := HFX.out _ hE x hxn
              obtain ⟨dx, hdx⟩ : ∃ dx, dx = el Dl x := ⟨_, rfl⟩
              rw [← hdx] at cx
              clear hdx
              by_cases hyl : (y : Int) < zs.length
              · have hyn : y < zs.length := by omega
                have hy0 : (0 : Int) ≤ y := by omega
                have hy62 : (y : Int) ≤ 61 := by omega
                obtain ⟨cy, -, -, -⟩ := HFX.out _ hE y hyn
                obtain ⟨dy, hdy⟩ : ∃ dy, dy = el Dl y := ⟨_, rfl⟩
                rw [← hdy] at cy
                clear hdy
                obtain ⟨hb0, hb1⟩ := HZ.out x hxn
                have bit := shr_bit (el zs x) y hb0 hb1
                have k0 := HK.out.cell (show x < L.length by omega)
                have k1 := HK.out.cell (show y < L.length by omega)
                have f1 := HK.out.frozen y
                obtain ⟨lx, hlx⟩ : ∃ lx, lx = el L x := ⟨_, rfl⟩
                obtain ⟨ly, hly⟩ : ∃ ly, ly = el L y := ⟨_, rfl⟩
                rw [← hlx] at k0
                rw [← hly] at k1
                obtain ⟨sv, hsv⟩ : ∃ sv, IntKind.i64.wrap (ly + lx) = sv := ⟨_, rfl⟩
                have HKS : Hid (Blk (wr.setCell ⟨w1.heap.size, y, none⟩ (.int .i64 sv)) w1.heap.size (L.set y sv)) := HK.out.set y sv
                have hES := Lib.hid (hE.setCell (p := ⟨w1.heap.size, y, none⟩) (by simp) (.int .i64 sv))
                have HKD : Hid (Blk (wr.setCell ⟨w1.heap.size, y, none⟩ (.int .i64 sv)).drew w1.heap.size (L.set y sv)) := HKS.out
                have HED := Lib.hid hES.out.drew
                have hLS : Hid ((L.set y sv).length = zs.length) := by show _ = _; rw [List.length_set]; exact hLl
                have HE := Lib.hid hE
                have hanew0 : x ≠ y → (wr.setCell ⟨w1.heap.size, y, none⟩ (.int .i64 sv)).drew.cell? ⟨w1.heap.size, x, none⟩ = some (.int .i64 lx) := fun hne => by
                  have h := HKS.out.cell (show x < (L.set y sv).length by rw [List.length_set]; omega)
                  rw [elSet_ne hne, ← hlx] at h
                  exact h
                have HAN := Lib.hid hanew0
                clear hlx hly hE hb0 hb1 hanew0
                cases hq1 : (dx == (dn : Int)) with
                | false =>
                  clear bit HKS hES hLS HKD HED
                  go_wp2_with fail
                  go_roundw
                  case rel => exact ⟨x + 1, L, by omega, by go_num, hLl, HK, HE.out⟩
                  case measure => simp [intOf]; omega
                | true =>
                  cases hbt : bt (el zs x) y with
                  | false =>
                    rw [hbt] at bit
                    clear hbt HKS hES hLS HKD HED
                    go_wp2_with fail
                    go_roundw
                    case rel => exact ⟨y + 1, L, by omega, by go_num, hLl, HK, HE.out⟩
                    case measure => simp [intOf]; omega
                  | true =>
                    rw [hbt] at bit
                    have hxy : x ≠ y := fun e1 => by rw [← e1, HXX.out x hxn] at hbt; cases hbt
                    have hyx : ¬ y = x := fun e1 => hxy e1.symm
                    have hanew := HAN.out hxy
                    clear hbt
                    cases hq2 : (dy == (dn : Int) + 1) with
                    | false =>
                      clear HKS hES hLS HKD HED
                      go_wp2_with fail
                      go_roundw
                      case rel => exact ⟨y + 1, L, by omega, by go_num, hLl, HK, HE.out⟩
                      case measure => simp [intOf]; omega
                    | true =>
                      cases hq3 : ((x : Int) == (v : Int)) <;> cases hq4 : ((y : Int) == (e : Int))
                      all_goals go_wp2_with fail
                      all_goals first | go_region | skip
                      all_goals try go_wp2_with fail
                      all_goals go_roundw
                      all_goals first
                        | exact ⟨y + 1, L, by omega, by go_num, hLl, HK, HE.out⟩
                        | exact ⟨y + 1, _, by omega, by go_num, hLS.out, HKD, HED.out⟩
                        | (simp [intOf]; omega)
              · have hyn : y = zs.length := by omega
                clear cx
                go_wp2_with fail
                go_roundw
                case rel => exact ⟨x + 1, L, by omega, by go_num, hLl, HK, hE⟩
                case measure => simp [intOf]; omega
          · go_wp2_with fail
            go_roundw
            case rel => exact ⟨dn + 1, L, by omega, by go_num, hLl, HK, hE⟩
            case measure => simp [intOf]; omega
      · have k1 := HK.out.cell (show e < L.length by omega)
        have hEF := Lib.hid (HB1.out.trans (hE.mono HB1.out.size))
        generalize el L e = le at k1
        go_wp2_with fail
        go_region_held3 (fun w' => w'.cell? ⟨gd, e, none⟩ = some (.int .i64 de) ∧ w'.cell? ⟨w1.heap.size, e, none⟩ = some (.int .i64 le)) (go_keep) (fail)
        all_goals go_wp2_with fail
        all_goals go_ret2
        all_goals exact ⟨⟨le, by rw [HR.out]; rfl⟩, hEF.out.drew⟩
end Go.Proofs.YtibpnemeehkdbaaDoor
