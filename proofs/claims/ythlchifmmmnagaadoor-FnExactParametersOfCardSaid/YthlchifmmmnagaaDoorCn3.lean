/-
  spec.ParametersOf.
-/
import Derived.Test.YthlchifmmmnagaaDoorCn1
import Derived.Test.YthlchifmmmnagaaDoorDegR
import Derived.Test.YthlchifmmmnagaaDoorDegS
import Derived.BigQuiet
import Derived.Deep.QuietTactic
namespace Go.Proofs.YthlchifmmmnagaaDoor
set_option maxRecDepth 100000
open Go.RowKit Go.Shelf

theorem own4 (w : World) (x y z t : Int) {B : Nat} (hB : B ≤ w.heap.size) : Own (w.alloc (.cells #[.int .i64 x, .int .i64 y, .int .i64 z, .int .i64 t] 2)) B (.slice (some ⟨w.heap.size, 0, none⟩) 4 4) [x, y, z, t] :=
  ⟨by simp, .inr ⟨w.heap.size, 4, _, rfl, hB, World.alloc_heap_new w _, by simp, by decide, rfl, by simp⟩⟩
theorem one_set0 {w : World} {k : Nat} {x y a : Value} {t : TypeId} (h : w.heap[k]? = some (.cells #[x, y] t (0, 0))) : (w.setCell ⟨k, 0, none⟩ a).heap[k]? = some (.cells #[a, y] t (0, 0)) := heap_setCell_same w k 0 _ _ a h
theorem one_set1 {w : World} {k : Nat} {x y a : Value} {t : TypeId} (h : w.heap[k]? = some (.cells #[x, y] t (0, 0))) : (w.setCell ⟨k, 1, none⟩ a).heap[k]? = some (.cells #[x, a] t (0, 0)) := heap_setCell_same w k 1 _ _ a h
theorem wrap_yP (y : Nat) (h : y ≤ 62) : IntKind.u64.wrap (y : Int) = y := by rw [IntKind.wrap_u64]; omega

/-- What the degree alone says. -/
theorem pm_deg {zs : List Int} (hg : isG (zs.length : Int) zs = true) : (regV zs < 1 → okP zs = false) ∧ (regV zs = (zs.length : Int) - 1 → okP zs = false) ∧ (¬ regV zs < 1 → ¬ regV zs = (zs.length : Int) - 1 → regV zs = dg zs 0 ∧ same zs zs.length = true ∧ neB (kdL zs true) = true ∧ neB (kdL zs false) = true) := by
  obtain ⟨h1, h2, -, -, -⟩ := isG_parts hg
  cases hs : same zs zs.length with
  | false =>
    have e := okP_no1 hs
    have r := regV_no hs
    exact ⟨fun _ => e, fun _ => e, fun h => by omega⟩
  | true =>
    have r := regV_yes hs
    have he := edges_dg hg hs
    have ha := apart_dg hg hs
    refine ⟨fun h => ?_, fun h => ?_, fun q1 q2 => ⟨r, rfl, he.2 (by omega), ha.2 (by omega)⟩⟩
    · refine okP_no2 (kd := true) (cmB_no2 ?_)
      cases e : neB (kdL zs true) with
      | false => rfl
      | true => have := he.1 e; omega
    · refine okP_no2 (kd := false) (cmB_no2 ?_)
      cases e : neB (kdL zs false) with
      | false => rfl
      | true => exact absurd (by omega) (ha.1 e)

set_option maxHeartbeats 6400000 in
theorem specPm_yes (b off cap : Nat) (zs : List Int) (w : World) (hb : b < w.heap.size) (hc : Cells w b off zs) (hg : isG (zs.length : Int) zs = true) :
    Calls Tryd.prog 14 #[.agg #[.int .i64 zs.length, .slice (some ⟨b, off, none⟩) zs.length cap]] w fun e w' => LRes w.heap.size (PML zs.length zs) (PMC zs.length zs) e w' ∧ Below w.heap.size w w' := by
  obtain ⟨h1, h2, -, -, -⟩ := isG_parts hg
  have hl62 : zs.length ≤ 62 := by omega
  have D0 : Below w.heap.size w (w.alloc (.cells #[.int .i64 zs.length, .slice (some ⟨b, off, none⟩) zs.length cap] 26)) := (Below.refl _ _).alloc (Nat.le_refl _) _
  have his := l01Is_some zs.length b off cap zs _ (Nat.lt_of_lt_of_le hb D0.size) (hc.below D0 hb) (by omega)
  rw [hg] at his
  have HREG := Lib.hid (fun W (h : Below w.heap.size w W) => regular_some zs.length b off cap zs W (Nat.lt_of_lt_of_le hb h.size) (hc.below h hb) hg)
  have HG0 : Hid ((w.alloc (.cells #[.int .i64 zs.length, .slice (some ⟨b, off, none⟩) zs.length cap] 26)).heap[w.heap.size]? = some (.cells #[.int .i64 zs.length, .slice (some ⟨b, off, none⟩) zs.length cap] 26 (0, 0))) := World.alloc_heap_new w _
  have HCZ : Hid (∀ W, Below w.heap.size w W → Cells W b off zs) := fun W h => hc.below h hb
  have HROW := Lib.hid (isG_row_ok hg)
  have hpm : ∀ B : Bool, okP zs = B → PML zs.length zs = (if B then [(zs.length : Int), dg zs 0, cmR zs (kdL zs true), cmR zs (kdL zs false)] else []) ∧ PMC zs.length zs = if B then 0 else 4 := fun B e => by
    unfold PML PMC
    rw [e, hg]
    cases B <;> simp
  have HPM := Lib.hid hpm
  obtain ⟨LL, hLL⟩ : ∃ L, L = PML zs.length zs := ⟨_, rfl⟩
  obtain ⟨CC, hCC⟩ : ∃ C, C = PMC zs.length zs := ⟨_, rfl⟩
  rw [← hLL, ← hCC] at HPM ⊢
  obtain ⟨hd1, hd2, hd3⟩ := pm_deg hg
  have HG := Lib.hid hg
  obtain ⟨K, hK⟩ : ∃ K, K = regV zs := ⟨_, rfl⟩
  rw [← hK] at HREG hd1 hd2 hd3
  have HD1 := Lib.hid hd1; have HD2 := Lib.hid hd2; have HD3 := Lib.hid hd3
  have HD0 := Lib.hid D0
  clear hd1 hd2 hd3 hK hpm hLL hCC hg hc D0
  go_enter Tryd.func14, Tryd.ntmps14
  go_upto_region 1 with fail
  obtain ⟨Wz, hWz⟩ : ∃ Wz, Wz = w.alloc (.cells #[.int .i64 zs.length, .slice (some ⟨b, off, none⟩) zs.length cap] 26) := ⟨_, rfl⟩
  rw [← hWz] at HG0 HD0 his ⊢
  have sz : w.heap.size + 1 ≤ Wz.heap.size := by rw [hWz]; simp
  clear hWz
  obtain ⟨a0, a1, -, -⟩ := two_cells HG0.out
  go_upto_region 4 with (first
    | (go_at_call 35; refine his.mono ?_; rintro e w1 ⟨rfl, hb1⟩; have E1 : Hid (Below w.heap.size w w1) := HD0.out.trans (hb1.mono HD0.out.size); have HG1 := Lib.hid ((hb1.block w.heap.size (by omega)).trans HG0.out); have s1 := hb1.size; obtain ⟨b0, b1, -, -⟩ := two_cells HG1.out; clear hb1 a0 a1)
    | (go_at_call 36; refine (HREG.out w1 E1.out).mono ?_; rintro e w2 ⟨rfl, hb2⟩; have E2 : Hid (Below w.heap.size w w2) := E1.out.trans (hb2.mono E1.out.size); have HG2 := Lib.hid ((hb2.block w.heap.size (by omega)).trans HG1.out); have s2 := hb2.size; clear hb2 b0 b1))
  obtain ⟨Wc, hWc⟩ : ∃ Wc, Wc = w2.alloc (.cells #[.int .i64 (-1), .int .i64 (-1)] 2) := ⟨_, rfl⟩
  rw [← hWc]
  have sc : Wc.heap.size = w2.heap.size + 1 := by rw [hWc]; simp
  have HC3 : Hid (Wc.heap[w2.heap.size]? = some (.cells #[.int .i64 (-1), .int .i64 (-1)] 2 (0, 0))) := by rw [hWc]; exact World.alloc_heap_new w2 _
  have hb3 : Below w2.heap.size w2 Wc := by rw [hWc]; exact (Below.refl _ _).alloc (Nat.le_refl _) _
  have HG3 := Lib.hid ((hb3.block w.heap.size (by omega)).trans HG2.out)
  have E3 : Hid (Below w.heap.size w Wc) := E2.out.trans (hb3.mono E2.out.size)
  clear hWc hb3
  obtain ⟨k0, k1, -, -⟩ := two_cells HG3.out
  by_cases hk1 : K < 1
  · have HNO := Lib.hid (HPM.out _ (HD1.out hk1))
    obtain ⟨rfl, rfl⟩ := HNO.out
    go_wp2
    go_ret2
    exact ⟨⟨_, rfl, Own.nil _ _⟩, E3.out⟩
  by_cases hk2 : K = (zs.length : Int) - 1
  · have HNO := Lib.hid (HPM.out _ (HD2.out hk2))
    obtain ⟨rfl, rfl⟩ := HNO.out
    go_wp2
    go_ret2
    exact ⟨⟨_, rfl, Own.nil _ _⟩, E3.out⟩
  have HFK := Lib.hid (HD3.out (by omega) (by omega))
  -- LOOPS
  have HI0 : Hid (CI zs true 0 0 (-1)) := CI.start zs true
  have HJ0 : Hid (CI zs false 0 0 (-1)) := CI.start zs false
  go_wp2_with fail
  clear k0 k1
  go_loopw [6] (fun i wr => ∃ v : Nat, v ≤ zs.length ∧ i = .int .i64 v ∧ ∃ c0 c1 : Int, Hid (CI zs true v 0 c0) ∧ Hid (CI zs false v 0 c1) ∧ Hid (wr.heap[w2.heap.size]? = some (.cells #[.int .i64 c0, .int .i64 c1] 2 (0, 0))) ∧ Hid (Below w2.heap.size Wc wr)) (fun i _ => zs.length - (intOf i).toNat)
  case atStart => exact ⟨0, Nat.zero_le _, rfl, _, _, HI0, HJ0, HC3, Below.refl _ _⟩
  case round =>
    clear HI0 HJ0 HC3
    obtain ⟨v, hv, rfl, c0, c1, HI, HJ, HC, HB⟩ := hrel
    obtain ⟨k0, k1, -, -⟩ := two_cells ((HB.out.block w.heap.size (by omega)).trans HG3.out)
    by_cases hlt : v < zs.length
    · have hlti : (v : Int) < zs.length := by omega
      have hv0 : (0 : Int) ≤ v := by omega
      go_upto_region 10 with fail
      clear k0 k1
      go_loopw [7] (fun t wr => ∃ y : Nat, y ≤ v ∧ t = .int .i64 y ∧ ∃ c0 c1 : Int, Hid (CI zs true v y c0) ∧ Hid (CI zs false v y c1) ∧ Hid (wr.heap[w2.heap.size]? = some (.cells #[.int .i64 c0, .int .i64 c1] 2 (0, 0))) ∧ Hid (Below w2.heap.size Wc wr)) (fun t _ => v - (intOf t).toNat)
      case atStart => exact ⟨0, Nat.zero_le _, rfl, _, _, HI, HJ, HC, HB⟩
      case round =>
        clear HI HJ HC HB c0 c1
        obtain ⟨y, hy, rfl, c0, c1, HI, HJ, HC, HB⟩ := hrel
        by_cases hly : y < v
        · have hlyi : (y : Int) < v := by omega
          have hy0 : (0 : Int) ≤ y := by omega
          have hyn : (y : Int) < zs.length := by omega
          obtain ⟨m0, m1, -, -⟩ := two_cells ((HB.out.block w.heap.size (by omega)).trans HG3.out)
          obtain ⟨x0, x1, f0, f1⟩ := two_cells HC.out
          have hE := E3.out.trans (HB.out.mono (by omega))
          have hcv := HCZ.out wr hE v hlt
          have hcy := HCZ.out wr hE y (by omega)
          obtain ⟨hz1, hz2⟩ := HROW.out v hlt
          obtain ⟨hz3, hz4⟩ := HROW.out y (by omega)
          have hsh := shr_val (el zs v) y hz1 hz2
          have hwr := wrap_yP y (by omega)
          have HIP := Lib.hid (fun (hbt : bt (el zs v) y = true) (h : c0 < 0 ∨ c0 = cF zs (v, y)) => HI.out.put hly hbt h)
          have HJP := Lib.hid (fun (hbt : bt (el zs v) y = false) (h : c1 < 0 ∨ c1 = cF zs (v, y)) => HJ.out.put hly hbt h)
          have HIO := Lib.hid (fun (hbt : bt (el zs v) y = false) => HI.out.other hly hbt)
          have HJO := Lib.hid (fun (hbt : bt (el zs v) y = true) => HJ.out.other hly hbt)
          have HIB := Lib.hid (fun (hbt : bt (el zs v) y = true) (q1 : 0 ≤ c0) (q2 : c0 ≠ cF zs (v, y)) => okP_no2 (kd := true) (cmB_no1 (HI.out.bad HG.out hlt hly hbt q1 q2)))
          have HJB := Lib.hid (fun (hbt : bt (el zs v) y = false) (q1 : 0 ≤ c1) (q2 : c1 ≠ cF zs (v, y)) => okP_no2 (kd := false) (cmB_no1 (HJ.out.bad HG.out hlt hly hbt q1 q2)))
          clear HI HJ
          obtain ⟨n1, e1⟩ : ∃ x : Nat, el zs v = (x : Int) := ⟨(el zs v).toNat, by omega⟩
          obtain ⟨n2, e2⟩ : ∃ x : Nat, el zs y = (x : Int) := ⟨(el zs y).toNat, by omega⟩
          obtain ⟨C, hC⟩ : ∃ C, C = cF zs (v, y) := ⟨_, rfl⟩
          have hCp : pc (n1 &&& n2) = C := by rw [hC]; unfold cF; rw [e1, e2, Int.toNat_natCast, Int.toNat_natCast]
          rw [← hC] at HIP HJP HIB HJB
          clear hC
          rw [e1] at hcv hsh hz1 hz2 HIP HJP HIO HJO HIB HJB
          rw [e2] at hcy hz3 hz4
          clear e1 e2
          have hand := and_i64 n1 n2 (by omega) (by omega)
          have hal2 : n1 &&& n2 ≤ n1 := Nat.and_le_left
          have HBI := Lib.hid (fun W => bits_any ((n1 &&& n2 : Nat) : Int) W (by omega) (by omega))
          simp only [Int.toNat_natCast] at HBI
          rw [hCp] at HBI
          clear hCp hal2
          generalize n1 &&& n2 = n3 at *
          generalize bt (n1 : Int) y = bb at *
          cases bb with
          | false =>
            rw [show (if false = true then (1 : Int) else 0) = 0 from rfl] at hsh
            have hsub : IntKind.i64.wrap (1 - 0 : Int) = 1 := by rw [IntKind.wrap_i64]; omega
            have HNO2 := HIO.out rfl
            have HPT := HJP.out rfl
            have HBD := HJB.out rfl
            have HPT := Lib.hid HPT; have HBD := Lib.hid HBD; have HNO2 := Lib.hid HNO2
            clear HIP HJP HIO HJO HIB HJB
            go_wp2_with fail
            go_quiet ((go_at_call 37; exact qsame (HBI.out _)))
            by_cases q1 : c1 < 0
            · have q2 : ¬ (0 : Int) ≤ c1 := by omega
              have HNP := Lib.hid (HPT.out (.inl q1))
              go_wp2_with fail
              go_roundw
              case rel => exact ⟨y + 1, by omega, by go_num, c0, _, HNO2, HNP, one_set1 HC.out, (drewN_below HB.out _).setCell (p := ⟨w2.heap.size, 1, none⟩) (by simp) _⟩
              case measure => simp [intOf]; omega
            · have q2 : (0 : Int) ≤ c1 := by omega
              by_cases q3 : c1 = C
              · have HNP := Lib.hid (HPT.out (.inr q3))
                have hnb : (c1 != (C : Int)) = false := by rw [q3]; simp
                go_wp2_with fail
                go_roundw
                case rel => exact ⟨y + 1, by omega, by go_num, c0, _, HNO2, HNP, one_set1 HC.out, (drewN_below HB.out _).setCell (p := ⟨w2.heap.size, 1, none⟩) (by simp) _⟩
                case measure => simp [intOf]; omega
              · have hnb : (c1 != (C : Int)) = true := by simp; exact q3
                have HNO := Lib.hid (HPM.out _ (HBD.out q2 q3))
                obtain ⟨rfl, rfl⟩ := HNO.out
                go_wp2_with fail
                go_ret2
                exact ⟨⟨_, rfl, Own.nil _ _⟩, E3.out.trans ((drewN_below HB.out _).mono (show w.heap.size ≤ w2.heap.size by omega))⟩
          | true =>
            rw [show (if true = true then (1 : Int) else 0) = 1 from rfl] at hsh
            have hsub : IntKind.i64.wrap (1 - 1 : Int) = 0 := by rw [IntKind.wrap_i64]; omega
            have HNO2 := HJO.out rfl
            have HPT := HIP.out rfl
            have HBD := HIB.out rfl
            have HPT := Lib.hid HPT; have HBD := Lib.hid HBD; have HNO2 := Lib.hid HNO2
            clear HIP HJP HIO HJO HIB HJB
            go_wp2_with fail
            go_quiet ((go_at_call 37; exact qsame (HBI.out _)))
            by_cases q1 : c0 < 0
            · have q2 : ¬ (0 : Int) ≤ c0 := by omega
              have HNP := Lib.hid (HPT.out (.inl q1))
              go_wp2_with fail
              go_roundw
              case rel => exact ⟨y + 1, by omega, by go_num, _, c1, HNP, HNO2, one_set0 HC.out, (drewN_below HB.out _).setCell (p := ⟨w2.heap.size, 0, none⟩) (by simp) _⟩
              case measure => simp [intOf]; omega
            · have q2 : (0 : Int) ≤ c0 := by omega
              by_cases q3 : c0 = C
              · have HNP := Lib.hid (HPT.out (.inr q3))
                have hnb : (c0 != (C : Int)) = false := by rw [q3]; simp
                go_wp2_with fail
                go_roundw
                case rel => exact ⟨y + 1, by omega, by go_num, _, c1, HNP, HNO2, one_set0 HC.out, (drewN_below HB.out _).setCell (p := ⟨w2.heap.size, 0, none⟩) (by simp) _⟩
                case measure => simp [intOf]; omega
              · have hnb : (c0 != (C : Int)) = true := by simp; exact q3
                have HNO := Lib.hid (HPM.out _ (HBD.out q2 q3))
                obtain ⟨rfl, rfl⟩ := HNO.out
                go_wp2_with fail
                go_ret2
                exact ⟨⟨_, rfl, Own.nil _ _⟩, E3.out.trans ((drewN_below HB.out _).mono (show w.heap.size ≤ w2.heap.size by omega))⟩
        · obtain rfl : y = v := by omega
          have HI5 : Hid (CI zs true (y + 1) 0 c0) := HI.out.row
          have HJ5 : Hid (CI zs false (y + 1) 0 c1) := HJ.out.row
          clear HI HJ
          go_wp2_with fail
          go_roundw
          case rel => exact ⟨y + 1, by omega, by go_num, c0, c1, HI5, HJ5, HC, HB⟩
          case measure => simp [intOf]; omega
    · obtain rfl : v = zs.length := by omega
      obtain ⟨e1, e2, e3, e4⟩ := HFK.out
      obtain ⟨r1, r2⟩ := HI.out.whole HG.out e3
      obtain ⟨r3, r4⟩ := HJ.out.whole HG.out e4
      have HOK := Lib.hid (HPM.out _ (okP_yes e2 r2 r4))
      rw [← e1, ← r1, ← r3] at HOK
      obtain ⟨rfl, rfl⟩ := HOK.out
      obtain ⟨x0, x1, f0, f1⟩ := two_cells HC.out
      clear e1 e2 e3 e4 r1 r2 r3 r4 HI HJ
      go_wp2_with fail
      go_region
      all_goals
        go_wp2_with fail
        go_ret2
        exact ⟨⟨_, rfl, own4 wr _ _ _ _ (by have := HB.out.size; omega)⟩, ((E3.out.trans (HB.out.mono (by omega))).alloc (by have := HB.out.size; omega) _).drew⟩

set_option maxHeartbeats 400000 in
theorem specPm_no (n : Int) (v : Value) (zs : List Int) (w : World) (h : Sl w v zs) (hg : isG n zs = false) (hl : zs.length ≤ 9223372036854775807) :
    Calls Tryd.prog 14 #[.agg #[.int .i64 n, v]] w fun e w' => LRes w.heap.size [] 1 e w' ∧ Below w.heap.size w w' := by
  have D0 : Below w.heap.size w (w.alloc (.cells #[.int .i64 n, v] 26)) := (Below.refl _ _).alloc (Nat.le_refl _) _
  have his := l01Is_any n v zs _ (h.below D0) hl
  rw [hg] at his
  clear hg h
  go_enter Tryd.func14, Tryd.ntmps14
  go_wp2_with (go_at_call 35; refine his.mono ?_; rintro e w1 ⟨rfl, hb1⟩)
  go_ret2
  exact ⟨⟨_, rfl, Own.nil _ _⟩, D0.trans (hb1.mono (by simp))⟩

theorem specPm_any (n : Int) (v : Value) (zs : List Int) (w : World) (h : Sl w v zs) (hl : zs.length ≤ 9223372036854775807) :
    Calls Tryd.prog 14 #[.agg #[.int .i64 n, v]] w fun e w' => LRes w.heap.size (PML n zs) (PMC n zs) e w' ∧ Below w.heap.size w w' := by
  cases hg : isG n zs
  · rw [show PML n zs = [] by simp [PML, hg], show PMC n zs = 1 by simp [PMC, hg]]
    exact specPm_no n v zs w h hg hl
  · obtain ⟨b, off, cap, rfl, hb, hc⟩ := sl_some h (by have := (isG_parts hg).2.2.1; have := (isG_parts hg).1; omega)
    obtain rfl := (isG_parts hg).2.2.1
    exact specPm_yes b off cap zs w hb hc hg
end Go.Proofs.YthlchifmmmnagaaDoor
