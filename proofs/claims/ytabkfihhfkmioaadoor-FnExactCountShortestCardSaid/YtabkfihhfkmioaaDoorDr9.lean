/-
  CountShortest of both programs. (gen/mk_dr9.py)
-/
import Derived.Test.YtabkfihhfkmioaaDoorDq9
namespace Go.Proofs.YtabkfihhfkmioaaDoor
set_option maxRecDepth 100000
open Go.RowKit

theorem wrap_twice (z : Int) : IntKind.i64.wrap (IntKind.i64.wrap z) = IntKind.i64.wrap z := by rw [IntKind.wrap_i64, IntKind.wrap_i64]; omega
theorem sT_in (zs : List Int) (G : Int) (q : List (Nat × Nat)) : IntKind.i64.wrap (sT zs G q) = sT zs G q := by
  unfold sT
  have key : ∀ (q : List (Nat × Nat)) (s : Int), IntKind.i64.wrap s = s → IntKind.i64.wrap (q.foldl (fun s p => IntKind.i64.wrap (s + ctN zs p.1 p.2 G)) s) = q.foldl (fun s p => IntKind.i64.wrap (s + ctN zs p.1 p.2 G)) s := by
    intro q
    induction q with
    | nil => intro s hs; exact hs
    | cons p q ih => intro s _; exact ih _ (wrap_twice _)
  exact key q 0 (IntWalk.i64_in 0 (by omega))
/-- One more edge, as the model counts. -/
theorem sT_step {zs : List Int} {G : Int} (h3 : 3 ≤ G) (q : List (Nat × Nat)) (x y : Nat) :
    (arL zs x y = G → sT zs G (q ++ [(x, y)]) = IntKind.i64.wrap (sT zs G q + awN zs x y)) ∧ (arL zs x y ≠ G → sT zs G (q ++ [(x, y)]) = sT zs G q) := by
  rw [sT_snoc]
  show (_ → IntKind.i64.wrap (sT zs G q + ctN zs x y G) = _) ∧ _
  have hc : (arL zs x y = G → ctN zs x y G = awN zs x y) ∧ (arL zs x y ≠ G → ctN zs x y G = 0) := by
    unfold arL ctN awN
    generalize cyD zs x (2 ^ y) = D
    by_cases e : 0 ≤ D y
    · rw [if_pos e, if_pos e]
      exact ⟨fun h => by rw [if_pos h], fun h => by rw [if_neg h]⟩
    · rw [if_neg e, if_neg e]
      exact ⟨fun h => by omega, fun h => by rw [if_neg (by omega)]⟩
  refine ⟨fun h => by rw [hc.1 h], fun h => ?_⟩
  show IntKind.i64.wrap (sT zs G q + ctN zs x y G) = sT zs G q
  rw [hc.2 h, Int.add_zero, sT_in]

def csA (n : Int) (zs : List Int) : Int := if isG n zs then csN zs else 0

set_option maxHeartbeats 1600000 in
theorem implCs_no (n : Int) (v : Value) (zs : List Int) (w : World) (h : Sl w v zs) (hl : zs.length ≤ 9223372036854775807) (hT : Tab w) (hC : goCA n zs ≠ 0) :
    Calls Tryd.prog 36 #[.agg #[.int .i64 n, v]] w fun e w' => e = .returned (.tuple #[.int .i64 0, .int .i64 (goCA n zs)]) ∧ Below w.heap.size w w' := by
  have D0 : Below w.heap.size w (w.alloc (.cells #[.int .i64 n, v] 26)) := (Below.refl _ _).alloc (Nat.le_refl _) _
  have hgi := implGi_any n v zs _ (h.below D0) hl (hT.belowAll D0)
  generalize goCA n zs = C at *
  have hCb : (C != 0) = true := by rw [bne_iff_ne]; exact hC
  clear h hT
  go_enter Tryd.func36, Tryd.ntmps36
  go_wp2_with (go_at_call 88; refine hgi.mono ?_; rintro e w1 ⟨rfl, hb1⟩)
  have s1 : w.heap.size < w1.heap.size := by have := hb1.size; simp at this; omega
  go_ret2
  exact ⟨rfl, (D0.trans (hb1.mono (by simp))).alloc (by omega) _⟩

set_option maxHeartbeats 3200000 in
theorem specCs_in (b off cap : Nat) (zs : List Int) (w : World) (h : Sl w (.slice (some ⟨b, off, none⟩) zs.length cap) zs) (hb : b < w.heap.size) (hc : Cells w b off zs) (hg : isG zs.length zs = true) (hne : gF zs (edL zs) ≠ 63) :
    Calls Tryd.prog 35 #[.agg #[.int .i64 zs.length, .slice (some ⟨b, off, none⟩) zs.length cap]] w fun e w' => e = .returned (.tuple #[.int .i64 (csN zs), .int .i64 0]) ∧ Below w.heap.size w w' := by
  obtain ⟨p1, p2, -, -, -⟩ := isG_parts hg
  have hm62 : zs.length ≤ 62 := by omega
  have D0 : Below w.heap.size w (w.alloc (.cells #[.int .i64 zs.length, .slice (some ⟨b, off, none⟩) zs.length cap] 26)) := (Below.refl _ _).alloc (Nat.le_refl _) _
  have his := l01Is_any zs.length _ zs _ (h.below D0) (by omega)
  rw [hg] at his
  have HZ := Lib.hid (isG_row_ok hg)
  have HZ2 : Hid (∀ k, k < zs.length → (el zs k).toNat < 2 ^ zs.length) := fun k hk => ((isG_iff.1 hg).2.2.2.1 k hk).2.1
  have h3 : 3 ≤ gF zs (edL zs) := gF_le.2 ⟨by omega, fun p hp => by
    have := edL_lt hp HZ2.out
    exact cyc_ge (by omega) (by omega)⟩
  have HF : Hid (∀ W, Below w.heap.size w W → Calls Tryd.prog 86 #[.agg #[.int .i64 zs.length, .slice (some ⟨b, off, none⟩) zs.length cap], .int .i64 (-1)] W fun e w' => e = .returned (.int .i64 (gF zs (edL zs))) ∧ Below W.heap.size W w') := fun W hW => by
    have h := girthS_some b off cap zs W (Nat.lt_of_lt_of_le hb hW.size) (hc.below hW hb) hg
    unfold goN at h
    rw [if_neg hne] at h
    exact h
  have HAW : Hid (∀ (W : World) (x y : Nat), Below w.heap.size w W → x < zs.length → y < zs.length → Calls Tryd.prog 87 #[.agg #[.int .i64 zs.length, .slice (some ⟨b, off, none⟩) zs.length cap], .int .i64 x, .int .i64 y] W fun ed w' => ed = .returned (.tuple #[.int .i64 (arL zs x y), .int .i64 (awN zs x y)]) ∧ Below W.heap.size W w') := fun W x y h hx hy => aroundW_some b off cap zs x y W (Nat.lt_of_lt_of_le hb h.size) (hc.below h hb) hg hx hy
  have HC0 := Lib.hid hc
  have HCS : Hid (csN zs = wrap64 (Int.tdiv (sT zs (gF zs (edL zs)) (edL zs)) (gF zs (edL zs)))) := by
    show _ = _
    unfold csN
    rw [if_neg hne]
  have HR0 := Lib.hid (World.alloc_heap_new w (.cells #[.int .i64 zs.length, .slice (some ⟨b, off, none⟩) zs.length cap] 26))
  have HFIN : Hid (sT zs (gF zs (edL zs)) (edP zs zs.length) = sT zs (gF zs (edL zs)) (edL zs)) := rfl
  generalize gF zs (edL zs) = G at *
  have HST := Lib.hid (fun q x y => sT_step (zs := zs) h3 q x y)
  have HS0 : Hid (sT zs G (edP zs 0) = 0) := rfl
  have hG0 : (G == 0) = false := by rw [beq_eq_false_iff_ne]; omega
  obtain ⟨CN, hCN⟩ : ∃ CN, CN = csN zs := ⟨_, rfl⟩
  rw [← hCN] at HCS ⊢
  have hp0 : 0 < zs.length := by omega
  have HD0 := Lib.hid D0
  clear h hc hg hCN D0 hne
  go_enter Tryd.func35, Tryd.ntmps35
  go_wp2_with (first
    | (go_at_call 78; refine his.mono ?_; rintro e w1 ⟨rfl, hb1⟩; have HX1 := Lib.hid ((hb1.block w.heap.size (by simp)).trans HR0.out); obtain ⟨b0, b1, -, -⟩ := two_cells HX1.out; have HB1 := Lib.hid (HD0.out.trans (hb1.mono (by simp))); clear hb1)
    | (go_at_call 86; refine (HF.out _ HB1.out).mono ?_; rintro e w2 ⟨rfl, hb2⟩; have HX2 := Lib.hid ((hb2.block w.heap.size (Array.getElem?_eq_some_iff.1 HX1.out).1).trans HX1.out); have HB2 := Lib.hid (HB1.out.trans (hb2.mono HB1.out.size)); clear hb2))
  have s2 : w.heap.size < w2.heap.size := (Array.getElem?_eq_some_iff.1 HX2.out).1
  have HFX : Hid (∀ W, Below w2.heap.size w2 W → ∀ x : Nat, x < zs.length → W.cell? ⟨w.heap.size, 0, none⟩ = some (.int .i64 zs.length) ∧ W.cell? ⟨w.heap.size, 1, none⟩ = some (.slice (some ⟨b, off, none⟩) zs.length cap) ∧ W.cell? ⟨b, off + x, none⟩ = some (.int .i64 (el zs x))) := fun W hW x hx => by
    obtain ⟨q0, q1, -, -⟩ := two_cells ((hW.block _ s2).trans HX2.out)
    exact ⟨q0, q1, (HC0.out.below (HB2.out.trans (hW.mono HB2.out.size)) hb) x hx⟩
  have HDB : Hid (∀ W, Below w2.heap.size w2 W → Below w.heap.size w W) := fun W hW => HB2.out.trans (hW.mono HB2.out.size)
  clear HX1 HX2 HB1 HD0 HR0 HF his b0 b1
  go_loopw [5, 6] (fun o i wr => ∃ (k : Nat) (t : Int), k ≤ zs.length ∧ o = .int .i64 t ∧ i = .int .i64 k ∧ Hid (t = sT zs G (edP zs k)) ∧ Below w2.heap.size w2 wr) (fun _ i _ => zs.length - (intOf i).toNat)
  case atStart => exact ⟨0, 0, Nat.zero_le _, rfl, rfl, HS0.out.symm, Below.refl _ _⟩
  case round =>
    clear HS0
    obtain ⟨k, t, hk, rfl, rfl, HT, hE⟩ := hrel
    obtain ⟨b0, b1, -⟩ := HFX.out _ hE 0 hp0
    by_cases hlt : (k : Int) < zs.length
    · have hkl : k < zs.length := by omega
      have hk0 : (0 : Int) ≤ k := by omega
      have HT1 : Hid (t = sT zs G (edW zs k (k + 1))) := by show _ = _; rw [edW_start]; exact HT.out
      go_wp2_with fail
      clear b0 b1 HT
      obtain ⟨wo, rfl⟩ : ∃ wo : World, wo = wr := ⟨_, rfl⟩
      go_loopw [5, 7, 8, 9] (fun o i _ _ wr => ∃ (y : Nat) (t : Int), k < y ∧ y ≤ zs.length ∧ o = .int .i64 t ∧ i = .int .i64 y ∧ Hid (t = sT zs G (edW zs k y)) ∧ Below w2.heap.size w2 wr) (fun _ i _ _ _ => zs.length - (intOf i).toNat)
      case atStart => exact ⟨k + 1, t, by omega, by omega, rfl, by go_num, HT1, hE⟩
      case round =>
        clear HT1 hE
        obtain ⟨y, t, hky, hy, rfl, rfl, HT, hE⟩ := hrel
        obtain ⟨b0, b1, rk⟩ := HFX.out _ hE k hkl
        have hs := hE.size
        by_cases hly : (y : Int) < zs.length
        · have hyl : y < zs.length := by omega
          have hy0 : (0 : Int) ≤ y := by omega
          have hy62 : (y : Int) ≤ 61 := by omega
          obtain ⟨hb0, hb1⟩ := HZ.out k hkl
          have bit0 := bit_zero (el zs k) y hb0 hb1
          clear hb0 hb1
          cases hbt : bt (el zs k) y with
          | true =>
            rw [hbt] at bit0
            have HSN := Lib.hid (HST.out (edW zs k y) k y)
            rw [← edW_yes hky hbt, ← HT.out] at HSN
            have har := HAW.out wr k y (HDB.out _ hE) hkl hyl
            obtain ⟨AR, ha⟩ : ∃ AR, AR = arL zs k y := ⟨_, rfl⟩
            obtain ⟨AN, hn⟩ : ∃ AN, AN = awN zs k y := ⟨_, rfl⟩
            rw [← ha, ← hn] at har HSN
            clear hbt HT ha hn
            by_cases e : AR = G
            · have e' : (AR == G) = true := by simpa using e
              obtain ⟨SV, hsv⟩ : ∃ SV, IntKind.i64.wrap (t + AN) = SV := ⟨_, rfl⟩
              have HN : Hid (SV = sT zs G (edW zs k (y + 1))) := by show _ = _; rw [← hsv, HSN.out.1 e]
              clear HSN e
              go_wp2_with (go_at_call 87; refine har.mono ?_; rintro ed w3 ⟨rfl, hb3⟩; have hE3 := hE.trans (hb3.mono (by omega)))
              go_roundw
              case rel => exact ⟨y + 1, SV, by omega, by omega, rfl, by go_num, HN, hE3⟩
              case measure => simp [intOf]; omega
            · have e' : (AR == G) = false := by simpa using e
              have HN : Hid (t = sT zs G (edW zs k (y + 1))) := by show _ = _; rw [HSN.out.2 e]
              clear HSN e
              go_wp2_with (go_at_call 87; refine har.mono ?_; rintro ed w3 ⟨rfl, hb3⟩; have hE3 := hE.trans (hb3.mono (by omega)))
              go_roundw
              case rel => exact ⟨y + 1, t, by omega, by omega, rfl, by go_num, HN, hE3⟩
              case measure => simp [intOf]; omega
          | false =>
            rw [hbt] at bit0
            have HN : Hid (t = sT zs G (edW zs k (y + 1))) := by show _ = _; rw [edW_no hbt]; exact HT.out
            clear HT hbt
            go_wp2_with fail
            go_roundw
            case rel => exact ⟨y + 1, t, by omega, by omega, rfl, by go_num, HN, hE⟩
            case measure => simp [intOf]; omega
        · obtain rfl : y = zs.length := by omega
          have HT1 : Hid (t = sT zs G (edP zs (k + 1))) := by show _ = _; rw [← edW_end hm62 (HZ2.out k hkl)]; exact HT.out
          clear HT
          go_wp2_with fail
          go_roundw
          case rel => exact ⟨k + 1, t, by omega, rfl, by go_num, HT1, hE⟩
          case measure => simp [intOf]; omega
    · obtain rfl : k = zs.length := by omega
      have HR : Hid (CN = wrap64 (Int.tdiv t G)) := by show _ = _; rw [HCS.out, HT.out, HFIN.out]
      have hEF := HDB.out _ hE
      clear HT
      go_wp2_with fail
      go_ret2
      exact ⟨by rw [HR.out]; rfl, hEF⟩

set_option maxHeartbeats 1600000 in
theorem specCs_no (n : Int) (v : Value) (zs : List Int) (w : World) (h : Sl w v zs) (hl : zs.length ≤ 9223372036854775807) (hC : goCA n zs ≠ 0) :
    Calls Tryd.prog 35 #[.agg #[.int .i64 n, v]] w fun e w' => e = .returned (.tuple #[.int .i64 0, .int .i64 (goCA n zs)]) ∧ Below w.heap.size w w' := by
  have D0 : Below w.heap.size w (w.alloc (.cells #[.int .i64 n, v] 26)) := (Below.refl _ _).alloc (Nat.le_refl _) _
  have his := l01Is_any n v zs _ (h.below D0) hl
  unfold goCA at hC ⊢
  cases hg : isG n zs with
  | false =>
    rw [hg] at his
    clear h hg hC
    go_enter Tryd.func35, Tryd.ntmps35
    go_wp2_with (go_at_call 78; refine his.mono ?_; rintro e w1 ⟨rfl, hb1⟩)
    go_ret2
    exact ⟨rfl, D0.trans (hb1.mono (by simp))⟩
  | true =>
    rw [hg, if_pos rfl] at hC
    obtain ⟨h1, _, h3, _⟩ := isG_parts hg
    obtain ⟨b, off, cap, rfl, hb, hc⟩ := sl_some h (by omega)
    obtain rfl : (zs.length : Int) = n := h3
    have he : gF zs (edL zs) = 63 := by
      refine Classical.byContradiction fun hn => hC ?_
      unfold goC
      rw [if_neg hn]
    have HF : Hid (∀ W, Below w.heap.size w W → Calls Tryd.prog 86 #[.agg #[.int .i64 zs.length, .slice (some ⟨b, off, none⟩) zs.length cap], .int .i64 (-1)] W fun e w' => e = .returned (.int .i64 0) ∧ Below W.heap.size W w') := fun W hW => by
      have h := girthS_some b off cap zs W (Nat.lt_of_lt_of_le hb hW.size) (hc.below hW hb) hg
      unfold goN at h
      rw [if_pos he] at h
      exact h
    have hCC : goC zs = 4 := by unfold goC; rw [if_pos he]
    rw [if_pos rfl, hCC]
    have HR0 := Lib.hid (World.alloc_heap_new w (.cells #[.int .i64 zs.length, .slice (some ⟨b, off, none⟩) zs.length cap] 26))
    rw [hg] at his
    have HD0 := Lib.hid D0
    clear h hg hc D0 hC he hCC
    go_enter Tryd.func35, Tryd.ntmps35
    go_wp2_with (first
      | (go_at_call 78; refine his.mono ?_; rintro e w1 ⟨rfl, hb1⟩; obtain ⟨b0, b1, -, -⟩ := two_cells ((hb1.block w.heap.size (by simp)).trans HR0.out); have HB1 := Lib.hid (HD0.out.trans (hb1.mono (by simp))); clear hb1)
      | (go_at_call 86; refine (HF.out _ HB1.out).mono ?_; rintro e w2 ⟨rfl, hb2⟩))
    go_ret2
    exact ⟨rfl, HB1.out.trans (hb2.mono HB1.out.size)⟩

theorem go_code {n : Int} {zs : List Int} (h : goCA n zs = 0) : isG n zs = true ∧ gF zs (edL zs) ≠ 63 := by
  unfold goCA at h
  cases hg : isG n zs with
  | false => rw [hg] at h; simp at h
  | true =>
    rw [hg, if_pos rfl] at h
    refine ⟨rfl, fun e => ?_⟩
    unfold goC at h
    rw [if_pos e] at h
    omega
theorem cs_none {n : Int} {zs : List Int} (h : goCA n zs ≠ 0) : csA n zs = 0 := by
  unfold csA
  cases hg : isG n zs with
  | false => rfl
  | true =>
    rw [if_pos rfl]
    unfold csN
    refine if_pos (Classical.byContradiction fun hn => h ?_)
    unfold goCA goC
    rw [hg, if_pos rfl, if_neg hn]
theorem implCs_any (n : Int) (v : Value) (zs : List Int) (w : World) (h : Sl w v zs) (hl : zs.length ≤ 9223372036854775807) (hT : Tab w) :
    Calls Tryd.prog 36 #[.agg #[.int .i64 n, v]] w fun e w' => e = .returned (.tuple #[.int .i64 (csA n zs), .int .i64 (goCA n zs)]) ∧ Below w.heap.size w w' := by
  by_cases hC : goCA n zs = 0
  · obtain ⟨hg, hne⟩ := go_code hC
    obtain ⟨h1, _, h3, _⟩ := isG_parts hg
    obtain ⟨b, off, cap, rfl, hb, hc⟩ := sl_some h (by omega)
    obtain rfl : (zs.length : Int) = n := h3
    rw [hC, show csA zs.length zs = csN zs from if_pos hg]
    exact callsIn_wide.1 (implCs_in b off cap zs w hb hc hg hT hne)
  · rw [cs_none hC]
    exact implCs_no n v zs w h hl hT hC
theorem specCs_any (n : Int) (v : Value) (zs : List Int) (w : World) (h : Sl w v zs) (hl : zs.length ≤ 9223372036854775807) :
    Calls Tryd.prog 35 #[.agg #[.int .i64 n, v]] w fun e w' => e = .returned (.tuple #[.int .i64 (csA n zs), .int .i64 (goCA n zs)]) ∧ Below w.heap.size w w' := by
  by_cases hC : goCA n zs = 0
  · obtain ⟨hg, hne⟩ := go_code hC
    obtain ⟨h1, _, h3, _⟩ := isG_parts hg
    obtain ⟨b, off, cap, rfl, hb, hc⟩ := sl_some h (by omega)
    obtain rfl : (zs.length : Int) = n := h3
    rw [hC, show csA zs.length zs = csN zs from if_pos hg]
    exact specCs_in b off cap zs w h hb hc hg hne
  · rw [cs_none hC]
    exact specCs_no n v zs w h hl hC
end Go.Proofs.YtabkfihhfkmioaaDoor
