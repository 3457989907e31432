/-
  spec.l03Walk, spec.WalkSum, whatever comes in.
-/
import Derived.Test.YthonkphjahomeaaDoorWk0
import Derived.BigQuiet
import Derived.Deep.QuietTactic
import Derived.Deep.RegionHeld3
namespace Go.Proofs.YthonkphjahomeaaDoor
set_option maxRecDepth 100000
open Go.RowKit

theorem wkC_none {n m : Int} {k : Nat} {fs zs : List Int} (h : isB n m k fs = false) : wkC n m k fs zs = 1 := by unfold wkC; rw [if_neg (by simp [h])]
theorem wkC_long {n m : Int} {k : Nat} {fs zs : List Int} (h : isB n m k fs = true) (hz : ¬ zs.length ≤ 14) : wkC n m k fs zs = 2 := by unfold wkC; rw [if_pos h, if_neg (by simp [hz])]
theorem wkC_no {n m : Int} {k : Nat} {fs zs : List Int} (h : isB n m k fs = true) (hz : nbTo k zs zs.length = false) : wkC n m k fs zs = 2 := by unfold wkC; rw [if_pos h, if_neg (by simp [hz])]
theorem wkC_bad {n m : Int} {k : Nat} {fs zs : List Int} (h : isB n m k fs = true) (h1 : zs.length ≤ 14) (hz : nbTo k zs zs.length = true) (hw : isW m.toNat fs zs = false) : wkC n m k fs zs = 5 := by unfold wkC; rw [if_pos h, if_pos (by simp [hz, h1]), if_neg (by simp [hw])]
theorem wkC_yes {n m : Int} {k : Nat} {fs zs : List Int} (h : isB n m k fs = true) (h1 : zs.length ≤ 14) (hz : nbTo k zs zs.length = true) (hw : isW m.toNat fs zs = true) : wkC n m k fs zs = 0 := by unfold wkC; rw [if_pos h, if_pos (by simp [hz, h1]), if_pos hw]
theorem wsN_zero {n m : Int} {k : Nat} {fs zs : List Int} {C : Int} (h : wkC n m k fs zs = C) (hC : ¬ C = 0) : wsN n m k fs zs = 0 := by unfold wsN; rw [if_neg (by rw [h]; exact hC)]
theorem wsN_yes {n m : Int} {k : Nat} {fs zs : List Int} (h : wkC n m k fs zs = 0) : wsN n m k fs zs = (sumS m.toNat fs zs zs.length : Nat) := by unfold wsN; rw [if_pos h]

set_option maxHeartbeats 1600000 in
theorem spW_none (n m : Int) (v : Value) (k : Nat) (fs zs : List Int) (p : Option Addr) (c : Nat) (w : World) (hs : Sa w v k fs) (hl : k ≤ 9223372036854775807) (hg : isB n m k fs = false) :
    Calls Tryd.prog 21 #[.agg #[.int .i64 n, .int .i64 m, v], .slice p zs.length c] w fun e w' => e = .returned (.tuple #[.int .i64 0, .int .i64 1]) ∧ Below w.heap.size w w' := by
  have D0 : Below w.heap.size w (w.alloc (.cells #[.int .i64 n, .int .i64 m, v] 31)) := (Below.refl _ _).alloc (Nat.le_refl _) _
  have his := l03Is_any n m v k fs (w.alloc (.cells #[.int .i64 n, .int .i64 m, v] 31)) (hs.below D0) hl
  rw [hg] at his
  clear hs hg
  go_enter Tryd.func21, Tryd.ntmps21
  go_wp2_with (go_at_call 32; refine his.mono ?_; rintro e w1 ⟨rfl, hb1⟩)
  go_ret2
  exact ⟨rfl, D0.trans (hb1.mono (by simp))⟩

set_option maxHeartbeats 6400000 in
theorem spW_in (n m k cap : Nat) (sa : Option Addr) (fs zs : List Int) (p : Option Addr) (c : Nat) (w : World) (hs : Sa w (.slice sa k cap) k fs) (hav : AvOk n m k fs) (hnm : n ≤ 10 ∧ m ≤ 62 ∧ k ≤ 16) (hm1 : 1 ≤ m) (hz : Sl w (.slice p zs.length c) zs) (hl : zs.length ≤ 9223372036854775807) (hg : isB n m k fs = true) (S C : Int) (hC : wkC n m k fs zs = C) (hS : wsN n m k fs zs = S) :
    Calls Tryd.prog 21 #[.agg #[.int .i64 n, .int .i64 m, .slice sa k cap], .slice p zs.length c] w fun e w' => e = .returned (.tuple #[.int .i64 S, .int .i64 C]) ∧ Below w.heap.size w w' := by
  obtain ⟨n2, m2, k16⟩ := hnm
  have D0 : Below w.heap.size w (w.alloc (.cells #[.int .i64 n, .int .i64 m, .slice sa k cap] 31)) := (Below.refl _ _).alloc (Nat.le_refl _) _
  have his := l03Is_any n m (.slice sa k cap) k fs (w.alloc (.cells #[.int .i64 n, .int .i64 m, .slice sa k cap] 31)) (hs.below D0) (by omega)
  rw [hg] at his
  have HG0 := Lib.hid (World.alloc_heap_new w (.cells #[.int .i64 n, .int .i64 m, .slice sa k cap] 31))
  obtain ⟨W0, hW0⟩ : ∃ W0, W0 = w.alloc (.cells #[.int .i64 n, .int .i64 m, .slice sa k cap] 31) := ⟨_, rfl⟩
  have sz0 : w.heap.size + 1 ≤ W0.heap.size := by rw [hW0]; simp
  rw [← hW0] at HG0 D0 his
  have HST : Hid (∀ (W1 : World) (x : Nat), Below w.heap.size w W1 → x < 2 * k → Calls Tryd.prog 25 #[.agg #[.int .i64 n, .int .i64 m, .slice sa k cap], .int .i64 x] W1 fun e w' => e = .returned (.tuple #[.int .i64 (stA m fs x 0), .int .i64 (stA m fs x 1), .int .i64 (stA m fs x 2)]) ∧ Below W1.heap.size W1 w') := fun W1 x h hx =>
    l03Step_any n m k cap x sa fs W1 (hs.below h) hav ⟨n2, m2, k16⟩ hx
  have HLT : Hid (∀ x, x < 2 * k → stA m fs x 0 < n ∧ stA m fs x 1 < n ∧ stA m fs x 2 < m) := fun x hx => stA_lt hav hx
  obtain ⟨⟨b0, b1, b2⟩, -⟩ := three_cells HG0.out
  by_cases h14 : zs.length ≤ 14
  · have hz14 : ¬ (14 : Int) < zs.length := by omega
    have htwo : Hid (nbTo k zs zs.length = false → C = 2 ∧ S = 0) := fun h => by
      have e := wkC_no (zs := zs) hg h
      exact ⟨by rw [← hC, e], by rw [← hS]; exact wsN_zero e (by decide)⟩
    have hfive : Hid (nbTo k zs zs.length = true → isW m fs zs = false → C = 5 ∧ S = 0) := fun h h2 => by
      have e := wkC_bad (zs := zs) hg h14 h h2
      exact ⟨by rw [← hC, e], by rw [← hS]; exact wsN_zero e (by decide)⟩
    have hone : Hid (nbTo k zs zs.length = true → isW m fs zs = true → C = 0 ∧ S = (sumS m fs zs zs.length : Nat)) := fun h h2 => by
      have e := wkC_yes (zs := zs) hg h14 h h2
      exact ⟨by rw [← hC, e], by rw [← hS]; exact wsN_yes e⟩
    have HZ := Lib.hid hz; have HD := Lib.hid D0
    clear hs hz hg hC hS D0 hav
    go_enter Tryd.func21, Tryd.ntmps21
    go_upto_region 1 with fail
    rw [← hW0]
    clear hW0
    go_wp2_with (go_at_call 32; refine his.mono ?_; rintro e w1 ⟨rfl, hb1⟩)
    have E1 := HD.out.trans (hb1.mono (by omega))
    have X1 : Hid (w1.heap[w.heap.size]? = some (.cells #[.int .i64 n, .int .i64 m, .slice sa k cap] 31 (0, 0))) := (hb1.block w.heap.size (by omega)).trans HG0.out
    have s1 := hb1.size
    clear his hb1 b0 b1 b2 HG0
    go_loopw [6] (fun i wr => ∃ j : Nat, j ≤ zs.length ∧ i = .int .i64 j ∧ Hid (nbTo k zs j = true) ∧ Below w1.heap.size w1 wr) (fun i _ => zs.length - (intOf i).toNat)
    case atStart => exact ⟨0, Nat.zero_le _, rfl, rfl, Below.refl _ _⟩
    case round =>
      obtain ⟨j, hj, rfl, HN, hE⟩ := hrel
      obtain ⟨⟨b0, b1, b2⟩, -⟩ := three_cells ((hE.block w.heap.size (by omega)).trans X1.out)
      by_cases hlt : j < zs.length
      · have hlti : (j : Int) < zs.length := by omega
        have hj0 : (0 : Int) ≤ j := by omega
        obtain ⟨b, off, rfl, hb, hcc⟩ : ∃ b off, p = some ⟨b, off, none⟩ ∧ b < w.heap.size ∧ Cells w b off zs := by
          rcases HZ.out with ⟨_, _, e, rfl⟩ | ⟨b, off, _, e, h1, h2⟩
          · simp at hlt
          · injection e with e1 _ _
            exact ⟨b, off, e1, h1, h2⟩
        have z0 := (hcc.below (E1.trans (hE.mono (by omega))) hb) j hlt
        have hcall := fun W : World => in_any (el zs j) 0 (2 * (k : Int) - 1) W
        obtain ⟨z, hzz⟩ : ∃ z, z = el zs j := ⟨_, rfl⟩
        have HB : Hid (nbB k zs j = (decide (0 ≤ z) && decide (z ≤ 2 * (k : Int) - 1))) := by show _ = _; rw [hzz]; rfl
        rw [← hzz] at z0 hcall
        obtain ⟨r, hr⟩ : ∃ r, r = (decide (0 ≤ z) && decide (z ≤ 2 * (k : Int) - 1)) := ⟨_, rfl⟩
        rw [← hr] at HB hcall
        have HN1 : Hid (nbB k zs j = true → nbTo k zs (j + 1) = true) := fun h => by rw [nbTo_succ, HN.out, h]; rfl
        have HN2 : Hid (nbB k zs j = false → C = 2 ∧ S = 0) := fun h => htwo.out (nbTo_no hlt h)
        have g1 : IntKind.i64.wrap (2 * (k : Int)) = 2 * (k : Int) := IntWalk.i64_in _ (by omega)
        have g2 : IntKind.i64.wrap (2 * (k : Int) - 1) = 2 * (k : Int) - 1 := IntWalk.i64_in _ (by omega)
        clear hcc hzz hr
        go_wp2_with fail
        go_quiet ((go_at_call 27; exact qsame (hcall _)))
        cases r with
        | false =>
          obtain ⟨rfl, rfl⟩ := HN2.out HB.out
          clear HB HN1 HN2 hcall
          go_wp2_with fail
          go_ret2
          exact ⟨rfl, drewN_below (E1.trans (hE.mono (by omega))) _⟩
        | true =>
          have hN : Hid (nbTo k zs (j + 1) = true) := HN1.out HB.out
          have hE' := fun q => drewN_below hE q
          clear HB HN1 HN2 hcall
          go_wp2_with fail
          go_roundw
          case rel => exact ⟨j + 1, by omega, by go_num, hN, hE' _⟩
          case measure => simp [intOf]; omega
      · obtain rfl : j = zs.length := by omega
        have HNA : Hid (∀ i, i < zs.length → el zs i = (sp zs i : Nat) ∧ sp zs i < 2 * k) := fun i hi => nbTo_at HN.out hi
        have h5 := Lib.hid (hfive.out HN.out)
        have h0 := Lib.hid (hone.out HN.out)
        clear hfive hone htwo
        go_wp2_with fail
        obtain ⟨w2, h2⟩ : ∃ w2, w2 = wr := ⟨_, rfl⟩
        rw [← h2] at hE ⊢
        clear h2 HN
        go_loopw [7, 8, 9, 10, 11, 12] (fun sv av iv _ _ _ wr => ∃ i s : Nat, i ≤ zs.length ∧ iv = .int .i64 i ∧ sv = .int .i64 s ∧ Hid (s = sumS m fs zs i) ∧ ((i = 0 ∧ av = .int .i64 (-1)) ∨ (∃ t : Nat, 1 ≤ i ∧ av = .int .i64 t ∧ Hid (t = stA m fs (sp zs (i - 1)) 1))) ∧ Hid (fitAll m fs zs i) ∧ Below w1.heap.size w1 wr) (fun _ _ iv _ _ _ _ => zs.length - (intOf iv).toNat)
        case atStart => exact ⟨0, 0, Nat.zero_le _, rfl, rfl, rfl, .inl ⟨rfl, rfl⟩, fun i hi => absurd hi (by omega), hE⟩
        case round =>
          obtain ⟨i, s, hi, rfl, rfl, HS, hat, HF, hB⟩ := hrel
          obtain ⟨wo, rfl⟩ : ∃ wo : World, wo = wr := ⟨_, rfl⟩
          obtain ⟨⟨b0, b1, b2⟩, -⟩ := three_cells ((hB.block w.heap.size (by omega)).trans X1.out)
          by_cases hlt : i < zs.length
          · have hlti : (i : Int) < zs.length := by omega
            have hi0 : (0 : Int) ≤ i := by omega
            obtain ⟨b, off, rfl, hb, hcc⟩ : ∃ b off, p = some ⟨b, off, none⟩ ∧ b < w.heap.size ∧ Cells w b off zs := by
              rcases HZ.out with ⟨_, _, e, rfl⟩ | ⟨b, off, _, e, h1, h2⟩
              · simp at hlt
              · injection e with e1 _ _
                exact ⟨b, off, e1, h1, h2⟩
            have z0 := (hcc.below (E1.trans (hB.mono (by omega))) hb) i hlt
            obtain ⟨e1, e2⟩ := HNA.out i hlt
            rw [e1] at z0
            obtain ⟨x, hx⟩ : ∃ x, x = sp zs i := ⟨_, rfl⟩
            rw [← hx] at z0 e2
            obtain ⟨y0, y1, y2⟩ := HLT.out x e2
            have hst := HST.out wo.drew x ((E1.trans (hB.mono (by omega))).drew) e2
            obtain ⟨f, hf⟩ : ∃ f, f = stA m fs x 0 := ⟨_, rfl⟩
            obtain ⟨t, ht⟩ : ∃ t, t = stA m fs x 1 := ⟨_, rfl⟩
            obtain ⟨v, hv⟩ : ∃ v, v = stA m fs x 2 := ⟨_, rfl⟩
            rw [← hf, ← ht, ← hv] at hst
            rw [← hf] at y0
            rw [← ht] at y1
            rw [← hv] at y2
            have hsl : s < m := by rw [HS.out]; exact sumS_lt fs zs hm1 i
            obtain ⟨r, hr⟩ : ∃ r, r = (s + v) % m := ⟨_, rfl⟩
            have hrm : r < m := by rw [hr]; exact Nat.mod_lt _ (by omega)
            have HR : Hid (r = sumS m fs zs (i + 1)) := by show _ = _; rw [sumS, ← HS.out, ← hx, ← hv, hr]
            have HT : Hid (t = stA m fs (sp zs (i + 1 - 1)) 1) := by show _ = _; rw [Nat.add_sub_cancel, ← hx, ht]
            have tm : Int.tmod ((s : Int) + (v : Int)) (m : Int) = (r : Int) := by rw [hr]; rfl
            have g1 : IntKind.i64.wrap ((s : Int) + (v : Int)) = (s : Int) + (v : Int) := IntWalk.i64_in _ (by omega)
            have g2 : IntKind.i64.wrap (r : Int) = (r : Int) := IntWalk.i64_in _ (by omega)
            have hm0 : ¬ m = 0 := by omega
            have hS : ∀ W, Below wo.heap.size wo W → (W.cell? ⟨w.heap.size, 0, none⟩ = some (.int .i64 n) ∧ W.cell? ⟨w.heap.size, 1, none⟩ = some (.int .i64 m) ∧ W.cell? ⟨w.heap.size, 2, none⟩ = some (.slice sa k cap)) ∧ W.cell? ⟨b, off + i, none⟩ = some (.int .i64 x) := fun W hW =>
              ⟨(three_cells ((((hB.trans (hW.mono hB.size)).block w.heap.size (by omega)).trans X1.out))).1, (hW.cell (p := ⟨b, off + i, none⟩) (Nat.lt_of_lt_of_le hb (Nat.le_trans E1.size hB.size))).trans z0⟩
            have HSS := Lib.hid hS
            have HST1 := Lib.hid hst
            have HFIT : Hid (1 ≤ i → (fitB m fs zs (i - 1) = true ↔ stA m fs (sp zs (i - 1)) 1 = f)) := fun h => by
              rw [fitB_yes, show i - 1 + 1 = i by omega, hf, hx]
            have hso := hB.size
            clear hcc hst hS e1 hf ht hv hx hr
            have hgo : fitAll m fs zs (i + 1) → Hid (fitAll m fs zs (i + 1)) := fun h => h
            rcases hat with ⟨hi00, rfl⟩ | ⟨t0, h1, rfl, HT0⟩
            · have HF1 : Hid (fitAll m fs zs (i + 1)) := fun i hi => absurd hi (by omega)
              clear HFIT hgo hi00
              go_wp2_with fail
              go_region_held3 (fun W => (W.cell? ⟨w.heap.size, 0, none⟩ = some (.int .i64 n) ∧ W.cell? ⟨w.heap.size, 1, none⟩ = some (.int .i64 m) ∧ W.cell? ⟨w.heap.size, 2, none⟩ = some (.slice sa k cap)) ∧ W.cell? ⟨b, off + i, none⟩ = some (.int .i64 x)) (go_keep) (first | (go_at_call 25; refine HST1.out.mono ?_; rintro e w4 ⟨rfl, hb4⟩; have hb4' : Below wo.heap.size wo w4 := below_drew hb4 (by simp); obtain ⟨⟨b0, b1, b2⟩, z0⟩ := HSS.out w4 hb4'))
              have hB4 := hB.trans (hb4'.mono hso)
              clear hb4 hb4' z0
              go_wp2_with fail
              go_roundw
              case rel => exact ⟨i + 1, r, by omega, by go_num, rfl, HR, .inr ⟨t, by omega, rfl, HT⟩, HF1, hB4⟩
              case measure => simp [intOf]; omega
            · have ht0 : (0 : Int) ≤ t0 := by omega
              by_cases hf0 : t0 = f
              · have HF1 : Hid (fitAll m fs zs (i + 1)) := fun i' hi' => by
                  by_cases e : i' + 1 = i
                  · rw [show i' = i - 1 by omega]; exact (HFIT.out h1).2 (HT0.out.symm.trans hf0)
                  · exact HF.out i' (by omega)
                subst hf0
                clear HFIT hgo HT0 HF
                go_wp2_with fail
                go_region_held3 (fun W => (W.cell? ⟨w.heap.size, 0, none⟩ = some (.int .i64 n) ∧ W.cell? ⟨w.heap.size, 1, none⟩ = some (.int .i64 m) ∧ W.cell? ⟨w.heap.size, 2, none⟩ = some (.slice sa k cap)) ∧ W.cell? ⟨b, off + i, none⟩ = some (.int .i64 x)) (go_keep) (first | (go_at_call 25; refine HST1.out.mono ?_; rintro e w4 ⟨rfl, hb4⟩; have hb4' : Below wo.heap.size wo w4 := below_drew hb4 (by simp); obtain ⟨⟨b0, b1, b2⟩, z0⟩ := HSS.out w4 hb4'))
                have hB4 := hB.trans (hb4'.mono hso)
                clear hb4 hb4' z0
                go_wp2_with fail
                go_roundw
                case rel => exact ⟨i + 1, r, by omega, by go_num, rfl, HR, .inr ⟨t, by omega, rfl, HT⟩, HF1, hB4⟩
                case measure => simp [intOf]; omega
              · have hbad : isW m fs zs = false := isW_no (i := i - 1) (by omega) (by
                  cases hc : fitB m fs zs (i - 1) with
                  | false => rfl
                  | true => exact absurd (HT0.out.trans ((HFIT.out h1).1 hc)) hf0)
                obtain ⟨rfl, rfl⟩ := h5.out hbad
                have hne : ¬ ((t0 : Int) = f) := by omega
                clear HFIT hgo HT0 HF h0 h5 hbad hf0
                go_wp2_with fail
                go_region_held3 (fun W => (W.cell? ⟨w.heap.size, 0, none⟩ = some (.int .i64 n) ∧ W.cell? ⟨w.heap.size, 1, none⟩ = some (.int .i64 m) ∧ W.cell? ⟨w.heap.size, 2, none⟩ = some (.slice sa k cap)) ∧ W.cell? ⟨b, off + i, none⟩ = some (.int .i64 x)) (go_keep) (first | (go_at_call 25; refine HST1.out.mono ?_; rintro e w4 ⟨rfl, hb4⟩; have hb4' : Below wo.heap.size wo w4 := below_drew hb4 (by simp); obtain ⟨⟨b0, b1, b2⟩, z0⟩ := HSS.out w4 hb4'))
                have hB4 := hB.trans (hb4'.mono hso)
                clear hb4 hb4' z0
                go_wp2_with fail
                go_ret2
                exact ⟨rfl, E1.trans (hB4.mono (by omega))⟩
          · obtain rfl : i = zs.length := by omega
            have hw : isW m fs zs = true := (isW_iff m fs zs).2 HF.out
            obtain ⟨rfl, rfl⟩ := h0.out hw
            have HS' : Hid ((s : Int) = (sumS m fs zs zs.length : Nat)) := by show _ = _; rw [HS.out]
            clear h0 h5
            go_wp2_with fail
            go_ret2
            exact ⟨by rw [HS'.out]; rfl, E1.trans (hB.mono (by omega))⟩
  · have hz14 : (14 : Int) < zs.length := by omega
    have e := wkC_long (zs := zs) hg h14
    have hS0 := wsN_zero e (by decide)
    rw [← hS, ← hC, hS0, e]
    have HD := Lib.hid D0
    clear hs hz hg D0 hC hS hS0 e hav
    go_enter Tryd.func21, Tryd.ntmps21
    go_upto_region 1 with fail
    rw [← hW0]
    clear hW0
    go_wp2_with (go_at_call 32; refine his.mono ?_; rintro e w1 ⟨rfl, hb1⟩)
    go_ret2
    exact ⟨rfl, HD.out.trans (hb1.mono (by omega))⟩

theorem l03Walk_any (n m : Int) (v : Value) (k : Nat) (fs zs : List Int) (p : Option Addr) (c : Nat) (w : World) (hs : Sa w v k fs) (hk : k ≤ 9223372036854775807) (hz : Sl w (.slice p zs.length c) zs) (hl : zs.length ≤ 9223372036854775807) :
    Calls Tryd.prog 21 #[.agg #[.int .i64 n, .int .i64 m, v], .slice p zs.length c] w fun e w' => e = .returned (.tuple #[.int .i64 (wsN n m k fs zs), .int .i64 (wkC n m k fs zs)]) ∧ Below w.heap.size w w' := by
  cases hg : isB n m k fs
  · rw [wkC_none hg, wsN_zero (wkC_none hg) (by decide)]
    exact spW_none n m v k fs zs p c w hs hk hg
  · obtain ⟨N, M, rfl, rfl, h1, h2, h3, h4, _, h6, hav⟩ := isB_nats hg
    have hf := hs.form
    obtain ⟨sa, cap, rfl⟩ : ∃ sa cap, v = .slice sa k cap := ⟨_, _, hf⟩
    exact spW_in N M k cap sa fs zs p c w hs hav ⟨h2, h4, h6⟩ h3 hz hl hg _ _ rfl rfl

set_option maxHeartbeats 800000 in
theorem specWs_any (n m : Int) (v : Value) (k : Nat) (fs zs : List Int) (p : Option Addr) (c : Nat) (w : World) (hs : Sa w v k fs) (hk : k ≤ 9223372036854775807) (hz : Sl w (.slice p zs.length c) zs) (hl : zs.length ≤ 9223372036854775807) :
    Calls Tryd.prog 7 #[.agg #[.int .i64 n, .int .i64 m, v], .slice p zs.length c] w fun e w' => e = .returned (.tuple #[.int .i64 (wsN n m k fs zs), .int .i64 (wkC n m k fs zs)]) ∧ Below w.heap.size w w' := by
  have D0 : Below w.heap.size w (w.alloc (.cells #[.int .i64 n, .int .i64 m, v] 31)) := (Below.refl _ _).alloc (Nat.le_refl _) _
  have hwk := l03Walk_any n m v k fs zs p c (w.alloc (.cells #[.int .i64 n, .int .i64 m, v] 31)) (hs.below D0) hk (hz.below D0) hl
  obtain ⟨C, hC⟩ : ∃ C, C = wkC n m k fs zs := ⟨_, rfl⟩
  obtain ⟨S, hS⟩ : ∃ S, S = wsN n m k fs zs := ⟨_, rfl⟩
  rw [← hC, ← hS] at hwk ⊢
  clear hs hz hC hS
  go_enter Tryd.func7, Tryd.ntmps7
  go_wp2_with (go_at_call 21; refine hwk.mono ?_; rintro e w1 ⟨rfl, hb1⟩)
  go_ret2
  exact ⟨rfl, D0.trans (hb1.mono (by simp))⟩
end Go.Proofs.YthonkphjahomeaaDoor
