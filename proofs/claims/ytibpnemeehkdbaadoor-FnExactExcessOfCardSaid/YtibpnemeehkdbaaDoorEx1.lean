/-
  ExcessOf of both programs.
-/
import Derived.Test.YtibpnemeehkdbaaDoorMgA
import Derived.Test.YtibpnemeehkdbaaDoorMgC
namespace Go.Proofs.YtibpnemeehkdbaaDoor
set_option maxRecDepth 100000
open Go.RowKit

/-- The degree of a regular graph that has cycles. -/
def dwD (n : Int) (zs : List Int) : Int := if isG n zs then (if exOk zs then (dg zs 0 : Int) else 0) else 0

set_option maxHeartbeats 800000 in
theorem dwc_any (n : Int) (v : Value) (zs : List Int) (w : World) (h : Sl w v zs) (hl : zs.length ≤ 9223372036854775807) (hT : Tab w) :
    Calls Tryd.prog 26 #[.agg #[.int .i64 n, v]] w fun e w' => e = .returned (.tuple #[.int .i64 (dwD n zs), .int .i64 (exC n zs)]) ∧ Below w.heap.size w w' := by
  have D0 : Below w.heap.size w (w.alloc (.cells #[.int .i64 n, v] 28)) := (Below.refl _ _).alloc (Nat.le_refl _) _
  have hreg := implReg_any n v zs _ (h.below D0) hl (hT.belowAll D0)
  have HB := Lib.hid (World.alloc_heap_new w (.cells #[.int .i64 n, v] 28))
  cases hg : isG n zs with
  | false =>
    have e1 : dwD n zs = 0 := by simp [dwD, hg]
    have e2 : exC n zs = 1 := by simp [exC, hg]
    have e3 : regD n zs = 0 := by simp [regD, hg]
    have e4 : regC n zs = 1 := by simp [regC, hg]
    rw [e1, e2]
    rw [e3, e4] at hreg
    clear e1 e2 e3 e4 hg h hT
    go_enter Tryd.func26, Tryd.ntmps26
    go_wp2_with (go_at_call 43; refine hreg.mono ?_; rintro e w1 ⟨rfl, hb1⟩)
    go_ret2
    exact ⟨rfl, D0.trans (hb1.mono (by simp))⟩
  | true =>
    cases hs : same zs zs.length with
    | false =>
      have e1 : dwD n zs = 0 := by simp [dwD, hg, exOk, hs]
      have e2 : exC n zs = 5 := by simp [exC, hg, exOk, hs]
      have e3 : regD n zs = 0 := by simp [regD, hg, hs]
      have e4 : regC n zs = 5 := by simp [regC, hg, hs]
      rw [e1, e2]
      rw [e3, e4] at hreg
      clear e1 e2 e3 e4 hg h hT hs
      go_enter Tryd.func26, Tryd.ntmps26
      go_wp2_with (go_at_call 43; refine hreg.mono ?_; rintro e w1 ⟨rfl, hb1⟩)
      go_ret2
      exact ⟨rfl, D0.trans (hb1.mono (by simp))⟩
    | true =>
      have e3 : regD n zs = (dg zs 0 : Int) := by simp [regD, hg, hs]
      have e4 : regC n zs = 0 := by simp [regC, hg, hs]
      rw [e3, e4] at hreg
      have hd64 := dg64 zs 0
      by_cases h2 : 2 ≤ dg zs 0
      · have e1 : dwD n zs = (dg zs 0 : Int) := by simp [dwD, hg, exOk, hs, h2]
        have e2 : exC n zs = 0 := by simp [exC, hg, exOk, hs, h2]
        rw [e1, e2]
        clear e1 e2 e3 e4 hg h hT hs
        go_enter Tryd.func26, Tryd.ntmps26
        go_wp2_with (go_at_call 43; refine hreg.mono ?_; rintro e w1 ⟨rfl, hb1⟩)
        go_ret2
        exact ⟨rfl, D0.trans (hb1.mono (by simp))⟩
      · have e1 : dwD n zs = 0 := by simp [dwD, exOk, h2]
        have e2 : exC n zs = 5 := by simp [exC, hg, exOk, h2]
        rw [e1, e2]
        clear e1 e2 e3 e4 hg h hT hs
        go_enter Tryd.func26, Tryd.ntmps26
        go_wp2_with (go_at_call 43; refine hreg.mono ?_; rintro e w1 ⟨rfl, hb1⟩)
        go_ret2
        exact ⟨rfl, D0.trans (hb1.mono (by simp))⟩

/-- The excess with its code, where the graph has one or not. -/
theorem ex_cases (n : Int) (zs : List Int) : (exC n zs = 0 ∧ isG n zs = true ∧ same zs zs.length = true ∧ 2 ≤ dg zs 0) ∨ (exC n zs ≠ 0 ∧ exD n zs = 0 ∧ (exC n zs = 1 ∨ exC n zs = 5)) := by
  unfold exC exD exOk
  cases hg : isG n zs with
  | false => exact .inr ⟨by simp, by simp, .inl (by simp)⟩
  | true =>
    cases hs : same zs zs.length with
    | false => exact .inr ⟨by simp, by simp, .inr (by simp)⟩
    | true =>
      by_cases h2 : 2 ≤ dg zs 0
      · exact .inl ⟨by simp [h2], rfl, rfl, h2⟩
      · exact .inr ⟨by simp [h2], by simp [h2], .inr (by simp [h2])⟩

set_option maxHeartbeats 1600000 in
theorem implEx_any (n : Int) (v : Value) (zs : List Int) (w : World) (h : Sl w v zs) (hl : zs.length ≤ 9223372036854775807) (hT : Tab w) :
    Calls Tryd.prog 10 #[.agg #[.int .i64 n, v]] w fun e w' => e = .returned (.tuple #[.int .i64 (exD n zs), .int .i64 (exC n zs)]) ∧ Below w.heap.size w w' := by
  have D0 : Below w.heap.size w (w.alloc (.cells #[.int .i64 n, v] 28)) := (Below.refl _ _).alloc (Nat.le_refl _) _
  have hdw := dwc_any n v zs _ (h.below D0) hl (hT.belowAll D0)
  have HB := Lib.hid (World.alloc_heap_new w (.cells #[.int .i64 n, v] 28))
  rcases ex_cases n zs with ⟨hc0, hg, hs, h2⟩ | ⟨hc0, hd0, hc15⟩
  · have e1 : dwD n zs = (dg zs 0 : Int) := by simp [dwD, hg, exOk, hs, h2]
    have e5 : exD n zs = n - (exB zs : Int) := by simp [exD, hg, exOk, hs, h2]
    obtain ⟨g1, g2, g3, -, -⟩ := isG_parts hg
    rw [e1, hc0] at hdw
    rw [e5, hc0]
    obtain rfl : (zs.length : Int) = n := g3
    have hle := exB_le hg hs h2
    have HGB : Hid (gbV (dg zs 0) (goN zs) = (exB zs : Int)) := exB_impl hg hs h2
    have HGO : Hid (∀ W, Below w.heap.size w W → Calls Tryd.prog 27 #[.agg #[.int .i64 zs.length, v]] W fun e w' => e = .returned (.tuple #[.int .i64 (goN zs), .int .i64 (goC zs)]) ∧ Below W.heap.size W w') := fun W hW => by
      have := implGi_any zs.length v zs W (h.below hW) hl (hT.belowAll hW)
      unfold goNA goCA at this
      rw [hg] at this
      exact this
    have HBD : Hid (∀ W, Calls Tryd.prog 28 #[.int .i64 (dg zs 0), .int .i64 (goN zs)] W fun e w' => e = .returned (.tuple #[.int .i64 (exB zs), .int .i64 (gbC (dg zs 0) (goN zs))]) ∧ W = w') := fun W => by
      have := implGb_any (dg zs 0) (goN zs) W
      rw [HGB.out] at this
      exact this
    have b0 : 0 ≤ (zs.length : Int) - (exB zs : Int) := by omega
    have HD0 := Lib.hid D0
    generalize gbC (dg zs 0) (goN zs) = C at *
    generalize goC zs = D at *
    generalize goN zs = G at *
    generalize exB zs = E at *
    clear e1 e5 hc0 hg hs h hT HGB D0 hl
    go_enter Tryd.func10, Tryd.ntmps10
    go_wp2_with fail
    refine hdw.mono ?_
    rintro e w1 ⟨rfl, hb1⟩
    have HX1 := Lib.hid ((hb1.block w.heap.size (by simp)).trans HB.out)
    have HB1 := Lib.hid (HD0.out.trans (hb1.mono HD0.out.size))
    obtain ⟨x0, x1, -, -⟩ := two_cells HX1.out
    have s1 : w.heap.size < w1.heap.size := (Array.getElem?_eq_some_iff.1 HX1.out).1
    clear hb1 hdw
    go_wp2_with (first
      | (go_at_call 27; refine (HGO.out _ HB1.out).mono ?_; rintro e w3 ⟨rfl, hb3⟩; obtain ⟨y0, y1, -, -⟩ := two_cells ((hb3.block _ s1).trans HX1.out); have HB3 := Lib.hid (HB1.out.trans (hb3.mono HB1.out.size)); clear hb3)
      | (go_at_call 28; refine (HBD.out _).mono ?_; rintro e w4 ⟨rfl, rfl⟩))
    go_ret2
    exact ⟨rfl, HB3.out⟩
  · rw [hd0]
    have g1 : (exC n zs != 0) = true := by simpa using hc0
    have HN := Lib.hid hc0
    generalize dwD n zs = D at *
    generalize exC n zs = C at *
    clear hc0 hd0 h hT
    rcases hc15 with rfl | rfl
    all_goals
      go_enter Tryd.func10, Tryd.ntmps10
      go_wp2_with (go_at_call 26; refine hdw.mono ?_; rintro e w1 ⟨rfl, hb1⟩)
      go_ret2
      exact ⟨rfl, D0.trans (hb1.mono (by simp))⟩

/-- The model's bound of a regular graph's girth. -/
theorem boundS_any {zs : List Int} (hg : isG zs.length zs = true) (hs : same zs zs.length = true) (h2 : 2 ≤ dg zs 0) (w : World) :
    Calls Tryd.prog 23 #[.int .i64 (dg zs 0), .int .i64 (goN zs)] w fun e w' => e = .returned (.int .i64 (exB zs)) ∧ w = w' := by
  have hle := exB_le hg hs h2
  obtain ⟨g1, g2, -, g4, g5⟩ := isG_iff.1 hg
  have hgb := gF_bd (fun i hi => (g4 i hi).2.1) (List.prefix_refl (edL zs))
  have h64 : zs.length ≤ 64 := by omega
  have hd0 := dg_le (g4 0 (by omega)).2.1 h64
  have hd : dg zs 0 ≤ 62 := by omega
  have small : ∀ x y : Nat, 1 + x * cap12 y ≤ 62 ∨ 1 + x * y ≤ 62 → 1 ≤ x → cap12 y = y := fun x y h hx => by
    have a1 : y ≤ x * y := Nat.le_mul_of_pos_left _ hx
    have a2 : cap12 y ≤ x * cap12 y := Nat.le_mul_of_pos_left _ hx
    unfold cap12 at *
    omega
  unfold exB at hle ⊢
  by_cases h0 : goN zs = 0
  · rw [if_pos h0, h0]
    have := l02Bound_even (dg zs 0) 0 w h2 hd (by omega)
    exact this
  · rw [if_neg h0] at hle ⊢
    have e : goN zs = gF zs (edL zs) := by unfold goN at h0 ⊢; split at h0 <;> simp_all
    have hne : gF zs (edL zs) ≠ 63 := fun e63 => by unfold goN at h0; rw [if_pos e63] at h0; exact h0 rfl
    obtain ⟨t, ht⟩ : ∃ t : Nat, goN zs = (t : Int) := ⟨(goN zs).toNat, by omega⟩
    rw [ht, Int.toNat_natCast] at hle ⊢
    have hpar : (∃ u, t = 2 * u) ∨ (∃ u, t = 2 * u + 1) := by
      rcases Nat.mod_two_eq_zero_or_one t with h | h
      · exact .inl ⟨t / 2, by omega⟩
      · exact .inr ⟨t / 2, by omega⟩
    rcases hpar with ⟨u, rfl⟩ | ⟨u, rfl⟩
    · rw [gb_even] at hle ⊢
      have := l02Bound_even (dg zs 0) u w h2 hd (by omega)
      rw [cap12_small (by omega)] at this
      exact this
    · rw [gb_odd] at hle ⊢
      have := l02Bound_odd (dg zs 0) u w h2 hd (by omega)
      rw [small (dg zs 0) (sumP (dg zs 0 - 1) u) (.inr (by omega)) (by omega)] at this
      exact this

set_option maxHeartbeats 1600000 in
theorem specEx_any (n : Int) (v : Value) (zs : List Int) (w : World) (h : Sl w v zs) (hl : zs.length ≤ 9223372036854775807) :
    Calls Tryd.prog 8 #[.agg #[.int .i64 n, v]] w fun e w' => e = .returned (.tuple #[.int .i64 (exD n zs), .int .i64 (exC n zs)]) ∧ Below w.heap.size w w' := by
  have D0 : Below w.heap.size w (w.alloc (.cells #[.int .i64 n, v] 28)) := (Below.refl _ _).alloc (Nat.le_refl _) _
  have his := l01Is_any n v zs _ (h.below D0) hl
  have HB := Lib.hid (World.alloc_heap_new w (.cells #[.int .i64 n, v] 28))
  cases hg : isG n zs with
  | false =>
    have e1 : exD n zs = 0 := by simp [exD, hg]
    have e2 : exC n zs = 1 := by simp [exC, hg]
    rw [e1, e2]
    rw [hg] at his
    clear e1 e2 hg h
    go_enter Tryd.func8, Tryd.ntmps8
    go_wp2_with (go_at_call 21; refine his.mono ?_; rintro e w1 ⟨rfl, hb1⟩)
    go_ret2
    exact ⟨rfl, D0.trans (hb1.mono (by simp))⟩
  | true =>
    rw [hg] at his
    obtain ⟨h1, h162, h3, _⟩ := isG_parts hg
    obtain ⟨b, off, cap, rfl, hb, hc⟩ := sl_some h (by omega)
    obtain rfl : (zs.length : Int) = n := h3
    have HRG : Hid (∀ W, Below w.heap.size w W → Calls Tryd.prog 22 #[.agg #[.int .i64 zs.length, .slice (some ⟨b, off, none⟩) zs.length cap]] W fun e w' => e = .returned (.int .i64 (regV zs)) ∧ Below W.heap.size W w') := fun W hW => regular_some zs.length b off cap zs W (Nat.lt_of_lt_of_le hb hW.size) (hc.below hW hb) hg
    have HGI : Hid (∀ W, Below w.heap.size w W → Calls Tryd.prog 24 #[.agg #[.int .i64 zs.length, .slice (some ⟨b, off, none⟩) zs.length cap], .int .i64 (-1)] W fun e w' => e = .returned (.int .i64 (goN zs)) ∧ Below W.heap.size W w') := fun W hW => girthS_some b off cap zs W (Nat.lt_of_lt_of_le hb hW.size) (hc.below hW hb) hg
    have HD0 := Lib.hid D0
    have hd64 := dg64 zs 0
    cases hs : same zs zs.length with
    | false =>
      have e1 : exD zs.length zs = 0 := by simp [exD, exOk, hs]
      have e2 : exC zs.length zs = 5 := by simp [exC, hg, exOk, hs]
      rw [e1, e2]
      rw [regV_no hs] at HRG
      clear e1 e2 hg h hs HGI D0
      go_enter Tryd.func8, Tryd.ntmps8
      go_wp2_with fail
      refine his.mono ?_
      rintro e w1 ⟨rfl, hb1⟩
      have HX1 := Lib.hid ((hb1.block w.heap.size (by simp)).trans HB.out)
      have HB1 := Lib.hid (HD0.out.trans (hb1.mono HD0.out.size))
      obtain ⟨x0, x1, -, -⟩ := two_cells HX1.out
      clear hb1 his
      go_wp2_with (go_at_call 22; refine (HRG.out _ HB1.out).mono ?_; rintro e w2 ⟨rfl, hb2⟩)
      go_ret2
      exact ⟨rfl, HB1.out.trans (hb2.mono HB1.out.size)⟩
    | true =>
      rw [regV_yes hs] at HRG
      by_cases h2 : 2 ≤ dg zs 0
      · have e1 : exD zs.length zs = zs.length - (exB zs : Int) := by simp [exD, hg, exOk, hs, h2]
        have e2 : exC zs.length zs = 0 := by simp [exC, hg, exOk, hs, h2]
        have hle := exB_le hg hs h2
        have HBD : Hid (∀ W, Calls Tryd.prog 23 #[.int .i64 (dg zs 0), .int .i64 (goN zs)] W fun e w' => e = .returned (.int .i64 (exB zs)) ∧ W = w') := fun W => boundS_any hg hs h2 W
        rw [e1, e2]
        have b0 : 0 ≤ (zs.length : Int) - (exB zs : Int) := by omega
        have HW : Hid (IntKind.i64.wrap ((zs.length : Int) - (exB zs : Int)) = (zs.length : Int) - (exB zs : Int)) := IntWalk.i64_in _ ⟨by omega, by omega⟩
        generalize goN zs = G at *
        generalize exB zs = E at *
        clear e1 e2 hg h hs D0 hc
        go_enter Tryd.func8, Tryd.ntmps8
        go_wp2_with fail
        refine his.mono ?_
        rintro e w1 ⟨rfl, hb1⟩
        have HX1 := Lib.hid ((hb1.block w.heap.size (by simp)).trans HB.out)
        have HB1 := Lib.hid (HD0.out.trans (hb1.mono HD0.out.size))
        obtain ⟨x0, x1, -, -⟩ := two_cells HX1.out
        have s1 : w.heap.size < w1.heap.size := (Array.getElem?_eq_some_iff.1 HX1.out).1
        clear hb1 his
        go_wp2_with fail
        refine (HRG.out _ HB1.out).mono ?_
        rintro e w2 ⟨rfl, hb2⟩
        have HX2 := Lib.hid ((hb2.block _ s1).trans HX1.out)
        have HB2 := Lib.hid (HB1.out.trans (hb2.mono HB1.out.size))
        obtain ⟨y0, y1, -, -⟩ := two_cells HX2.out
        have s2 : w.heap.size < w2.heap.size := (Array.getElem?_eq_some_iff.1 HX2.out).1
        have HD2 : Hid (Below w.heap.size w w2.drew) := HB2.out.drew
        clear hb2
        go_wp2_with fail
        go_region_held3 (fun w' => w'.cell? ⟨w.heap.size, 0, none⟩ = some (.int .i64 zs.length) ∧ w'.cell? ⟨w.heap.size, 1, none⟩ = some (.slice (some ⟨b, off, none⟩) zs.length cap))
          (go_keep)
          (first
            | (go_at_call 22; refine (HRG.out _ HD2.out).mono ?_; rintro e w3 ⟨rfl, hb3⟩; have HX3 := Lib.hid ((hb3.block _ s2).trans HX2.out); obtain ⟨z0, z1, -, -⟩ := two_cells HX3.out; have HB3 := Lib.hid (HD2.out.trans (hb3.mono HD2.out.size)); have s3 : w.heap.size < w3.heap.size := (Array.getElem?_eq_some_iff.1 HX3.out).1; clear hb3)
            | (go_at_call 24; refine (HGI.out _ HB3.out).mono ?_; rintro e w4 ⟨rfl, hb4⟩; have HX4 := Lib.hid ((hb4.block _ s3).trans HX3.out); obtain ⟨u0, u1, -, -⟩ := two_cells HX4.out; have HB4 := Lib.hid (HB3.out.trans (hb4.mono HB3.out.size)); clear hb4)
            | (go_at_call 23; refine (HBD.out _).mono ?_; rintro e w5 ⟨rfl, rfl⟩))
        go_wp2
        go_ret2
        exact ⟨rint2 HW.out rfl, HB4.out⟩
      · have e1 : exD zs.length zs = 0 := by simp [exD, exOk, h2]
        have e2 : exC zs.length zs = 5 := by simp [exC, hg, exOk, h2]
        rw [e1, e2]
        clear e1 e2 hg h hs HGI D0
        go_enter Tryd.func8, Tryd.ntmps8
        go_wp2_with fail
        refine his.mono ?_
        rintro e w1 ⟨rfl, hb1⟩
        have HX1 := Lib.hid ((hb1.block w.heap.size (by simp)).trans HB.out)
        have HB1 := Lib.hid (HD0.out.trans (hb1.mono HD0.out.size))
        obtain ⟨x0, x1, -, -⟩ := two_cells HX1.out
        clear hb1 his
        go_wp2_with (go_at_call 22; refine (HRG.out _ HB1.out).mono ?_; rintro e w2 ⟨rfl, hb2⟩)
        go_ret2
        exact ⟨rfl, HB1.out.trans (hb2.mono HB1.out.size)⟩
end Go.Proofs.YtibpnemeehkdbaaDoor
