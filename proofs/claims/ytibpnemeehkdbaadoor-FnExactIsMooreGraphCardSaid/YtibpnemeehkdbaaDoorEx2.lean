/-
  IsMooreGraph of both programs.
-/
import Derived.Test.YtibpnemeehkdbaaDoorEx1
import Derived.Test.YtibpnemeehkdbaaDoorMgE
namespace Go.Proofs.YtibpnemeehkdbaaDoor
set_option maxRecDepth 100000
open Go.RowKit

theorem moD_ex (n : Int) (zs : List Int) (hg : isG n zs = true) : moD n zs = (exC n zs == 0 && exD n zs == 0) := by
  obtain ⟨_, _, h3, _⟩ := isG_parts hg
  unfold moD exC exD
  rw [hg]
  cases hk : exOk zs with
  | false => simp
  | true =>
    simp only [Bool.true_and, if_true]
    by_cases h : exB zs = zs.length
    · rw [decide_eq_true h]
      have : n - (exB zs : Int) = 0 := by omega
      rw [this]; rfl
    · rw [decide_eq_false h]
      have : (n - (exB zs : Int) == 0) = false := by rw [beq_eq_false_iff_ne]; omega
      rw [this]; rfl

set_option maxHeartbeats 800000 in
theorem implMo_any (n : Int) (v : Value) (zs : List Int) (w : World) (h : Sl w v zs) (hl : zs.length ≤ 9223372036854775807) (hT : Tab w) :
    Calls Tryd.prog 13 #[.agg #[.int .i64 n, v]] w fun e w' => e = .returned (.tuple #[.bool (moD n zs), .int .i64 (moC n zs)]) ∧ Below w.heap.size w w' := by
  have D0 : Below w.heap.size w (w.alloc (.cells #[.int .i64 n, v] 28)) := (Below.refl _ _).alloc (Nat.le_refl _) _
  have his := implIs_any n v zs _ (h.below D0) hl (hT.belowAll D0)
  have HB := Lib.hid (World.alloc_heap_new w (.cells #[.int .i64 n, v] 28))
  cases hg : isG n zs with
  | false =>
    have e1 : moD n zs = false := by simp [moD, hg]
    have e2 : moC n zs = 1 := by simp [moC, hg]
    rw [e1, e2]
    rw [hg] at his
    clear e1 e2 hg h hT
    go_enter Tryd.func13, Tryd.ntmps13
    go_wp2_with (go_at_call 31; refine his.mono ?_; rintro e w1 ⟨rfl, hb1⟩)
    go_ret2
    exact ⟨rfl, D0.trans (hb1.mono (by simp))⟩
  | true =>
    have e1 := moD_ex n zs hg
    have e2 : moC n zs = 0 := by simp [moC, hg]
    rw [e1, e2]
    rw [hg] at his
    have HEX : Hid (∀ W, Below w.heap.size w W → Calls Tryd.prog 10 #[.agg #[.int .i64 n, v]] W fun e w' => e = .returned (.tuple #[.int .i64 (exD n zs), .int .i64 (exC n zs)]) ∧ Below W.heap.size W w') := fun W hW => implEx_any n v zs W (h.below hW) hl (hT.belowAll hW)
    have HD0 := Lib.hid D0
    generalize exD n zs = D at *
    generalize exC n zs = C at *
    clear e1 e2 hg h hT D0
    by_cases hC : C = 0
    · subst hC
      by_cases hD : D = 0
      · subst hD
        go_enter Tryd.func13, Tryd.ntmps13
        go_wp2_with fail
        refine his.mono ?_
        rintro e w1 ⟨rfl, hb1⟩
        obtain ⟨x0, x1, -, -⟩ := two_cells ((hb1.block w.heap.size (by simp)).trans HB.out)
        have HB1 := Lib.hid (HD0.out.trans (hb1.mono HD0.out.size))
        clear hb1 his
        go_wp2_with (go_at_call 10; refine (HEX.out _ HB1.out).mono ?_; rintro e w3 ⟨rfl, hb3⟩; have HB3 := Lib.hid (HB1.out.trans (hb3.mono HB1.out.size)); clear hb3)
        go_ret2
        exact ⟨rfl, HB3.out⟩
      · have g2 : (D == 0) = false := by rw [beq_eq_false_iff_ne]; exact hD
        rw [g2]
        go_enter Tryd.func13, Tryd.ntmps13
        go_wp2_with fail
        refine his.mono ?_
        rintro e w1 ⟨rfl, hb1⟩
        obtain ⟨x0, x1, -, -⟩ := two_cells ((hb1.block w.heap.size (by simp)).trans HB.out)
        have HB1 := Lib.hid (HD0.out.trans (hb1.mono HD0.out.size))
        clear hb1 his
        go_wp2_with (go_at_call 10; refine (HEX.out _ HB1.out).mono ?_; rintro e w3 ⟨rfl, hb3⟩; have HB3 := Lib.hid (HB1.out.trans (hb3.mono HB1.out.size)); clear hb3)
        go_ret2
        exact ⟨rfl, HB3.out⟩
    · have g2 : (C == 0) = false := by rw [beq_eq_false_iff_ne]; exact hC
      rw [g2]
      go_enter Tryd.func13, Tryd.ntmps13
      go_wp2_with fail
      refine his.mono ?_
      rintro e w1 ⟨rfl, hb1⟩
      obtain ⟨x0, x1, -, -⟩ := two_cells ((hb1.block w.heap.size (by simp)).trans HB.out)
      have HB1 := Lib.hid (HD0.out.trans (hb1.mono HD0.out.size))
      clear hb1 his
      go_wp2_with (go_at_call 10; refine (HEX.out _ HB1.out).mono ?_; rintro e w3 ⟨rfl, hb3⟩; have HB3 := Lib.hid (HB1.out.trans (hb3.mono HB1.out.size)); clear hb3)
      go_ret2
      exact ⟨rfl, HB3.out⟩

set_option maxHeartbeats 1600000 in
theorem specMo_any (n : Int) (v : Value) (zs : List Int) (w : World) (h : Sl w v zs) (hl : zs.length ≤ 9223372036854775807) :
    Calls Tryd.prog 12 #[.agg #[.int .i64 n, v]] w fun e w' => e = .returned (.tuple #[.bool (moD n zs), .int .i64 (moC n zs)]) ∧ Below w.heap.size w w' := by
  have D0 : Below w.heap.size w (w.alloc (.cells #[.int .i64 n, v] 28)) := (Below.refl _ _).alloc (Nat.le_refl _) _
  have his := l01Is_any n v zs _ (h.below D0) hl
  have HB := Lib.hid (World.alloc_heap_new w (.cells #[.int .i64 n, v] 28))
  cases hg : isG n zs with
  | false =>
    have e1 : moD n zs = false := by simp [moD, hg]
    have e2 : moC n zs = 1 := by simp [moC, hg]
    rw [e1, e2]
    rw [hg] at his
    clear e1 e2 hg h
    go_enter Tryd.func12, Tryd.ntmps12
    go_wp2_with (go_at_call 21; refine his.mono ?_; rintro e w1 ⟨rfl, hb1⟩)
    go_ret2
    exact ⟨rfl, D0.trans (hb1.mono (by simp))⟩
  | true =>
    rw [hg] at his
    obtain ⟨h1, _, h3, _⟩ := isG_parts hg
    obtain ⟨b, off, cap, rfl, hb, hc⟩ := sl_some h (by omega)
    obtain rfl : (zs.length : Int) = n := h3
    have HRG : Hid (∀ W, Below w.heap.size w W → Calls Tryd.prog 22 #[.agg #[.int .i64 zs.length, .slice (some ⟨b, off, none⟩) zs.length cap]] W fun e w' => e = .returned (.int .i64 (regV zs)) ∧ Below W.heap.size W w') := fun W hW => regular_some zs.length b off cap zs W (Nat.lt_of_lt_of_le hb hW.size) (hc.below hW hb) hg
    have HGI : Hid (∀ W, Below w.heap.size w W → Calls Tryd.prog 24 #[.agg #[.int .i64 zs.length, .slice (some ⟨b, off, none⟩) zs.length cap], .int .i64 (-1)] W fun e w' => e = .returned (.int .i64 (goN zs)) ∧ Below W.heap.size W w') := fun W hW => girthS_some b off cap zs W (Nat.lt_of_lt_of_le hb hW.size) (hc.below hW hb) hg
    have HCO : Hid (∀ W, Below w.heap.size w W → Calls Tryd.prog 30 #[.agg #[.int .i64 zs.length, .slice (some ⟨b, off, none⟩) zs.length cap]] W fun e w' => e = .returned (.bool (connB zs)) ∧ Below W.heap.size W w') := fun W hW => conn2_some zs.length b off cap zs W (Nat.lt_of_lt_of_le hb hW.size) (hc.below hW hb) hg
    have HD0 := Lib.hid D0
    have hd64 := dg64 zs 0
    have e2 : moC zs.length zs = 0 := by simp [moC, hg]
    rw [e2]
    clear e2
    cases hs : same zs zs.length with
    | false =>
      have e1 : moD zs.length zs = false := by simp [moD, exOk, hs]
      rw [e1]
      rw [regV_no hs] at HRG
      clear e1 hg h hs HGI D0 HCO
      go_enter Tryd.func12, Tryd.ntmps12
      go_wp2_with fail
      refine his.mono ?_
      rintro e w1 ⟨rfl, hb1⟩
      have HX1 := Lib.hid ((hb1.block w.heap.size (by simp)).trans HB.out)
      have HB1 := Lib.hid (HD0.out.trans (hb1.mono HD0.out.size))
      obtain ⟨x0, x1, -, -⟩ := two_cells HX1.out
      clear hb1 his
      go_wp2_with (go_at_call 22; refine (HRG.out _ HB1.out).mono ?_; rintro e w2 ⟨rfl, hb2⟩)
      go_ret2
      exact ⟨rfl, HB1.out.trans (hb2.mono HB1.out.size)⟩
    | true =>
      rw [regV_yes hs] at HRG
      by_cases h2 : 2 ≤ dg zs 0
      · have HBD : Hid (∀ W, Calls Tryd.prog 23 #[.int .i64 (dg zs 0), .int .i64 (goN zs)] W fun e w' => e = .returned (.int .i64 (exB zs)) ∧ W = w') := fun W => boundS_any hg hs h2 W
        cases hcn : connB zs with
        | false =>
          have e1 : moD zs.length zs = false := by
            have : exB zs ≠ zs.length := fun e => by rw [exB_conn hg hs h2 e] at hcn; cases hcn
            simp [moD, this]
          rw [e1]
          rw [hcn] at HCO
          clear e1 hg h hs HGI D0 HBD hcn
          go_enter Tryd.func12, Tryd.ntmps12
          go_wp2_with fail
          refine his.mono ?_
          rintro e w1 ⟨rfl, hb1⟩
          have HX1 := Lib.hid ((hb1.block w.heap.size (by simp)).trans HB.out)
          have HB1 := Lib.hid (HD0.out.trans (hb1.mono HD0.out.size))
          obtain ⟨x0, x1, -, -⟩ := two_cells HX1.out
          have s1 : w.heap.size < w1.heap.size := (Array.getElem?_eq_some_iff.1 HX1.out).1
          clear hb1 his
          go_wp2_with (first
            | (go_at_call 22; refine (HRG.out _ HB1.out).mono ?_; rintro e w2 ⟨rfl, hb2⟩; obtain ⟨y0, y1, -, -⟩ := two_cells ((hb2.block _ s1).trans HX1.out); have HB2 := Lib.hid (HB1.out.trans (hb2.mono HB1.out.size)); clear hb2)
            | (go_at_call 30; refine (HCO.out _ HB2.out).mono ?_; rintro e w3 ⟨rfl, hb3⟩))
          go_ret2
          exact ⟨rfl, HB2.out.trans (hb3.mono HB2.out.size)⟩
        | true =>
          have e1 : moD zs.length zs = ((zs.length : Int) == (exB zs : Int)) := by
            simp only [moD, hg, exOk, hs, decide_eq_true h2, Bool.true_and, Bool.and_true]
            by_cases e : exB zs = zs.length
            · simp [e]
            · have : ((zs.length : Int) == (exB zs : Int)) = false := by rw [beq_eq_false_iff_ne]; omega
              rw [this, decide_eq_false e]
          rw [e1]
          rw [hcn] at HCO
          generalize goN zs = G at *
          generalize exB zs = E at *
          clear e1 hg h hs D0 hcn hc
          go_enter Tryd.func12, Tryd.ntmps12
          go_wp2_with fail
          refine his.mono ?_
          rintro e w1 ⟨rfl, hb1⟩
          have HX1 := Lib.hid ((hb1.block w.heap.size (by simp)).trans HB.out)
          have HB1 := Lib.hid (HD0.out.trans (hb1.mono HD0.out.size))
          obtain ⟨x0, x1, -, -⟩ := two_cells HX1.out
          have s1 : w.heap.size < w1.heap.size := (Array.getElem?_eq_some_iff.1 HX1.out).1
          clear hb1 his
          go_wp2_with (first
            | (go_at_call 22; refine (HRG.out _ HB1.out).mono ?_; rintro e w2 ⟨rfl, hb2⟩; have HX2 := Lib.hid ((hb2.block _ s1).trans HX1.out); obtain ⟨y0, y1, -, -⟩ := two_cells HX2.out; have HB2 := Lib.hid (HB1.out.trans (hb2.mono HB1.out.size)); have s2 : w.heap.size < w2.heap.size := (Array.getElem?_eq_some_iff.1 HX2.out).1; clear hb2)
            | (go_at_call 30; refine (HCO.out _ HB2.out).mono ?_; rintro e w3 ⟨rfl, hb3⟩; have HX3 := Lib.hid ((hb3.block _ s2).trans HX2.out); obtain ⟨z0, z1, -, -⟩ := two_cells HX3.out; have HB3 := Lib.hid (HB2.out.trans (hb3.mono HB2.out.size)); have HD3 : Hid (Below w.heap.size w w3.drew) := HB3.out.drew; have s3 : w.heap.size < w3.heap.size := (Array.getElem?_eq_some_iff.1 HX3.out).1; clear hb3))
          go_region_held3 (fun w' => w'.cell? ⟨w.heap.size, 0, none⟩ = some (.int .i64 zs.length) ∧ w'.cell? ⟨w.heap.size, 1, none⟩ = some (.slice (some ⟨b, off, none⟩) zs.length cap))
            (go_keep)
            (first
              | (go_at_call 22; refine (HRG.out _ HD3.out).mono ?_; rintro e w4 ⟨rfl, hb4⟩; have HX4 := Lib.hid ((hb4.block _ s3).trans HX3.out); obtain ⟨u0, u1, -, -⟩ := two_cells HX4.out; have HB4 := Lib.hid (HD3.out.trans (hb4.mono HD3.out.size)); have s4 : w.heap.size < w4.heap.size := (Array.getElem?_eq_some_iff.1 HX4.out).1; clear hb4)
              | (go_at_call 24; refine (HGI.out _ HB4.out).mono ?_; rintro e w5 ⟨rfl, hb5⟩; have HX5 := Lib.hid ((hb5.block _ s4).trans HX4.out); obtain ⟨t0, t1, -, -⟩ := two_cells HX5.out; have HB5 := Lib.hid (HB4.out.trans (hb5.mono HB4.out.size)); clear hb5)
              | (go_at_call 23; refine (HBD.out _).mono ?_; rintro e w6 ⟨rfl, rfl⟩))
          go_wp2
          go_ret2
          exact ⟨rfl, HB5.out⟩
      · have e1 : moD zs.length zs = false := by simp [moD, exOk, h2]
        rw [e1]
        clear e1 hg h hs HGI D0 HCO
        go_enter Tryd.func12, Tryd.ntmps12
        go_wp2_with fail
        refine his.mono ?_
        rintro e w1 ⟨rfl, hb1⟩
        have HX1 := Lib.hid ((hb1.block w.heap.size (by simp)).trans HB.out)
        have HB1 := Lib.hid (HD0.out.trans (hb1.mono HD0.out.size))
        obtain ⟨x0, x1, -, -⟩ := two_cells HX1.out
        clear hb1 his
        go_wp2_with (go_at_call 22; refine (HRG.out _ HB1.out).mono ?_; rintro e w2 ⟨rfl, hb2⟩)
        go_ret2
        exact ⟨rfl, HB1.out.trans (hb2.mono HB1.out.size)⟩
end Go.Proofs.YtibpnemeehkdbaaDoor
