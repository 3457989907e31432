/-
  IsMooreDigraph: both programs.
-/
import Derived.Test.YtbncfhmpkoaffaaDoorDd8
import Derived.Test.YtbncfhmpkoaffaaDoorDe8
import Derived.Test.YtbncfhmpkoaffaaDoorBw8
import Derived.Deep.RegionHeld3
namespace Go.Proofs.YtbncfhmpkoaffaaDoor
set_option maxRecDepth 100000
set_option maxRecDepth 100000
open Go.RowKit

theorem dsL_lt {zs : List Int} {v w : Nat} (hv : v < zs.length) (hw : w < zs.length) : el (dsL zs v) w + 1 ≤ zs.length := by
  rw [dsL_at hw]
  rcases Int.lt_or_le (dOf (Rw zs v 0) zs.length v w) 0 with h | h
  · omega
  · obtain ⟨k, hk⟩ := dOf_nat h
    have := lev_few hv (dOf_lt hk)
    omega
theorem mE_lt {zs : List Int} (h0 : 0 < zs.length) : ∀ k, k ≤ zs.length → mE zs k + 1 ≤ zs.length
  | 0, _ => by simp [mE]; omega
  | k + 1, hk => by
    have ih := mE_lt h0 k (by omega)
    have h1 := mxF_le (dsL zs k) ((zs.length : Int) - 1) (by have := dsL_lt (zs := zs) (v := k) (w := 0) (by omega) h0; omega) zs.length fun i hi => by have := dsL_lt (zs := zs) (v := k) (w := i) (by omega) hi; omega
    show max (mE zs k) _ + 1 ≤ _
    omega
theorem pw_none (k : Nat) : pw 0 (k + 1) = 0 := by rw [pw_succ, Nat.mul_zero]
theorem sumP_none : ∀ k, sumP 0 (k + 1) = 1
  | 0 => by rw [sumP_succ, pw_zero]; rfl
  | k + 1 => by rw [sumP_succ, pw_none, sumP_none k]

theorem pc62 {r : Nat} (h : r < 4611686018427387904) : pc r ≤ 62 := by
  rw [pc_few (n := 62) (show r < 2 ^ 62 from h) (by decide)]
  exact Nat.le_trans (List.length_filter_le _ _) (by simp)

/-- Whether it is a Moore digraph. -/
def moB (n : Int) (zs : List Int) : Bool := isD n zs && (dgTo zs zs.length && (aR zs zs.length && (decide (1 ≤ mE zs zs.length) && decide (zs.length = sumP (pc (nat zs 0)) ((mE zs zs.length).toNat + 1)))))
theorem moB_no {n : Int} {zs : List Int} (h : isD n zs = false) : moB n zs = false := by unfold moB; rw [h]; rfl
theorem moB_irr {n : Int} {zs : List Int} (h : dgTo zs zs.length = false) : moB n zs = false := by unfold moB; rw [h]; simp
theorem moB_weak {n : Int} {zs : List Int} (h : aR zs zs.length = false) : moB n zs = false := by unfold moB; rw [h]; simp
theorem moB_near {n : Int} {zs : List Int} (h : ¬ 1 ≤ mE zs zs.length) : moB n zs = false := by unfold moB; rw [decide_eq_false h]; simp
theorem moB_none {n : Int} {zs : List Int} (h0 : 0 < zs.length) (h : pc (nat zs 0) = 0) : moB n zs = false := by
  cases e : moB n zs with
  | false => rfl
  | true =>
    unfold moB at e
    simp only [Bool.and_eq_true, decide_eq_true_eq] at e
    obtain ⟨_, _, _, e1, e2⟩ := e
    rw [h, sumP_none] at e2
    have := mE_lt h0 zs.length (Nat.le_refl _)
    omega
theorem moB_yes {n : Int} {zs : List Int} (hd : isD n zs = true) (h1 : dgTo zs zs.length = true) (h2 : aR zs zs.length = true) {k d : Nat} (h3 : 1 ≤ k) (hk : mE zs zs.length = k) (hpc : pc (nat zs 0) = d) {r : Nat} (hr : SumOk d (k + 1) r) : moB n zs = ((zs.length : Int) == (r : Int)) := by
  have hl := (dg_ok hd).le
  unfold moB
  rw [hd, h1, h2, hk, hpc, decide_eq_true (by omega : (1 : Int) ≤ k), Int.toNat_natCast]
  simp only [Bool.true_and]
  have hx : zs.length = r ↔ zs.length = sumP d (k + 1) := by
    rcases Nat.lt_or_ge 1000000000000 (sumP d (k + 1)) with g | g
    · have := hr.2.1 g
      constructor <;> intro h <;> omega
    · rw [hr.1 g]
  by_cases e : zs.length = r
  · rw [decide_eq_true (hx.1 e), e]; simp
  · rw [decide_eq_false fun h => e (hx.2 h)]
    symm
    simp
    omega

set_option maxHeartbeats 1600000 in
theorem specMo_yes (n : Int) (b off cap : Nat) (zs : List Int) (w : World) (hb : b < w.heap.size) (hc : Cells w b off zs) (hl : zs.length ≤ 9223372036854775807) (hd : isD n zs = true) :
    Calls Tryd.prog 34 #[.agg #[.int .i64 n, .slice (some ⟨b, off, none⟩) zs.length cap]] w fun e w' => e = .returned (.tuple #[.bool (moB n zs), .int .i64 0]) ∧ Below w.heap.size w w' := by
  have D0 : Below w.heap.size w (w.alloc (.cells #[.int .i64 n, .slice (some ⟨b, off, none⟩) zs.length cap] 29)) := (Below.refl _ _).alloc (Nat.le_refl _) _
  have his := l08Is_some n b off cap zs _ (Nat.lt_of_lt_of_le hb D0.size) (hc.below D0 hb) hl
  rw [hd] at his
  have hg := dg_ok hd
  obtain rfl : n = (zs.length : Int) := hg.size.symm
  have HG0 := Lib.hid (GBox.newD (n := (zs.length : Int)) (cap := cap) hb hc)
  have HD := Lib.hid D0
  have HG := Lib.hid hg
  have hp0 : 0 < zs.length := hg.pos
  have hl62 : zs.length ≤ 62 := hg.le
  have hdg : ∀ W1, GBox W1 w.heap.size zs.length b off cap zs → Calls Tryd.prog 55 #[.agg #[.int .i64 zs.length, .slice (some ⟨b, off, none⟩) zs.length cap]] W1 fun e w' => e = .returned (.int .i64 (dgD zs)) ∧ Below W1.heap.size W1 w' := fun W1 G => l08Deg_some _ b off cap zs W1 G.lb G.cells hg
  have hrc : ∀ W1, GBox W1 w.heap.size zs.length b off cap zs → Calls Tryd.prog 57 #[.agg #[.int .i64 zs.length, .slice (some ⟨b, off, none⟩) zs.length cap]] W1 fun e w' => e = .returned (.int .i64 (rcD zs)) ∧ Below W1.heap.size W1 w' := fun W1 G => l08Reach_some b off cap zs W1 G.lb G.cells hg
  have HDE := Lib.hid hdg
  have HRC := Lib.hid hrc
  have HX := Lib.hid hd
  obtain ⟨D, hD⟩ : ∃ D, D = dgD zs := ⟨_, rfl⟩
  obtain ⟨K, hK⟩ : ∃ K, K = rcD zs := ⟨_, rfl⟩
  obtain ⟨M, hM⟩ : ∃ M, M = moB zs.length zs := ⟨_, rfl⟩
  rw [← hD] at HDE
  rw [← hK] at HRC
  rw [← hM]
  have HDD := Lib.hid hD
  have HKK := Lib.hid hK
  have HMM := Lib.hid hM
  clear hc hd D0 hdg hrc hg hD hK hM
  go_enter Tryd.func34, Tryd.ntmps34
  go_upto_region 3 with (go_at_call 42; refine his.mono ?_; rintro e w1 ⟨rfl, hb1⟩; have HB1 := Lib.hid hb1; have G1 := HG0.out.below (hb1.mono (by simp)); have b0 := G1.b0; have b1 := G1.b1; have DW := HD.out.trans (hb1.mono HD.out.size); clear hb1)
  have GD : GBox w1.drew w.heap.size zs.length b off cap zs := G1.drewN 1
  have BD : Below w.heap.size w w1.drew := DW.drew
  have hws : w.heap.size ≤ w1.drew.heap.size := by have := DW.size; simpa using this
  go_region_held3 (fun w' => w'.cell? ⟨w.heap.size, 0, none⟩ = some (.int .i64 zs.length) ∧ w'.cell? ⟨w.heap.size, 1, none⟩ = some (.slice (some ⟨b, off, none⟩) zs.length cap))
    (go_keep)
    (first
      | (go_at_call 55; refine (HDE.out _ (by assumption)).mono ?_; rintro e w2 ⟨rfl, hb2⟩; have hb3 := hb2.mono (GBox.lt (H := w.heap.size) (n := zs.length) (b := b) (off := off) (cap := cap) (zs := zs) (by assumption)); have G2 : GBox w2 w.heap.size zs.length b off cap zs := GBox.below (by assumption) hb3; have k0 := G2.b0; have k1 := G2.b1; have D2 : Below w.heap.size w w2 := Below.trans (by assumption) (hb3.mono (by omega)))
      | (go_at_call 57; refine (HRC.out _ (by assumption)).mono ?_; rintro e w2 ⟨rfl, hb2⟩; have hb3 := hb2.mono (GBox.lt (H := w.heap.size) (n := zs.length) (b := b) (off := off) (cap := cap) (zs := zs) (by assumption)); have G2 : GBox w2 w.heap.size zs.length b off cap zs := GBox.below (by assumption) hb3; have k0 := G2.b0; have k1 := G2.b1; have D2 : Below w.heap.size w w2 := Below.trans (by assumption) (hb3.mono (by omega))))
  have HW := Lib.hid G2
  have HB2 := Lib.hid D2
  have q0 := G2.b0
  have q1 := G2.b1
  clear GD BD G1 G2 DW HDE HRC his hws b0 b1 k0 k1 hb3 D2
  by_cases h1 : 1 ≤ D
  · have hdt : dgTo zs zs.length = true := by
      cases e : dgTo zs zs.length with
      | true => rfl
      | false => have := HDD.out; unfold dgD at this; rw [e, if_neg (by simp)] at this; omega
    have HDT := Lib.hid hdt
    have HP : Hid (D = pc (nat zs 0)) := by have := HDD.out; unfold dgD at this; rwa [hdt, if_pos rfl] at this
    obtain ⟨d, rfl⟩ := Int.eq_ofNat_of_zero_le (show 0 ≤ D by omega)
    have hd62 : d ≤ 62 := by
      have h := HP.out
      have h2 := pc62 (HG.out.lt62 0)
      omega
    by_cases h2 : 1 ≤ K
    · have hrt : aR zs zs.length = true := by
        cases e : aR zs zs.length with
        | true => rfl
        | false => have := HKK.out; unfold rcD at this; rw [e, if_neg (by simp)] at this; omega
      have hkm : K = mE zs zs.length := by have := HKK.out; unfold rcD at this; rwa [hrt, if_pos rfl] at this
      have hk61 : K ≤ 61 := by rw [hkm]; exact (mE_ok hl62 (Nat.le_refl _)).2
      obtain ⟨k, rfl⟩ := Int.eq_ofNat_of_zero_le (show 0 ≤ K by omega)
      have HF : Hid (M = ((zs.length : Int) == ((cap12 (sumP d (k + 1)) : Nat) : Int))) := by
        show _ = _
        rw [HMM.out]
        exact moB_yes HX.out HDT.out hrt (by omega) hkm.symm (by have := HP.out; omega) (SumOk.cap d (k + 1))
      have hs := fun W => l02Sum_any d (k + 1) W hd62 (by omega)
      rw [Int.natCast_add k 1, Int.natCast_one] at hs
      generalize cap12 (sumP d (k + 1)) = S at hs HF
      have d1 : decide (1 ≤ (d : Int)) = true := by simp; omega
      have d2 : decide (1 ≤ (k : Int)) = true := by simp; omega
      clear hdt hrt hkm
      go_wp2_with fail
      go_quiet ((go_at_call 64; exact qsame (hs _)))
      go_wp2
      go_ret2
      exact ⟨by rw [HF.out]; rfl, drewN_below HB2.out _⟩
    · have HF : Hid (M = false) := by
        show _ = _
        rw [HMM.out]
        cases e : aR zs zs.length with
        | false => exact moB_weak e
        | true =>
          have h := HKK.out
          unfold rcD at h
          rw [e, if_pos rfl] at h
          exact moB_near (by omega)
      have d1 : decide (1 ≤ (d : Int)) = true := by simp; omega
      have d2 : decide (1 ≤ K) = false := by simp; omega
      clear hdt
      go_wp2_with fail
      go_quiet (fail)
      go_wp2
      go_ret2
      exact ⟨by rw [HF.out]; rfl, drewN_below HB2.out _⟩
  · have HF : Hid (M = false) := by
      show _ = _
      rw [HMM.out]
      cases e : dgTo zs zs.length with
      | false => exact moB_irr e
      | true =>
        have h := HDD.out
        unfold dgD at h
        rw [e, if_pos rfl] at h
        exact moB_none hp0 (by omega)
    have d1 : decide (1 ≤ D) = false := by simp; omega
    go_wp2_with fail
    go_quiet (fail)
    go_wp2
    go_ret2
    exact ⟨by rw [HF.out]; rfl, drewN_below HB2.out _⟩

set_option maxHeartbeats 1600000 in
theorem specMo_no (n : Int) (v : Value) (zs : List Int) (w : World) (hs : Sl w v zs) (hl : zs.length ≤ 9223372036854775807) (hd : isD n zs = false) :
    Calls Tryd.prog 34 #[.agg #[.int .i64 n, v]] w fun e w' => e = .returned (.tuple #[.bool false, .int .i64 1]) ∧ Below w.heap.size w w' := by
  have D0 : Below w.heap.size w (w.alloc (.cells #[.int .i64 n, v] 29)) := (Below.refl _ _).alloc (Nat.le_refl _) _
  have his := l08Is_any n v zs _ (hs.below D0) hl
  rw [hd] at his
  have HD := Lib.hid D0
  clear hs hd D0
  go_enter Tryd.func34, Tryd.ntmps34
  go_wp2_with (go_at_call 42; refine his.mono ?_; rintro e w1 ⟨rfl, hb1⟩; have HB1 := Lib.hid (HD.out.trans (hb1.mono HD.out.size)); clear hb1)
  go_ret2
  exact ⟨rfl, HB1.out⟩

theorem specMo_any (n : Int) (v : Value) (zs : List Int) (w : World) (hs : Sl w v zs) (hl : zs.length ≤ 9223372036854775807) :
    Calls Tryd.prog 34 #[.agg #[.int .i64 n, v]] w fun e w' => e = .returned (.tuple #[.bool (moB n zs), .int .i64 (dC n zs)]) ∧ Below w.heap.size w w' := by
  unfold dC
  cases hd : isD n zs with
  | false => rw [moB_no hd]; exact specMo_no n v zs w hs hl hd
  | true =>
    rcases hs with ⟨a, c, rfl, rfl⟩ | ⟨b, off, cap, rfl, hb, hc⟩
    · rw [isD_nil] at hd; exact absurd hd (by simp)
    · exact specMo_yes n b off cap zs w hb hc hl hd

set_option maxHeartbeats 800000 in
theorem digB_any (d k : Nat) (w : World) (h2 : d ≤ 62) (h4 : k ≤ 61) :
    Calls Tryd.prog 65 #[.int .i64 d, .int .i64 k] w fun e w' => SumRes d (k + 1) e ∧ w = w' := by
  have hs := fun W => sumOf_any d (k + 1) W (by omega) (by omega)
  rw [Int.natCast_add k 1, Int.natCast_one] at hs
  go_enter Tryd.func65, Tryd.ntmps65
  go_wp2_with (go_at_call 80; refine (hs _).mono ?_; rintro e w' ⟨⟨r, rfl, hr⟩, rfl⟩; have HR := Lib.hid hr; clear hr)
  go_ret
  exact ⟨⟨r, rfl, HR.out⟩, rfl⟩

set_option maxHeartbeats 1600000 in
theorem implMo_no (n : Int) (v : Value) (zs : List Int) (w : World) (hs : Sl w v zs) (hl : zs.length ≤ 9223372036854775807) (hT : TabE w) (hd : isD n zs = false) :
    Calls Tryd.prog 35 #[.agg #[.int .i64 n, v]] w fun e w' => e = .returned (.tuple #[.bool false, .int .i64 1]) ∧ Below w.heap.size w w' := by
  have D0 : Below w.heap.size w (w.alloc (.cells #[.int .i64 n, v] 29)) := (Below.refl _ _).alloc (Nat.le_refl _) _
  have his := chkD_any n v zs _ (hs.below D0) hl (hT.2.belowAll D0)
  unfold dC at his
  rw [hd, if_neg (by simp)] at his
  have HD := Lib.hid D0
  clear hs hd D0 hT
  go_enter Tryd.func35, Tryd.ntmps35
  go_wp2_with (go_at_call 45; refine his.mono ?_; rintro e w1 ⟨rfl, hb1⟩; have HB1 := Lib.hid (HD.out.trans (hb1.mono HD.out.size)); clear hb1)
  go_ret2
  exact ⟨rfl, HB1.out⟩

set_option maxHeartbeats 3200000 in
theorem implMo_yes (n : Int) (b off cap : Nat) (zs : List Int) (w : World) (hb : b < w.heap.size) (hc : Cells w b off zs) (hl : zs.length ≤ 9223372036854775807) (hT : TabE w) (hd : isD n zs = true) :
    Calls Tryd.prog 35 #[.agg #[.int .i64 n, .slice (some ⟨b, off, none⟩) zs.length cap]] w fun e w' => e = .returned (.tuple #[.bool (moB n zs), .int .i64 0]) ∧ Below w.heap.size w w' := by
  have D0 : Below w.heap.size w (w.alloc (.cells #[.int .i64 n, .slice (some ⟨b, off, none⟩) zs.length cap] 29)) := (Below.refl _ _).alloc (Nat.le_refl _) _
  have his := chkD_any n _ zs _ (.inr ⟨b, off, cap, rfl, Nat.lt_of_lt_of_le hb D0.size, hc.below D0 hb⟩) hl (hT.2.belowAll D0)
  unfold dC at his
  rw [hd, if_pos rfl] at his
  have hg := dg_ok hd
  obtain rfl : n = (zs.length : Int) := hg.size.symm
  have HG0 := Lib.hid (GBox.newD (n := (zs.length : Int)) (cap := cap) hb hc)
  have HD := Lib.hid D0
  have HT := Lib.hid (hT.belowAll D0)
  have HG := Lib.hid hg
  have hp0 : 0 < zs.length := hg.pos
  have hl62 : zs.length ≤ 62 := hg.le
  have hde : ∀ W1, TabE W1 → GBox W1 w.heap.size zs.length b off cap zs → Calls Tryd.prog 27 #[.agg #[.int .i64 zs.length, .slice (some ⟨b, off, none⟩) zs.length cap]] W1 fun e w' => e = .returned (.tuple #[.int .i64 (deD zs.length zs), .int .i64 (deC zs.length zs)]) ∧ Below W1.heap.size W1 w' := fun W1 T G => implDe_any _ _ zs W1 (.inr ⟨b, off, cap, rfl, G.lb, G.cells⟩) hl T
  have hdm : ∀ W1, TabE W1 → GBox W1 w.heap.size zs.length b off cap zs → Calls Tryd.prog 31 #[.agg #[.int .i64 zs.length, .slice (some ⟨b, off, none⟩) zs.length cap]] W1 fun e w' => e = .returned (.tuple #[.int .i64 (dmN zs.length zs), .int .i64 (dmC zs.length zs)]) ∧ Below W1.heap.size W1 w' := fun W1 T G => implDm_any _ _ zs W1 (.inr ⟨b, off, cap, rfl, G.lb, G.cells⟩) hl T
  have HDE := Lib.hid hde
  have HDM := Lib.hid hdm
  have HX := Lib.hid hd
  obtain ⟨dV, hdV⟩ : ∃ x, x = deD zs.length zs := ⟨_, rfl⟩
  obtain ⟨dE, hdE⟩ : ∃ x, x = deC zs.length zs := ⟨_, rfl⟩
  obtain ⟨mV, hmV⟩ : ∃ x, x = dmN zs.length zs := ⟨_, rfl⟩
  obtain ⟨mC, hmC⟩ : ∃ x, x = dmC zs.length zs := ⟨_, rfl⟩
  obtain ⟨M, hM⟩ : ∃ M, M = moB zs.length zs := ⟨_, rfl⟩
  rw [← hdV, ← hdE] at HDE
  rw [← hmV, ← hmC] at HDM
  rw [← hM]
  have HDV := Lib.hid hdV
  have HDC := Lib.hid hdE
  have HMV := Lib.hid hmV
  have HMC := Lib.hid hmC
  have HMM := Lib.hid hM
  clear hc D0 hg hT hd hde hdm hdV hdE hmV hmC hM
  go_enter Tryd.func35, Tryd.ntmps35
  go_upto_region 6 with (first
    | (go_at_call 45; refine his.mono ?_; rintro e w1 ⟨rfl, hb1⟩; have G1 := HG0.out.below (hb1.mono (by simp)); have b0 := G1.b0; have b1 := G1.b1; have HG1 := Lib.hid G1; have T1 := Lib.hid (HT.out.belowAll hb1); have D1 := Lib.hid (HD.out.trans (hb1.mono HD.out.size)); have s1 := G1.lt; clear hb1 G1)
    | (go_at_call 27; refine (HDE.out _ T1.out HG1.out).mono ?_; rintro e w2 ⟨rfl, hb2⟩; have G2 := HG1.out.below (hb2.mono (by omega)); have c0 := G2.b0; have c1 := G2.b1; have HG2 := Lib.hid G2; have T2 := Lib.hid (T1.out.belowAll hb2); have D2 := Lib.hid (D1.out.trans (hb2.mono D1.out.size)); have s2 := G2.lt; clear hb2 G2 b0 b1)
    | (go_at_call 31; refine (HDM.out _ T2.out HG2.out).mono ?_; rintro e w3 ⟨rfl, hb3⟩; have G3 := HG2.out.below (hb3.mono (by omega)); have e0 := G3.b0; have e1 := G3.b1; have D3 := Lib.hid (D2.out.trans (hb3.mono D2.out.size)); clear hb3 G3 c0 c1))
  clear HDE HDM his
  cases hdt : dgTo zs zs.length with
  | false =>
    have hc : dE = 5 := by rw [HDC.out]; unfold deC; rw [HX.out, hdt]; rfl
    have HF : Hid (M = false) := by show _ = _; rw [HMM.out]; exact moB_irr hdt
    clear hdt
    subst hc
    go_wp2_with fail
    go_ret2
    exact ⟨by rw [HF.out]; rfl, D3.out⟩
  | true =>
    have hc : dE = 0 := by rw [HDC.out]; unfold deC; rw [HX.out, hdt]; rfl
    subst hc
    have HP : Hid (dV = pc (nat zs 0)) := by have := HDV.out; unfold deD at this; rwa [HX.out, hdt, if_pos rfl, if_pos rfl] at this
    have HDT := Lib.hid hdt
    obtain ⟨d, rfl⟩ : ∃ d : Nat, dV = d := ⟨_, HP.out⟩
    have hd62 : d ≤ 62 := by
      have h := HP.out
      have h2 := pc62 (HG.out.lt62 0)
      omega
    clear hdt
    cases hrt : aR zs zs.length with
    | false =>
      have hc : mC = 5 := by rw [HMC.out]; unfold dmC; rw [HX.out, hrt]; rfl
      have HF : Hid (M = false) := by show _ = _; rw [HMM.out]; exact moB_weak hrt
      clear hrt
      subst hc
      go_wp2_with fail
      go_ret2
      exact ⟨by rw [HF.out]; rfl, D3.out⟩
    | true =>
      have hc : mC = 0 := by rw [HMC.out]; unfold dmC; rw [HX.out, hrt]; rfl
      subst hc
      have hkm : mV = mE zs zs.length := by have := HMV.out; unfold dmN at this; rwa [HX.out, hrt, if_pos rfl, if_pos rfl] at this
      have hk61 : 0 ≤ mV ∧ mV ≤ 61 := by rw [hkm]; exact mE_ok hl62 (Nat.le_refl _)
      have HKM := Lib.hid hkm
      have HRT := Lib.hid hrt
      clear hrt hkm
      obtain ⟨k, rfl⟩ := Int.eq_ofNat_of_zero_le hk61.1
      by_cases h2 : (k : Int) < 1
      · have HF : Hid (M = false) := by show _ = _; rw [HMM.out]; exact moB_near (by rw [← HKM.out]; omega)
        go_wp2_with fail
        go_ret2
        exact ⟨by rw [HF.out]; rfl, D3.out⟩
      · have hs := fun W => digB_any d k W hd62 (by omega)
        go_wp2_with fail
        go_region_with (go_at_call 65; refine (hs _).mono ?_; rintro e w' ⟨⟨r, rfl, hr⟩, rfl⟩; have HR := Lib.hid hr; clear hr)
        all_goals
          go_wp2_with fail
          have HF : M = ((zs.length : Int) == (r : Int)) := by
            rw [HMM.out]
            exact moB_yes HX.out HDT.out HRT.out (by omega) HKM.out.symm (by have := HP.out; omega) HR.out
          go_ret2
          exact ⟨by rw [HF]; rfl, D3.out.drew⟩

theorem implMo_any (n : Int) (v : Value) (zs : List Int) (w : World) (hs : Sl w v zs) (hl : zs.length ≤ 9223372036854775807) (hT : TabE w) :
    Calls Tryd.prog 35 #[.agg #[.int .i64 n, v]] w fun e w' => e = .returned (.tuple #[.bool (moB n zs), .int .i64 (dC n zs)]) ∧ Below w.heap.size w w' := by
  unfold dC
  cases hd : isD n zs with
  | false => rw [moB_no hd]; exact implMo_no n v zs w hs hl hT hd
  | true =>
    rcases hs with ⟨a, c, rfl, rfl⟩ | ⟨b, off, cap, rfl, hb, hc⟩
    · rw [isD_nil] at hd; exact absurd hd (by simp)
    · exact implMo_yes n b off cap zs w hb hc hl hT hd
end Go.Proofs.YtbncfhmpkoaffaaDoor
