/-
  IsStrong: both programs.
-/
import Derived.Test.YtbncfhmpkoaffaaDoorDd8
namespace Go.Proofs.YtbncfhmpkoaffaaDoor
set_option maxRecDepth 100000
set_option maxRecDepth 100000
open Go.RowKit

/-- Whether it is strong, and the code. -/
def stB (n : Int) (zs : List Int) : Bool := isD n zs && aR zs zs.length
theorem rcD_ge {zs : List Int} (hl : zs.length ≤ 62) : decide (0 ≤ rcD zs) = aR zs zs.length := by
  unfold rcD
  cases h : aR zs zs.length with
  | false => simp
  | true => simpa using (mE_ok hl (Nat.le_refl _)).1

set_option maxHeartbeats 1600000 in
theorem specSt_yes (n : Int) (b off cap : Nat) (zs : List Int) (w : World) (hb : b < w.heap.size) (hc : Cells w b off zs) (hl : zs.length ≤ 9223372036854775807) (hd : isD n zs = true) :
    Calls Tryd.prog 28 #[.agg #[.int .i64 n, .slice (some ⟨b, off, none⟩) zs.length cap]] w fun e w' => e = .returned (.tuple #[.bool (aR zs zs.length), .int .i64 0]) ∧ Below w.heap.size w w' := by
  have D0 : Below w.heap.size w (w.alloc (.cells #[.int .i64 n, .slice (some ⟨b, off, none⟩) zs.length cap] 29)) := (Below.refl _ _).alloc (Nat.le_refl _) _
  have his := l08Is_some n b off cap zs _ (Nat.lt_of_lt_of_le hb D0.size) (hc.below D0 hb) hl
  rw [hd] at his
  have hg := dg_ok hd
  obtain rfl : n = (zs.length : Int) := hg.size.symm
  have HG0 := Lib.hid (GBox.newD (n := (zs.length : Int)) (cap := cap) hb hc)
  have HD := Lib.hid D0
  have hdg : ∀ W1, GBox W1 w.heap.size zs.length b off cap zs → Calls Tryd.prog 57 #[.agg #[.int .i64 zs.length, .slice (some ⟨b, off, none⟩) zs.length cap]] W1 fun e w' => e = .returned (.int .i64 (rcD zs)) ∧ Below W1.heap.size W1 w' := fun W1 G => l08Reach_some b off cap zs W1 G.lb G.cells hg
  have HDE := Lib.hid hdg
  have hB := rcD_ge hg.le
  generalize rcD zs = K at HDE hB
  generalize aR zs zs.length = R at hB ⊢
  subst hB
  clear hc hd D0 hdg hg
  go_enter Tryd.func28, Tryd.ntmps28
  go_wp2_with (first
    | (go_at_call 42; refine his.mono ?_; rintro e w1 ⟨rfl, hb1⟩; have HB1 := Lib.hid hb1; have G1 := HG0.out.below (hb1.mono (by simp)); have b0 := G1.b0; have b1 := G1.b1; have HG1 := Lib.hid G1; clear hb1)
    | (go_at_call 57; refine (HDE.out _ HG1.out).mono ?_; rintro e w2 ⟨rfl, hb2⟩; have HB2 := Lib.hid (HD.out.trans ((HB1.out.trans (hb2.mono HB1.out.size)).mono HD.out.size)); clear hb2))
  go_ret2
  exact ⟨by simp, HB2.out⟩

set_option maxHeartbeats 1600000 in
theorem specSt_no (n : Int) (v : Value) (zs : List Int) (w : World) (hs : Sl w v zs) (hl : zs.length ≤ 9223372036854775807) (hd : isD n zs = false) :
    Calls Tryd.prog 28 #[.agg #[.int .i64 n, v]] w fun e w' => e = .returned (.tuple #[.bool false, .int .i64 1]) ∧ Below w.heap.size w w' := by
  have D0 : Below w.heap.size w (w.alloc (.cells #[.int .i64 n, v] 29)) := (Below.refl _ _).alloc (Nat.le_refl _) _
  have his := l08Is_any n v zs _ (hs.below D0) hl
  rw [hd] at his
  have HD := Lib.hid D0
  clear hs hd D0
  go_enter Tryd.func28, Tryd.ntmps28
  go_wp2_with (go_at_call 42; refine his.mono ?_; rintro e w1 ⟨rfl, hb1⟩; have HB1 := Lib.hid (HD.out.trans (hb1.mono HD.out.size)); clear hb1)
  go_ret2
  exact ⟨rfl, HB1.out⟩

theorem specSt_any (n : Int) (v : Value) (zs : List Int) (w : World) (hs : Sl w v zs) (hl : zs.length ≤ 9223372036854775807) :
    Calls Tryd.prog 28 #[.agg #[.int .i64 n, v]] w fun e w' => e = .returned (.tuple #[.bool (stB n zs), .int .i64 (dC n zs)]) ∧ Below w.heap.size w w' := by
  unfold stB dC
  cases hd : isD n zs with
  | false => exact specSt_no n v zs w hs hl hd
  | true =>
    rcases hs with ⟨a, c, rfl, rfl⟩ | ⟨b, off, cap, rfl, hb, hc⟩
    · rw [isD_nil] at hd; exact absurd hd (by simp)
    · exact specSt_yes n b off cap zs w hb hc hl hd

theorem stB_dm (n : Int) (zs : List Int) : stB n zs = decide (dmC n zs = 0) := by
  unfold stB dmC
  cases isD n zs <;> cases aR zs zs.length <;> rfl
theorem dC_dm (n : Int) (zs : List Int) : dC n zs = if dmC n zs = 1 then 1 else 0 := by
  unfold dC dmC
  cases isD n zs <;> cases aR zs zs.length <;> rfl

set_option maxHeartbeats 1600000 in
theorem implSt_any (n : Int) (v : Value) (zs : List Int) (w : World) (hs : Sl w v zs) (hl : zs.length ≤ 9223372036854775807) (hT : TabE w) :
    Calls Tryd.prog 29 #[.agg #[.int .i64 n, v]] w fun e w' => e = .returned (.tuple #[.bool (stB n zs), .int .i64 (dC n zs)]) ∧ Below w.heap.size w w' := by
  rw [stB_dm, dC_dm]
  have D0 : Below w.heap.size w (w.alloc (.cells #[.int .i64 n, v] 29)) := (Below.refl _ _).alloc (Nat.le_refl _) _
  have his := implDm_any n v zs _ (hs.below D0) hl (hT.belowAll D0)
  have HD := Lib.hid D0
  generalize dmC n zs = C at his ⊢
  generalize dmN n zs = M at his
  clear hs D0 hT
  by_cases h1 : C = 1
  · have h2 : ¬ C = 0 := by omega
    rw [if_pos h1, decide_eq_false h2]
    subst h1
    go_enter Tryd.func29, Tryd.ntmps29
    go_wp2_with (go_at_call 31; refine his.mono ?_; rintro e w1 ⟨rfl, hb1⟩; have HB1 := Lib.hid (HD.out.trans (hb1.mono HD.out.size)); clear hb1)
    go_ret2
    exact ⟨rfl, HB1.out⟩
  · have t1 : (C == 1) = false := by simpa using h1
    rw [if_neg h1]
    have HB0 : Hid ((C == 0) = decide (C = 0)) := rfl
    go_enter Tryd.func29, Tryd.ntmps29
    go_wp2_with (go_at_call 31; refine his.mono ?_; rintro e w1 ⟨rfl, hb1⟩; have HB1 := Lib.hid (HD.out.trans (hb1.mono HD.out.size)); clear hb1)
    go_ret2
    exact ⟨rfl, HB1.out⟩
end Go.Proofs.YtbncfhmpkoaffaaDoor
