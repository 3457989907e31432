/-
  What can be reached, and greatest and least numbers: plain facts.
-/
import Derived.Test.YtbacocldjcenjaaDoorLm
namespace Go.Proofs.YtbacocldjcenjaaDoor
set_option maxRecDepth 100000
open Go.RowKit

theorem reach_step {R : Nat → Nat → Bool} {n v x y : Nat} (hv : v < n) (hxn : x < n) (hx : 0 ≤ dOf R n v x) (hR : R x y = true) (hy : y < n) : 0 ≤ dOf R n v y := by
  obtain ⟨d, hd⟩ := dOf_nat hx
  have hl := dOf_lt hd
  cases hm : met R n v d y with
  | true =>
    obtain ⟨k, _, hk⟩ := met_iff.1 hm
    rw [dOf_lev hv hk]; omega
  | false =>
    have := lev_succ_iff.2 ⟨hy, hm, x, hxn, hl, hR⟩
    rw [dOf_lev hv this]; omega

/-- What holds between two rounds: the vertices to which there are ways of even, and of odd lengths. -/
structure RInv (zs : List Int) (v ev od : Nat) : Prop where
  elt : ev < 2 ^ zs.length
  olt : od < 2 ^ zs.length
  at0 : ev.testBit v = true
  ok : ∀ w, w < zs.length → (ev ||| od).testBit w = true → 0 ≤ dOf (Rw zs v 0) zs.length v w
def rOdd (zs : List Int) (ev od : Nat) : Nat := od ||| arN zs (mem ev)
def rEven (zs : List Int) (ev od : Nat) : Nat := ev ||| arN zs (mem (rOdd zs ev od))
theorem bit_lt {a m w : Nat} (h : a < 2 ^ m) (hb : a.testBit w = true) : w < m := by
  refine Nat.lt_of_not_le fun hle => ?_
  have := Nat.testBit_lt_two_pow (Nat.lt_of_lt_of_le h (Nat.pow_le_pow_right (show 0 < 2 by decide) hle))
  rw [this] at hb; cases hb
theorem ar_iff {zs : List Int} {a w : Nat} (ha : a < 2 ^ zs.length) (h62 : zs.length ≤ 62) : (arN zs (mem a)).testBit w = true ↔ ∃ x, x < zs.length ∧ a.testBit x = true ∧ bt (el zs x) w = true := by
  rw [arN_bit, List.any_eq_true]
  constructor
  · rintro ⟨x, hx, hb⟩
    have h := (mem_iff.1 hx).2
    exact ⟨x, bit_lt ha h, h, hb⟩
  · rintro ⟨x, hx, h, hb⟩
    exact ⟨x, mem_iff.2 ⟨by omega, h⟩, hb⟩
theorem RInv.start {zs : List Int} {v : Nat} (hv : v < zs.length) : RInv zs v (2 ^ v) 0 := by
  refine ⟨Nat.pow_lt_pow_right (by decide) hv, Nat.two_pow_pos _, by rw [Nat.testBit_two_pow]; simp, fun w _ hb => ?_⟩
  rw [Nat.or_zero, Nat.testBit_two_pow] at hb
  have : v = w := by simpa using hb
  subst this
  rw [dOf_lev (R := Rw zs v 0) hv (d := 0) (by rw [lev_zero]; simp)]
  omega
theorem RInv.next {zs : List Int} {v ev od : Nat} (h : RInv zs v ev od) (hv : v < zs.length) (h62 : zs.length ≤ 62) (hz : ∀ i, i < zs.length → (el zs i).toNat < 2 ^ zs.length) : RInv zs v (rEven zs ev od) (rOdd zs ev od) := by
  have ho : rOdd zs ev od < 2 ^ zs.length := Nat.or_lt_two_pow h.olt (arN_lt zs _ hz _)
  have he : rEven zs ev od < 2 ^ zs.length := Nat.or_lt_two_pow h.elt (arN_lt zs _ hz _)
  have k1 : ∀ w, w < zs.length → (rOdd zs ev od).testBit w = true → 0 ≤ dOf (Rw zs v 0) zs.length v w := by
    intro w hw hb
    unfold rOdd at hb
    rw [Nat.testBit_or, Bool.or_eq_true] at hb
    rcases hb with hb | hb
    · exact h.ok w hw (by rw [Nat.testBit_or, hb]; simp)
    · obtain ⟨x, hx, hxb, hR⟩ := (ar_iff h.elt h62).1 hb
      exact reach_step hv hx (h.ok x hx (by rw [Nat.testBit_or, hxb]; rfl)) (by unfold Rw; simp [hR]) hw
  refine ⟨he, ho, by unfold rEven; rw [Nat.testBit_or, h.at0]; rfl, fun w hw hb => ?_⟩
  rw [Nat.testBit_or, Bool.or_eq_true] at hb
  rcases hb with hb | hb
  · unfold rEven at hb
    rw [Nat.testBit_or, Bool.or_eq_true] at hb
    rcases hb with hb | hb
    · exact h.ok w hw (by rw [Nat.testBit_or, hb]; rfl)
    · obtain ⟨x, hx, hxb, hR⟩ := (ar_iff ho h62).1 hb
      exact reach_step hv hx (k1 x hx hxb) (by unfold Rw; simp [hR]) hw
  · exact k1 w hw hb
theorem RInv.done {zs : List Int} {v ev od : Nat} (h : RInv zs v ev od) (h62 : zs.length ≤ 62) (he : rEven zs ev od = ev) (ho : rOdd zs ev od = od) : ∀ w, w < zs.length → ((ev ||| od).testBit w = decide (0 ≤ dOf (Rw zs v 0) zs.length v w)) := by
  have closed : ∀ x w, x < zs.length → (ev ||| od).testBit x = true → bt (el zs x) w = true → (ev ||| od).testBit w = true := by
    intro x w hx hb hR
    rw [Nat.testBit_or, Bool.or_eq_true] at hb
    rw [Nat.testBit_or, Bool.or_eq_true]
    rcases hb with hb | hb
    · refine .inr ?_
      rw [← ho]; unfold rOdd
      rw [Nat.testBit_or, (ar_iff h.elt h62).2 ⟨x, hx, hb, hR⟩]; simp
    · refine .inl ?_
      rw [← he]; unfold rEven
      rw [ho, Nat.testBit_or, (ar_iff h.olt h62).2 ⟨x, hx, hb, hR⟩]; simp
  have key : ∀ d w, lev (Rw zs v 0) zs.length v d w = true → (ev ||| od).testBit w = true := by
    intro d
    induction d with
    | zero =>
      intro w hw
      rw [lev_zero] at hw
      have : w = v := by simpa using hw
      rw [this, Nat.testBit_or, h.at0]; rfl
    | succ d ih =>
      intro w hw
      obtain ⟨_, _, x, hx, hl, hR⟩ := lev_succ_iff.1 hw
      have hR2 : bt (el zs x) w = true := by unfold Rw at hR; simp only [Bool.and_eq_true] at hR; exact hR.1
      exact closed x w hx (ih x hl) hR2
  intro w hw
  rw [Bool.eq_iff_iff, decide_eq_true_iff]
  constructor
  · exact h.ok w hw
  · intro hd
    obtain ⟨d, hd⟩ := dOf_nat hd
    exact key d w (dOf_lt hd)

/-- Whether all vertices are reached from 0. -/
def connB (zs : List Int) : Bool := (List.range zs.length).all fun w => decide (0 ≤ el (dsL zs 0) w)
end Go.Proofs.YtbacocldjcenjaaDoor
