/-
  Parts one after the other: plain facts.
-/
import Derived.Test.YtbacocldjcenjaaDoorLz
namespace Go.Proofs.YtbacocldjcenjaaDoor
set_option maxRecDepth 100000
open Go.RowKit

/-- The two rows after k rounds of the search from v. -/
def rIt (zs : List Int) (v : Nat) : Nat → Nat × Nat
  | 0 => (2 ^ v, 0)
  | k + 1 => (rEven zs (rIt zs v k).1 (rIt zs v k).2, rOdd zs (rIt zs v k).1 (rIt zs v k).2)
/-- The two rows that the search from v ends with. -/
def RD (zs : List Int) (v : Nat) (p : Nat × Nat) : Prop := ∃ k, p = rIt zs v k ∧ rIt zs v (k + 1) = rIt zs v k
theorem rIt_stay {zs : List Int} {v k : Nat} (h : rIt zs v (k + 1) = rIt zs v k) : ∀ j, rIt zs v (k + j) = rIt zs v k
  | 0 => rfl
  | j + 1 => by
    have ih := rIt_stay h j
    show (rEven zs (rIt zs v (k + j)).1 (rIt zs v (k + j)).2, rOdd zs (rIt zs v (k + j)).1 (rIt zs v (k + j)).2) = _
    rw [ih]; exact h
theorem RD.uniq {zs : List Int} {v : Nat} {p q : Nat × Nat} (h : RD zs v p) (g : RD zs v q) : p = q := by
  obtain ⟨k, rfl, hk⟩ := h
  obtain ⟨j, rfl, hj⟩ := g
  have h1 := rIt_stay hk j
  have h2 := rIt_stay hj k
  rw [Nat.add_comm] at h2
  exact h1.symm.trans h2
theorem rIt_inv {zs : List Int} {v : Nat} (hv : v < zs.length) (h62 : zs.length ≤ 62) (hz : ∀ i, i < zs.length → (el zs i).toNat < 2 ^ zs.length) : ∀ k, RInv zs v (rIt zs v k).1 (rIt zs v k).2
  | 0 => RInv.start hv
  | k + 1 => (rIt_inv hv h62 hz k).next hv h62 hz
theorem RD.ex {zs : List Int} {v : Nat} (hv : v < zs.length) (h62 : zs.length ≤ 62) (hz : ∀ i, i < zs.length → (el zs i).toNat < 2 ^ zs.length) : ∃ p, RD zs v p := by
  refine Classical.byContradiction fun hno => ?_
  have hk : ∀ k, rIt zs v (k + 1) ≠ rIt zs v k := fun k e => hno ⟨_, k, rfl, e⟩
  have grow : ∀ k, k ≤ (rIt zs v k).1 + (rIt zs v k).2 := by
    intro k
    induction k with
    | zero => omega
    | succ k ih =>
      have h1 : (rIt zs v k).1 ≤ (rIt zs v (k + 1)).1 := Nat.left_le_or
      have h2 : (rIt zs v k).2 ≤ (rIt zs v (k + 1)).2 := Nat.left_le_or
      have h3 := hk k
      have : ¬ ((rIt zs v (k + 1)).1 = (rIt zs v k).1 ∧ (rIt zs v (k + 1)).2 = (rIt zs v k).2) := fun e => h3 (Prod.ext e.1 e.2)
      omega
  have h := rIt_inv hv h62 hz (2 * 2 ^ zs.length)
  have h1 := grow (2 * 2 ^ zs.length)
  have h2 := h.elt; have h3 := h.olt
  omega
theorem RD.inv {zs : List Int} {v : Nat} {p : Nat × Nat} (h : RD zs v p) (hv : v < zs.length) (h62 : zs.length ≤ 62) (hz : ∀ i, i < zs.length → (el zs i).toNat < 2 ^ zs.length) : RInv zs v p.1 p.2 := by
  obtain ⟨k, rfl, _⟩ := h
  exact rIt_inv hv h62 hz k
theorem RD.fix {zs : List Int} {v : Nat} {p : Nat × Nat} (h : RD zs v p) : rEven zs p.1 p.2 = p.1 ∧ rOdd zs p.1 p.2 = p.2 := by
  obtain ⟨k, rfl, hk⟩ := h
  exact ⟨congrArg Prod.fst hk, congrArg Prod.snd hk⟩
theorem RD.or {zs : List Int} {v : Nat} {p : Nat × Nat} (h : RD zs v p) (hv : v < zs.length) (h62 : zs.length ≤ 62) (hz : ∀ i, i < zs.length → (el zs i).toNat < 2 ^ zs.length) :
    ∀ w, w < zs.length → (p.1 ||| p.2).testBit w = decide (rch zs v w) := (h.inv hv h62 hz).done h62 h.fix.1 h.fix.2

/-- The least place of a digit 1. -/
def lo (x : Nat) : Nat := Lib.ctz 64 x
/-- The vertices left after k parts, F the rows that the searches end with. -/
def lfN (n : Nat) (F : Nat → Nat × Nat) : Nat → Nat
  | 0 => 2 ^ n - 1
  | k + 1 => anot (lfN n F k) ((F (lo (lfN n F k))).1 ||| (F (lo (lfN n F k))).2)
/-- There are p parts. -/
def PN (n : Nat) (F : Nat → Nat × Nat) (p : Nat) : Prop := lfN n F p = 0 ∧ ∀ k, k < p → lfN n F k ≠ 0

theorem lo_mem {x : Nat} (h0 : x ≠ 0) (hx : x < 2 ^ 64) : ∃ r, mem x = lo x :: r := ⟨_, mem_step x h0 hx⟩
theorem lo_bit {x : Nat} (h0 : x ≠ 0) (hx : x < 2 ^ 64) : x.testBit (lo x) = true := by
  obtain ⟨r, h⟩ := lo_mem h0 hx
  exact (mem_iff.1 (show lo x ∈ mem x by rw [h]; simp)).2
theorem mem_sorted (x : Nat) : (mem x).Pairwise (· < ·) := by
  unfold mem
  exact List.Pairwise.filter _ List.pairwise_lt_range
theorem lo_least {x j : Nat} (h0 : x ≠ 0) (hx : x < 2 ^ 64) (hj : x.testBit j = true) : lo x ≤ j := by
  obtain ⟨r, h⟩ := lo_mem h0 hx
  have hm : j ∈ mem x := mem_iff.2 ⟨bit_lt hx hj, hj⟩
  have hs := mem_sorted x
  rw [h] at hm hs
  rcases List.mem_cons.1 hm with e | hm
  · omega
  · exact Nat.le_of_lt ((List.pairwise_cons.1 hs).1 j hm)

/-- The vertices left after k parts are those that no vertex ahead of v reaches. -/
def PI (zs : List Int) (F : Nat → Nat × Nat) (k v : Nat) : Prop := ∀ w, (lfN zs.length F k).testBit w = true ↔ w < zs.length ∧ ∀ u, u < v → ¬ rch zs u w
/-- v is the least vertex of its part. -/
def leadB (zs : List Int) (v : Nat) : Bool := (List.range v).all fun u => !decide (rch zs u v)
theorem leadB_iff {zs : List Int} {v : Nat} : leadB zs v = true ↔ ∀ u, u < v → ¬ rch zs u v := by
  unfold leadB
  rw [List.all_eq_true]
  constructor
  · intro h u hu
    have := h u (List.mem_range.2 hu)
    simpa using this
  · intro h u hu
    have := h u (List.mem_range.1 hu)
    simpa using this
/-- The part of v; the parts with a least vertex ahead of v. -/
def ptN (zs : List Int) (v : Nat) : List Nat := (List.range zs.length).filter fun w => decide (rch zs v w)
def prN (zs : List Int) : Nat → List Nat
  | 0 => []
  | v + 1 => if leadB zs v then prN zs v ++ [v] else prN zs v
theorem prN_yes {zs : List Int} {v : Nat} (h : leadB zs v = true) : prN zs (v + 1) = prN zs v ++ [v] := by simp [prN, h]
theorem prN_no {zs : List Int} {v : Nat} (h : leadB zs v = false) : prN zs (v + 1) = prN zs v := by simp [prN, h]
theorem prN_length (zs : List Int) : ∀ v, (prN zs v).length ≤ v
  | 0 => Nat.le_refl _
  | v + 1 => by
    have := prN_length zs v
    cases h : leadB zs v with
    | true => rw [prN_yes h, List.length_append]; simp; omega
    | false => rw [prN_no h]; omega

section
variable {zs : List Int} {F : Nat → Nat × Nat} {k v : Nat}
variable (h62 : zs.length ≤ 62) (hz : ∀ i, i < zs.length → (el zs i).toNat < 2 ^ zs.length) (hF : ∀ v, v < zs.length → RD zs v (F v))
theorem PI.start : PI zs F 0 0 := fun w => by
  show (2 ^ zs.length - 1).testBit w = true ↔ _
  rw [Nat.testBit_two_pow_sub_one]
  simp
theorem lfN_lt : ∀ k, lfN zs.length F k < 2 ^ zs.length
  | 0 => by have := Nat.two_pow_pos zs.length; show 2 ^ zs.length - 1 < _; omega
  | k + 1 => anot_lt (lfN_lt k)
include h62 hz hF in
theorem PI.next (h : PI zs F k v) (h0 : lfN zs.length F k ≠ 0) : lo (lfN zs.length F k) < zs.length ∧ v ≤ lo (lfN zs.length F k) ∧ prN zs (lo (lfN zs.length F k) + 1) = prN zs v ++ [lo (lfN zs.length F k)] ∧ PI zs F (k + 1) (lo (lfN zs.length F k) + 1) := by
  have hlt := lfN_lt (zs := zs) (F := F) k
  have h64 : lfN zs.length F k < 2 ^ 64 := Nat.lt_of_lt_of_le hlt (Nat.pow_le_pow_right (by decide) (by omega))
  obtain ⟨y, hy⟩ : ∃ y, y = lo (lfN zs.length F k) := ⟨_, rfl⟩
  have hb := lo_bit h0 h64
  have hleast := fun j => lo_least (j := j) h0 h64
  rw [← hy] at hb hleast ⊢
  obtain ⟨hyn, hyr⟩ := (h y).1 hb
  have hvy : v ≤ y := Nat.le_of_not_lt fun e => hyr y e (rch_self hyn)
  have noLead : ∀ w, v ≤ w → w < y → leadB zs w = false := fun w hw1 hw2 => by
    cases e : leadB zs w with
    | false => rfl
    | true =>
      have := hleast w ((h w).2 ⟨by omega, fun u hu => leadB_iff.1 e u (by omega)⟩)
      omega
  have yLead : ∀ u, u < y → ¬ rch zs u y := fun u hu hr => by
    rcases Nat.lt_or_ge u v with e | e
    · exact hyr u e hr
    · have := hleast u ((h u).2 ⟨by omega, fun x hx hxr => hyr x hx (rch_trans (by omega) hxr hr)⟩)
      omega
  have hpr : ∀ j, v + j ≤ y → prN zs (v + j) = prN zs v := by
    intro j
    induction j with
    | zero => intro _; rfl
    | succ j ih =>
      intro hj
      rw [← Nat.add_assoc, prN_no (noLead (v + j) (by omega) (by omega))]
      exact ih (by omega)
  have e1 := hpr (y - v) (by omega)
  rw [show v + (y - v) = y by omega] at e1
  refine ⟨hyn, hvy, by rw [prN_yes (leadB_iff.2 yLead), e1], fun w => ?_⟩
  show (anot (lfN zs.length F k) ((F (lo (lfN zs.length F k))).1 ||| (F (lo (lfN zs.length F k))).2)).testBit w = true ↔ _
  rw [← hy, anot_bit, Bool.and_eq_true, h w]
  constructor
  · rintro ⟨⟨hw, h1⟩, h2⟩
    rw [(hF y hyn).or hyn h62 hz w hw] at h2
    refine ⟨hw, fun u hu hr => ?_⟩
    rcases Nat.lt_or_ge u v with e | e
    · exact h1 u e hr
    · by_cases e2 : u = y
      · rw [e2] at hr; simp [hr] at h2
      · have hrun : ∃ x, x < v ∧ rch zs x u := by
          refine Classical.byContradiction fun hno => ?_
          have := hleast u ((h u).2 ⟨by omega, fun x hx hxr => hno ⟨x, hx, hxr⟩⟩)
          omega
        obtain ⟨x, hx, hxr⟩ := hrun
        exact h1 x hx (rch_trans (by omega) hxr hr)
  · rintro ⟨hw, h1⟩
    refine ⟨⟨hw, fun u hu => h1 u (by omega)⟩, ?_⟩
    rw [(hF y hyn).or hyn h62 hz w hw]
    have := h1 y (by omega)
    simpa using this
theorem PI.end (h : PI zs F k v) (h0 : lfN zs.length F k = 0) : ∀ j, prN zs (v + j) = prN zs v ∨ zs.length < v + j := by
  have no : ∀ w, w < zs.length → ∃ u, u < v ∧ rch zs u w := fun w hw => by
    refine Classical.byContradiction fun hno => ?_
    have := (h w).2 ⟨hw, fun u hu hr => hno ⟨u, hu, hr⟩⟩
    rw [h0] at this; simp at this
  intro j
  induction j with
  | zero => exact .inl rfl
  | succ j ih =>
    rcases ih with ih | ih
    · by_cases hl : zs.length < v + (j + 1)
      · exact .inr hl
      · obtain ⟨u, hu, hr⟩ := no (v + j) (by omega)
        have : leadB zs (v + j) = false := by
          cases e : leadB zs (v + j) with
          | false => rfl
          | true => exact absurd hr (leadB_iff.1 e u (by omega))
        rw [← Nat.add_assoc, prN_no this]
        exact .inl ih
    · exact .inr (by omega)
theorem PI.last (h : PI zs F k v) (h0 : lfN zs.length F k = 0) (hv : v ≤ zs.length) : prN zs zs.length = prN zs v := by
  have := h.end h0 (zs.length - v)
  rw [show v + (zs.length - v) = zs.length by omega] at this
  rcases this with e | e
  · exact e
  · omega
include h62 hz hF in
/-- There are at most as many parts as vertices. -/
theorem PN.ex : ∃ p, p ≤ zs.length ∧ PN zs.length F p := by
  have key : ∀ k, (∃ p, p ≤ k ∧ p ≤ zs.length ∧ PN zs.length F p) ∨ (∃ v, k ≤ v ∧ v ≤ zs.length ∧ PI zs F k v ∧ ∀ j, j < k → lfN zs.length F j ≠ 0) := by
    intro k
    induction k with
    | zero => exact .inr ⟨0, Nat.le_refl _, Nat.zero_le _, PI.start, fun j hj => absurd hj (by omega)⟩
    | succ k ih =>
      rcases ih with ⟨p, hp, h⟩ | ⟨v, hk, hv, hP, hj⟩
      · exact .inl ⟨p, by omega, h⟩
      · by_cases h0 : lfN zs.length F k = 0
        · exact .inl ⟨k, by omega, by omega, h0, hj⟩
        · obtain ⟨h1, h2, _, h4⟩ := hP.next h62 hz hF h0
          refine .inr ⟨_, by omega, h1, h4, fun j hjk => ?_⟩
          by_cases e : j = k
          · rw [e]; exact h0
          · exact hj j (by omega)
  rcases key (zs.length + 1) with ⟨p, _, h⟩ | ⟨v, h1, h2, _⟩
  · exact ⟨p, h⟩
  · omega
end
theorem part_mem {zs : List Int} {v : Nat} {p : Nat × Nat} (h : RD zs v p) (hv : v < zs.length) (h62 : zs.length ≤ 62) (hz : ∀ i, i < zs.length → (el zs i).toNat < 2 ^ zs.length) : mem (p.1 ||| p.2) = ptN zs v := by
  have hi := h.inv hv h62 hz
  have hlt : p.1 ||| p.2 < 2 ^ zs.length := Nat.or_lt_two_pow hi.elt hi.olt
  have hb := h.or hv h62 hz
  unfold mem ptN
  have e : List.range 64 = List.range zs.length ++ (List.range (64 - zs.length)).map (zs.length + ·) := by
    rw [← List.range_add]; congr 1; omega
  rw [e, List.filter_append]
  have e2 : ((List.range (64 - zs.length)).map (zs.length + ·)).filter (fun j => (p.1 ||| p.2).testBit j) = [] := by
    rw [List.filter_eq_nil_iff]
    intro j hj
    obtain ⟨i, _, rfl⟩ := List.mem_map.1 hj
    rw [Nat.testBit_lt_two_pow (Nat.lt_of_lt_of_le hlt (Nat.pow_le_pow_right (by decide) (by omega)))]
    simp
  rw [e2, List.append_nil]
  exact List.filter_congr fun w hw => hb w (List.mem_range.1 hw)
end Go.Proofs.YtbacocldjcenjaaDoor
