/-
  Common neighbours of pairs, plain.
-/
import Derived.Test.YthlchifmmmnagaaDoorEi
import Derived.Test.YthlchifmmmnagaaDoorDeg
namespace Go.Proofs.YthlchifmmmnagaaDoor
set_option maxRecDepth 100000
open Go.RowKit Go.Shelf


/-- How many common neighbours a pair has; whether some pairs have equally many; how many the first one has. -/
def cF (zs : List Int) (p : Nat × Nat) : Nat := pc ((el zs p.1).toNat &&& (el zs p.2).toNat)
def alk (zs : List Int) (ps : List (Nat × Nat)) : Bool := ps.all fun p => ps.all fun q => decide (cF zs p = cF zs q)
def cmN (zs : List Int) : List (Nat × Nat) → Nat
  | [] => 0
  | p :: _ => cF zs p
def neB (ps : List (Nat × Nat)) : Bool := !ps.isEmpty
def cmR (zs : List Int) (ps : List (Nat × Nat)) : Int := if alk zs ps then cmN zs ps else 0
def cmB (zs : List Int) (ps : List (Nat × Nat)) : Bool := alk zs ps && neB ps
theorem alk_iff {zs : List Int} {ps : List (Nat × Nat)} : alk zs ps = true ↔ ∀ p q, p ∈ ps → q ∈ ps → cF zs p = cF zs q := by
  unfold alk
  simp only [List.all_eq_true, decide_eq_true_eq]
  exact ⟨fun h p q hp hq => h p hp q hq, fun h p hp q hq => h p q hp hq⟩
theorem cmN_mem {zs : List Int} {ps : List (Nat × Nat)} (h : alk zs ps = true) {p : Nat × Nat} (hp : p ∈ ps) : cF zs p = cmN zs ps := by
  cases ps with
  | nil => cases hp
  | cons q r => exact alk_iff.1 h p q hp List.mem_cons_self
theorem alk_pre {zs : List Int} {ps qs : List (Nat × Nat)} (h : alk zs qs = true) (hp : ps <+: qs) : alk zs ps = true :=
  alk_iff.2 fun p q h1 h2 => alk_iff.1 h p q (hp.subset h1) (hp.subset h2)
theorem cm_first {zs : List Int} {pre : List (Nat × Nat)} (p : Nat × Nat) (h : neB pre = false) : alk zs (pre ++ [p]) = true ∧ cmN zs (pre ++ [p]) = cF zs p := by
  cases pre with
  | nil => exact ⟨alk_iff.2 fun a b h1 h2 => by simp at h1 h2; rw [h1, h2], rfl⟩
  | cons q r => cases h
theorem cm_yes {zs : List Int} {pre : List (Nat × Nat)} {p : Nat × Nat} (h : alk zs pre = true) (hne : neB pre = true) (hc : cF zs p = cmN zs pre) : alk zs (pre ++ [p]) = true ∧ cmN zs (pre ++ [p]) = cF zs p := by
  refine ⟨alk_iff.2 fun a b h1 h2 => ?_, ?_⟩
  · have key : ∀ x, x ∈ pre ++ [p] → cF zs x = cmN zs pre := fun x hx => by
      rcases List.mem_append.1 hx with hx | hx
      · exact cmN_mem h hx
      · simp at hx; rw [hx, hc]
    rw [key a h1, key b h2]
  · cases pre with
    | nil => cases hne
    | cons q r => rw [hc]; rfl
theorem cm_no {zs : List Int} {pre qs : List (Nat × Nat)} {p : Nat × Nat} (hne : neB pre = true) (hc : ¬ cF zs p = cmN zs pre) (hp : pre ++ [p] <+: qs) : alk zs qs = false := by
  cases e : alk zs qs with
  | false => rfl
  | true =>
    have h1 := alk_pre e hp
    cases pre with
    | nil => cases hne
    | cons q r => exact absurd (alk_iff.1 h1 p q (by simp) (by simp)) hc
theorem neB_snoc (pre : List (Nat × Nat)) (p : Nat × Nat) : neB (pre ++ [p]) = true := by unfold neB; simp
theorem edC_lt {zs : List Int} {p : Nat × Nat} (h : p ∈ edL zs) (hz : ∀ i, i < zs.length → (el zs i).toNat < 2 ^ zs.length) : p.1 < p.2 ∧ p.2 < zs.length := by
  obtain ⟨v, w⟩ := p
  obtain ⟨h1, h2, h3, h4⟩ := edL_mem.1 h
  refine ⟨h3, ?_⟩
  refine Nat.lt_of_not_le fun hle => ?_
  unfold bt at h4
  rw [Nat.testBit_lt_two_pow (Nat.lt_of_lt_of_le (hz v h1) (Nat.pow_le_pow_right (by decide) hle))] at h4
  cases h4
end Go.Proofs.YthlchifmmmnagaaDoor
