/-
  Groups in memory: laws.toGroup, spec.l05Is, spec.IsGroup, impl.groupBehind, impl.IsGroup. (A plain seat.)
-/
import Derived.Test.YtaekecccpgcgiaaPg
import Derived.Test.YtaekecccpgcgiaaGm
import Derived.Handy
namespace Go.Proofs.Ytaekecccpgcgiaa
set_option maxRecDepth 100000
open Go.RowKit

/-- A group's value. -/
def gv (a b : Int) : Value := .agg #[.int .i64 a, .int .i64 b]
/-- Is it a group? -/
def isGr (a b : Int) : Bool := decide (0 ≤ a) && decide (0 ≤ b) && gOk a.toNat b.toNat

theorem isGr_nat {a b : Int} (h : isGr a b = true) : ∃ k p : Nat, a = k ∧ b = p ∧ gOk k p = true := by
  unfold isGr at h
  simp only [Bool.and_eq_true, decide_eq_true_eq] at h
  exact ⟨a.toNat, b.toNat, by omega, by omega, h.2⟩
theorem isGr_cast (k p : Nat) : isGr k p = gOk k p := by simp [isGr]
theorem isGr_0 (b : Int) : isGr 0 b = (decide (1 ≤ b) && decide (b ≤ 62)) := by
  by_cases h : 0 ≤ b
  · obtain ⟨p, rfl⟩ := Int.eq_ofNat_of_zero_le h
    have := isGr_cast 0 p
    rw [Int.natCast_zero] at this
    rw [this]
    simp [gOk]
    congr 1
    · congr 1; apply propext; omega
    · congr 1; apply propext; omega
  · rw [show decide (1 ≤ b) = false by simp; omega]
    simp [isGr, h]
theorem isGr_1 (b : Int) : isGr 1 b = (decide (1 ≤ b) && decide (b ≤ 31)) := by
  by_cases h : 0 ≤ b
  · obtain ⟨p, rfl⟩ := Int.eq_ofNat_of_zero_le h
    have := isGr_cast 1 p
    rw [Int.natCast_one] at this
    rw [this]
    simp [gOk]
    congr 1
    · congr 1; apply propext; omega
    · congr 1; apply propext; omega
  · rw [show decide (1 ≤ b) = false by simp; omega]
    simp [isGr, h]
theorem isGr_2 (b : Int) : isGr 2 b = decide (b = 2 ∨ b = 3 ∨ b = 5 ∨ b = 7) := by
  by_cases h : 0 ≤ b
  · obtain ⟨p, rfl⟩ := Int.eq_ofNat_of_zero_le h
    have := isGr_cast 2 p
    rw [show ((2 : Nat) : Int) = 2 from rfl] at this
    rw [this, Bool.eq_iff_iff]
    simp only [gOk, Bool.or_eq_true, beq_iff_eq, decide_eq_true_eq]
    omega
  · rw [show decide (b = 2 ∨ b = 3 ∨ b = 5 ∨ b = 7) = false by simp; omega]
    simp [isGr, h]
theorem isGr_else (a b : Int) (h0 : a ≠ 0) (h1 : a ≠ 1) (h2 : a ≠ 2) : isGr a b = false := by
  rw [← Bool.not_eq_true]
  intro h
  obtain ⟨k, p, rfl, rfl, hg⟩ := isGr_nat h
  have := (gOk_lt hg).1
  omega

/-- What stands behind a group. -/
def gIf : Nat → Nat → Value
  | _, p => .iface 57 (.agg #[.int .i64 p])

end Go.Proofs.Ytaekecccpgcgiaa
