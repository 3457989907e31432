/-
  The number of digits of a row: both programs' counts.
-/
import Derived.Test.YtlodaeoikkjbkaaDoorOnes
import Derived.Test.YtlodaeoikkjbkaaDoorIsB
import Derived.Test.YtlodaeoikkjbkaaDoorInts
import Derived.Deep.RegionHeld3
namespace Go.Proofs.YtlodaeoikkjbkaaDoor
set_option maxRecDepth 100000
open Go.RowKit

set_option maxHeartbeats 400000 in
theorem countOf_any (z : Int) (w : World) (h0 : 0 ≤ z) (h1 : z ≤ 9223372036854775807) :
    Calls Tryd.prog 43 #[.int .i64 z] w fun e w' => e = .returned (.int .i64 (pc z.toNat)) ∧ w = w' := by
  obtain ⟨x, rfl⟩ := Int.eq_ofNat_of_zero_le h0
  have hu : IntKind.u64.wrap (x : Int) = x := by rw [IntKind.wrap_u64]; omega
  have hc := ones_any x (by omega) w
  rw [Int.toNat_natCast]
  go_enter Tryd.func43, Tryd.ntmps43
  go_wp2_with (go_at_call 69; refine hc.mono ?_; rintro e w' ⟨rfl, rfl⟩)
  go_ret
  exact ⟨rfl, rfl⟩

theorem pcF_zero : ∀ f, pcF f 0 = 0
  | 0 => rfl
  | f + 1 => by rw [pcF, pcF_zero f]
theorem pcF_le : ∀ f x, pcF f x ≤ f
  | 0, _ => Nat.le_refl _
  | f + 1, x => by have := pcF_le f (x / 2); rw [pcF]; omega
theorem pc_le (x : Nat) : pc x ≤ 64 := pcF_le 64 x

/-- The degree of a vertex. -/
def dg (zs : List Int) (v : Nat) : Nat := pc (el zs v).toNat
def same (zs : List Int) (k : Nat) : Bool := (List.range k).all fun v => dg zs v == dg zs 0
theorem same_succ (zs : List Int) (k : Nat) : same zs (k + 1) = (same zs k && (dg zs k == dg zs 0)) := by
  unfold same; rw [List.range_succ, List.all_append]; simp
theorem same_no {zs : List Int} {v : Nat} (hv : v < zs.length) (h : dg zs v ≠ dg zs 0) : same zs zs.length = false := by
  cases e : same zs zs.length with
  | false => rfl
  | true => exact absurd (eq_of_beq (List.all_eq_true.1 e v (List.mem_range.2 hv))) h
/-- The rows of a graph: what its validity gives. -/
theorem isG_parts {n : Int} {zs : List Int} (h : isG n zs = true) : 1 ≤ n ∧ n ≤ 62 ∧ (zs.length : Int) = n ∧ rowsOk n zs zs.length = true ∧ symTo zs zs.length = true := by
  unfold isG at h; simp only [Bool.and_eq_true, decide_eq_true_eq] at h
  exact ⟨h.1.1.1.1, h.1.1.1.2, h.1.1.2, h.1.2, h.2⟩
theorem isG_row_ok {n : Int} {zs : List Int} (h : isG n zs = true) (i : Nat) (hi : i < zs.length) : 0 ≤ el zs i ∧ el zs i ≤ 9223372036854775807 := by
  obtain ⟨h1, h2, _, h4, _⟩ := isG_parts h
  have a := rowOk_ge (rowsOk_at h4 hi)
  have b := rowOk_le (rowsOk_at h4 hi)
  have := pow_bounds n.toNat (by omega)
  exact ⟨a, by omega⟩

theorem nat_of_bne {a b : Nat} (h : (((a : Nat) : Int) != ((b : Nat) : Int)) = false) : a = b := by
  have : ((a : Nat) : Int) = ((b : Nat) : Int) := by simpa using h
  omega
theorem nat_ne_of_bne {a b : Nat} (h : (((a : Nat) : Int) != ((b : Nat) : Int)) = true) : a ≠ b := fun e => by
  subst e; simp at h
attribute [irreducible] dg
/-- What the model's count of a regular degree answers. -/
def regV (zs : List Int) : Int := if same zs zs.length then (dg zs 0 : Int) else -1
theorem regV_yes {zs : List Int} (h : same zs zs.length = true) : regV zs = (dg zs 0 : Int) := by simp [regV, h]
theorem regV_no {zs : List Int} (h : same zs zs.length = false) : regV zs = -1 := by simp [regV, h]

/-- The answer of RegularDegree. -/
def regD (n : Int) (zs : List Int) : Int := if isG n zs then (if same zs zs.length then (dg zs 0 : Int) else 0) else 0
def regC (n : Int) (zs : List Int) : Int := if isG n zs then (if same zs zs.length then 0 else 5) else 1

theorem sl_some {w : World} {v : Value} {zs : List Int} (h : Sl w v zs) (h0 : 0 < zs.length) : ∃ b off cap, v = .slice (some ⟨b, off, none⟩) zs.length cap ∧ b < w.heap.size ∧ Cells w b off zs := by
  rcases h with ⟨_, _, _, rfl⟩ | h
  · simp at h0
  · exact h

end Go.Proofs.YtlodaeoikkjbkaaDoor
