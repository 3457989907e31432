/-
  Odd graphs: the program's lists, plain facts; impl.areAscending on the plain base.
-/
import Derived.Test.YtapnlheecplpgaaDoorOd2
import Derived.Test.YtapnlheecplpgaaDoorTq
namespace Go.Proofs.YtapnlheecplpgaaDoor
set_option maxRecDepth 100000
open Go.RowKit

/-- The least number that may stand at place k of an ascending list. -/
def ascB (vs : List Int) : Nat → Int
  | 0 => 0
  | k + 1 => el vs k + 1
/-- The first k numbers ascend and are vertices. -/
def ascTo (n : Int) (vs : List Int) (k : Nat) : Bool := (List.range k).all fun i => decide (ascB vs i ≤ el vs i) && decide (el vs i < n)
theorem ascTo_succ (n : Int) (vs : List Int) (k : Nat) : ascTo n vs (k + 1) = (ascTo n vs k && (decide (ascB vs k ≤ el vs k) && decide (el vs k < n))) := by
  unfold ascTo; rw [List.range_succ, List.all_append]; simp
theorem ascTo_at {n : Int} {vs : List Int} {k i : Nat} (h : ascTo n vs k = true) (hi : i < k) : ascB vs i ≤ el vs i ∧ el vs i < n := by
  unfold ascTo at h
  have := List.all_eq_true.1 h i (List.mem_range.2 hi)
  simpa using this
theorem ascTo_no {n : Int} {vs : List Int} {k m : Nat} (hk : k < m) (h : ¬ (ascB vs k ≤ el vs k ∧ el vs k < n)) : ascTo n vs m = false := by
  cases e : ascTo n vs m with
  | false => rfl
  | true => exact absurd (ascTo_at e hk) h
theorem ascTo_ge {n : Int} {vs : List Int} {k : Nat} (h : ascTo n vs k = true) : ∀ i, i < k → (i : Int) ≤ el vs i
  | 0, hi => (ascTo_at h hi).1
  | i + 1, hi => by
    have h1 := (ascTo_at h hi).1
    have h2 := ascTo_ge h i (by omega)
    rw [ascB] at h1
    omega

/-- The ascending ones of some lists. -/
def ascP (n : Int) (t : List Int) : Bool := ascTo n t t.length
def oddT (k : Nat) : List (List Int) := (tups (2 * k - 1) (k - 1)).filter (ascP ((2 * k - 1 : Nat) : Int))
/-- Two lists without a common element. -/
def apart (xs ys : List Int) : Bool := xs.all fun x => !ys.contains x
def apJ (T : List (List Int)) (i : Nat) : Nat → List (Nat × Nat)
  | 0 => []
  | j + 1 => if apart (elS T i) (elS T j) = true then apJ T i j ++ [(j, i)] else apJ T i j
def apS (T : List (List Int)) : Nat → List (Nat × Nat)
  | 0 => []
  | i + 1 => apS T i ++ apJ T i i
theorem apJ_yes {T : List (List Int)} {i j : Nat} (h : apart (elS T i) (elS T j) = true) : apJ T i (j + 1) = apJ T i j ++ [(j, i)] := by rw [apJ, if_pos h]
theorem apJ_no {T : List (List Int)} {i j : Nat} (h : apart (elS T i) (elS T j) = false) : apJ T i (j + 1) = apJ T i j := by rw [apJ, if_neg (by simp [h])]
theorem odd_same : ∀ k : Fin 5, 2 ≤ k.1 → (oddT k.1).length = (oddSets k.1).length ∧ rowsF (oddT k.1).length (adjS (apS (oddT k.1) (oddT k.1).length)) = rowsF (oddSets k.1).length (adjS (oddS (oddSets k.1) (oddSets k.1).length)) := by decide +kernel

set_option maxHeartbeats 800000 in
theorem asc_some (n : Int) (b off cap : Nat) (vs : List Int) (w : World) (hc : Cells w b off vs) (hl : vs.length ≤ 9223372036854775807) (hn : n ≤ 62) :
    Calls Tryd.prog 22 #[.int .i64 n, .slice (some ⟨b, off, none⟩) vs.length cap] w fun e w' => e = .returned (.bool (ascTo n vs vs.length)) ∧ w = w' := by
  have HC := Lib.hid hc; clear hc
  go_enter Tryd.func22, Tryd.ntmps22
  go_wp2
  go_loop [5, 7, 10] (fun l _ i => ∃ k : Nat, k ≤ vs.length ∧ i = .int .i64 k ∧ l = .int .i64 (ascB vs k) ∧ Hid (ascTo n vs k = true)) (fun _ _ i => vs.length - (intOf i).toNat)
  case atStart => exact ⟨0, Nat.zero_le _, rfl, rfl, rfl⟩
  case round =>
    obtain ⟨k, hk, rfl, rfl, HA⟩ := hrel
    by_cases hlt : (k : Int) < vs.length
    · have hkl : k < vs.length := by omega
      have hz : w.cell? ⟨b, off + k, none⟩ = some (.int .i64 (el vs k)) := HC.out k hkl
      have hk0 : (0 : Int) ≤ k := by omega
      by_cases h1 : el vs k < ascB vs k
      · have HN := Lib.hid (ascTo_no (n := n) (vs := vs) hkl (fun h => absurd h.1 (by omega)))
        go_wp2
        go_ret
        exact ⟨ret_bool HN.out.symm, rfl⟩
      · have d1 : decide (el vs k < ascB vs k) = false := by simpa using h1
        by_cases h2 : el vs k < n
        · have HN : Hid (ascTo n vs (k + 1) = true) := by show _ = _; rw [ascTo_succ, HA.out]; simp; omega
          have hlo : 0 ≤ el vs k := by
            have := ascTo_ge HN.out k (by omega)
            omega
          have d2 : decide (n ≤ el vs k) = false := by simp; omega
          have HB : Hid (ascB vs (k + 1) = el vs k + 1) := rfl
          go_wp2
          go_round
          case rel => exact ⟨k + 1, by omega, by go_num, by rw [HB.out], HN⟩
          case measure => simp [intOf]; omega
        · have d2 : decide (n ≤ el vs k) = true := by simp; omega
          have HN := Lib.hid (ascTo_no (n := n) (vs := vs) hkl (fun h => absurd h.2 h2))
          go_wp2
          go_ret
          exact ⟨ret_bool HN.out.symm, rfl⟩
    · have hkl : k = vs.length := by omega
      subst hkl
      go_wp2
      go_ret
      exact ⟨ret_bool HA.out.symm, rfl⟩
end Go.Proofs.YtapnlheecplpgaaDoor
