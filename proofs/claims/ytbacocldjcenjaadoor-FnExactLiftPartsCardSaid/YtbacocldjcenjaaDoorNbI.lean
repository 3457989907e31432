/-
  impl.listOf and impl.NeighboursOf.
-/
import Derived.Test.YtbacocldjcenjaaDoorNbS
import Derived.Test.YtbacocldjcenjaaDoorTurn
import Derived.RangeFuncBox
namespace Go.Proofs.YtbacocldjcenjaaDoor
set_option maxRecDepth 100000
open Go.RowKit Go.Shelf

attribute [local go_sem] Oper.semAt_some

/-- Numbers as values. -/
def natsV (l : List Nat) : List Value := l.map fun j : Nat => Value.int .i64 (j : Int)
theorem natsV_append (l m : List Nat) : natsV (l ++ m) = natsV l ++ natsV m := by simp [natsV]
theorem mem_to (x len : Nat) (h : x < 2 ^ len) (hl : len ≤ 64) : mem x = (List.range len).filter fun j => x.testBit j := by
  have key : ∀ d, (List.range (len + d)).filter (fun j => x.testBit j) = (List.range len).filter fun j => x.testBit j := by
    intro d
    induction d with
    | zero => rfl
    | succ d ih =>
      have hb : x.testBit (len + d) = false := Nat.testBit_lt_two_pow (Nat.lt_of_lt_of_le h (Nat.pow_le_pow_right (by decide) (by omega)))
      rw [← Nat.add_assoc, List.range_succ, List.filter_append, ih]
      simp [hb]
  have := key (64 - len)
  rw [show len + (64 - len) = 64 by omega] at this
  exact this

theorem mem_len64 (x : Nat) : (mem x).length ≤ 64 := by
  unfold mem; exact Nat.le_trans (List.length_filter_le _ _) (by simp)

theorem own_nbL {zs : List Int} {a : Nat} (h1 : el zs a ≤ 2 ^ zs.length - 1) (hl : zs.length ≤ 62) {w : World} {B : Nat} {u : Value} (h : w.ownsRow B 2 1 u (mem (el zs a).toNat).length (natsV (mem (el zs a).toNat))) : Own w B u (nbL zs a zs.length) := by
  have e : ((2 : Int) ^ zs.length) = ((2 ^ zs.length : Nat) : Int) := by simp
  have hlt : (el zs a).toNat < 2 ^ zs.length := by rw [e] at h1; have := Nat.two_pow_pos zs.length; omega
  rw [mem_to _ zs.length hlt (by omega)] at h
  unfold Own nbL
  rw [List.length_map, List.map_map]
  exact h

set_option maxHeartbeats 400000 in
theorem isVertex_any (n x : Int) (w : World) :
    Calls Tryd.prog 33 #[.int .i64 n, .int .i64 x] w fun e w' => e = .returned (.bool (decide (0 ≤ x) && decide (x ≤ n - 1))) ∧ w = w' := by
  have hn : decide (x ≤ n - 1) = decide (x < n) := by apply decide_eq_decide.2; omega
  rw [hn]; clear hn
  by_cases h : 0 ≤ x
  · have h' : decide (0 ≤ x) = true := by simpa using h
    have h2 : (decide (0 ≤ x) && decide (x < n)) = decide (x < n) := by rw [h']; rfl
    rw [h2]; clear h2
    go_enter Tryd.func33, Tryd.ntmps33
    go_wp2
    go_ret
    exact ⟨rfl, rfl⟩
  · have h' : decide (0 ≤ x) = false := by simpa using h
    have h2 : (decide (0 ≤ x) && decide (x < n)) = false := by rw [h']; rfl
    rw [h2]; clear h2
    go_enter Tryd.func33, Tryd.ntmps33
    go_wp2
    go_ret
    exact ⟨rfl, rfl⟩

end Go.Proofs.YtbacocldjcenjaaDoor
