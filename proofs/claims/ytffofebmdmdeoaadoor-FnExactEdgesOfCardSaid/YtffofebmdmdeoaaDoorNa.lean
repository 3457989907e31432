/-
  impl.neighboursAround: the rows of a row's members taken together.
-/
import Derived.Test.YtffofebmdmdeoaaDoorNbI
import Derived.Test.YtffofebmdmdeoaaDoorTurn
import Derived.RangeFuncBox
namespace Go.Proofs.YtffofebmdmdeoaaDoor
set_option maxRecDepth 100000
open Go.RowKit Go.Shelf

attribute [local go_sem] Oper.semAt_some

/-- The rows of some vertices taken together. -/
def arN (zs : List Int) (l : List Nat) : Nat := l.foldl (fun a j => a ||| (el zs j).toNat) 0
theorem arN_snoc (zs : List Int) (l : List Nat) (y : Nat) : arN zs (l ++ [y]) = arN zs l ||| (el zs y).toNat := by unfold arN; rw [List.foldl_append]; rfl
theorem arN_lt (zs : List Int) (m : Nat) (hz : ∀ i, i < zs.length → (el zs i).toNat < 2 ^ m) : ∀ l : List Nat, arN zs l < 2 ^ m := by
  have h0 : ∀ i, (el zs i).toNat < 2 ^ m := fun i => by
    by_cases hi : i < zs.length
    · exact hz i hi
    · have : el zs i = 0 := by unfold el; rw [List.getD_eq_getElem?_getD, List.getElem?_eq_none (by omega)]; rfl
      rw [this]; exact Nat.two_pow_pos m
  have key : ∀ (l : List Nat) (a : Nat), a < 2 ^ m → l.foldl (fun a j => a ||| (el zs j).toNat) a < 2 ^ m := by
    intro l
    induction l with
    | nil => intro a ha; exact ha
    | cons y l ih => intro a ha; exact ih _ (Nat.or_lt_two_pow ha (h0 y))
  intro l
  exact key l 0 (Nat.two_pow_pos m)
theorem arN_bit (zs : List Int) (w : Nat) : ∀ l : List Nat, (arN zs l).testBit w = l.any fun x => bt (el zs x) w := by
  have key : ∀ (l : List Nat) (a : Nat), (l.foldl (fun a j => a ||| (el zs j).toNat) a).testBit w = (a.testBit w || l.any fun x => bt (el zs x) w) := by
    intro l
    induction l with
    | nil => intro a; simp
    | cons y l ih => intro a; rw [List.foldl_cons, ih, Nat.testBit_or, List.any_cons, Bool.or_assoc]; rfl
  intro l
  unfold arN
  rw [key]
  simp

end Go.Proofs.YtffofebmdmdeoaaDoor
