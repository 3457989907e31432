/-
  impl.graphOfPairs: the graph of a set of pairs, whatever the order of its entries.
-/
import Derived.Test.YthonkphjahomeaaPs
import Derived.BigRegion
namespace Go.Proofs.Ythonkphjahomeaa
set_option maxRecDepth 100000
open Go.RowKit Go.Maps Go.WideMaps Go.WideElems

theorem adjS_iff (S : List (Nat × Nat)) (v w : Nat) : adjS S v w = true ↔ ∃ p, p ∈ S ∧ min v w = min p.1 p.2 ∧ max v w = max p.1 p.2 := by
  unfold adjS
  rw [List.any_eq_true]
  constructor
  · rintro ⟨p, hp, h⟩
    simp at h
    exact ⟨p, hp, by omega⟩
  · rintro ⟨p, hp, h⟩
    refine ⟨p, hp, ?_⟩
    simp
    omega
/-- What has been joined when the entries that left tells are still to come. -/
def doneF (S : List (Nat × Nat)) (left : Lit → Bool) : Nat → Nat → Bool := fun v w => adjS S v w && !left (keyE (v, w))
theorem done_start {D : DataW Unit} {S : List (Nat × Nat)} (n : Nat) (h : Holds D S) : rowsF n (doneF S (has D)) = List.replicate n 0 := by
  rw [← rowsF_none]
  apply rowsF_congr
  intro v w _ _
  unfold doneF
  cases hA : adjS S v w with
  | false => rfl
  | true =>
    obtain ⟨p, hp, h1, h2⟩ := (adjS_iff S v w).1 hA
    rw [(h (keyE (v, w))).2 ⟨p, hp, by unfold keyE; rw [h1, h2]⟩]; rfl
theorem done_end {S : List (Nat × Nat)} {left : Lit → Bool} (n : Nat) (h : ∀ kl, left kl = false) : rowsF n (doneF S left) = rowsF n (adjS S) := by
  apply rowsF_congr
  intro v w _ _
  unfold doneF
  rw [h]; simp
theorem plainElem_bool_inv {P : Program} {e : TypeId} (he : P.underlying e = some .bool) {v : Value} {z : DataW Unit × List MemPlace} (h : plainElem P e v = some z) : ∃ c, v = .bool c := by
  unfold plainElem at h
  rw [he] at h
  cases v <;> simp at h
  exact ⟨_, rfl⟩

theorem grown_drew (w : World) (row : Option Nat) : w.grownBy w.drew row := ⟨rfl, rfl, rfl, Nat.le_refl _, fun _ _ _ => rfl⟩
/-- A graph in memory of its own. -/
def GRet (B n : Nat) (L : List Int) (e : Ending) (w' : World) : Prop := ∃ g, e = .returned (.agg #[.int .i64 n, .slice (some ⟨g, 0, none⟩) n n]) ∧ Blk w' g L ∧ B ≤ g


end Go.Proofs.Ythonkphjahomeaa
