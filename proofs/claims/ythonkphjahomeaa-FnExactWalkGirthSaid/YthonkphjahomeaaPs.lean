/-
  Sets of pairs of vertices: maps whose keys are arrays of two numbers.
-/
import Derived.Test.YthonkphjahomeaaPg
import Derived.Test.YthonkphjahomeaaEd
import Derived.Maps.RangeWalk
import Derived.Maps.Ext
import Derived.DeepKeys4
import Derived.WideKeyArr2
namespace Go.Proofs.Ythonkphjahomeaa
set_option maxRecDepth 100000
open Go.RowKit Go.Maps Go.WideMaps Go.WideElems

theorem types_pos : ∃ m, Try.prog.types.size = m + 1 := ⟨Try.prog.types.size - 1, by have : 0 < Try.prog.types.size := of_decide_eq_true (by kernel_rfl); omega⟩
/-- How a pair reads as a key. -/
def pairL (a b : Int) : Lit := .string (keyBytes [.int .i64 a, .int .i64 b])
theorem pairL_key (a b : Int) : WideAt.IsKeyLit (pairL a b) := trivial

theorem wfN (n : Nat) (h : n < 9223372036854775807) : (Lit.int .i64 (n : Int)).wf = true := WalkArith.wf_i64 (by omega)
/-- The key of an edge. -/
def keyE (p : Nat × Nat) : Lit := pairL ((min p.1 p.2 : Nat) : Int) ((max p.1 p.2 : Nat) : Int)
/-- The keys of D are just the edges of S. -/
def Holds (D : DataW Unit) (S : List (Nat × Nat)) : Prop := ∀ kl, has D kl = true ↔ ∃ p, p ∈ S ∧ kl = keyE p
theorem Holds.nil : Holds (.map []) [] := fun kl => by simp [has]
theorem Holds.put {D : DataW Unit} {S : List (Nat × Nat)} (h : Holds D S) (hD : IsMap D) (p : Nat × Nat) (d : DataW Unit) : Holds (D.put (keyE p) d) (S ++ [p]) := by
  intro kl
  by_cases e : kl = keyE p
  · subst e
    rw [has_put_same hD (show WideAt.IsKeyLit (keyE p) from trivial)]
    exact ⟨fun _ => ⟨p, by simp, rfl⟩, fun _ => rfl⟩
  · rw [has_put_other e, h kl]
    constructor
    · rintro ⟨q, hq, rfl⟩; exact ⟨q, List.mem_append_left _ hq, rfl⟩
    · rintro ⟨q, hq, rfl⟩
      rcases List.mem_append.1 hq with hq | hq
      · exact ⟨q, hq, rfl⟩
      · simp at hq; subst hq; exact absurd rfl e

theorem max_ite (a b : Nat) : ((max a b : Nat) : Int) = max (a : Int) (b : Int) := by omega
theorem min_ite (a b : Nat) : ((min a b : Nat) : Int) = min (a : Int) (b : Int) := by omega

end Go.Proofs.Ythonkphjahomeaa
