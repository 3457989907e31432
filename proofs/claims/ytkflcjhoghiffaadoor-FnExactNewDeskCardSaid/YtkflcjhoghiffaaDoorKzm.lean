/-
  The members of a row of all numbers but one.
-/
import Derived.Test.YtkflcjhoghiffaaDoorTz
namespace Go.Proofs.YtkflcjhoghiffaaDoor
set_option maxRecDepth 100000
set_option maxRecDepth 100000

theorem mem_fullK : ∀ m : Fin 63, mem (2 ^ m.1 - 1) = List.range m.1 := by decide +kernel
theorem mem_but : ∀ m : Fin 63, ∀ l : Fin 63, l.1 < m.1 → mem (2 ^ m.1 - 1 - 2 ^ l.1) = (List.range m.1).filter fun y => !(y == l.1) := by decide +kernel
end Go.Proofs.YtkflcjhoghiffaaDoor
