/-
  DERIVED. GIVEN WITH THE SEED: THE CARDS: each row of YthbfdblpgdhngaaDoorRows.lean that lists a variable, with what it lists TIED to the program's text (the seventh form; the later family's looks); each row that meets fmt, with fmt's text TOLD by the authors' own Lean function (tested against real Go, not proved from fmt's source: count such statements apart). THE CARD IS WHAT COUNTS. Prove the row's statement (the work); the ties are given (YthbfdblpgdhngaaDoorTie.lean); close each card by the builder's one call (the guide's Derived/Test/ToyasCard.lean, 'card_holds'). Laid BY PROGRAM, IN A SANDBOX (cutbox-door.mjs). By AI agents, Wed Nov 11 2026. No macro, syntax, notation, axiom, sorry.
-/
import Derived.Test.YthbfdblpgdhngaaDoorRows
import GoSem.ClaimSeven
namespace Go.Proofs.YthbfdblpgdhngaaDoor
namespace Rows

/-- THE TIED CARD OF 'laws.FnExactGraphAt'. -/
def fnExactGraphAtCard : Claim7 := { stood := { row := fnExactGraphAtRow, standIns := [], harness := (true, "decb3aaf0a9c5a038f4565d13f4ed929a735bd336fe63b6cec1ed2c24abef832"), looks := false }, kinds := [], alts := [], laidByText := true, laidKinds := [.data], laidTests := true, laidLooks := .later }
def FnExactGraphAtCardSaid : Prop := Claim7.holds Tryd.pinned (.plain (OpenSpec.ofChange fnExactGraphAtSpec)) fnExactGraphAtCard

/-- THE SECOND FORM's CARD OF 'laws.FnExactGraphAt'. -/
def fnExactGraphAtUptoCard : Claim7 := { stood := { row := fnExactGraphAtUptoRow, standIns := [], harness := (true, "decb3aaf0a9c5a038f4565d13f4ed929a735bd336fe63b6cec1ed2c24abef832"), looks := false }, kinds := [], alts := [], laidByText := true, laidKinds := [.data], laidTests := true, laidLooks := .later }
def FnExactGraphAtUptoCardSaid : Prop := Claim7.holds Tryd.pinned (.plain (OpenSpec.upto fnExactGraphAtSpec)) fnExactGraphAtUptoCard
end Rows
end Go.Proofs.YthbfdblpgdhngaaDoor
