/-
  DERIVED. GIVEN WITH THE SEED: THE CARDS: each row of YtbacocldjcenjaaDoorRows.lean that lists a variable, with what it lists TIED to the program's text (the seventh form; the later family's looks); each row that meets fmt, with fmt's text TOLD by the authors' own Lean function (tested against real Go, not proved from fmt's source: count such statements apart). THE CARD IS WHAT COUNTS. Prove the row's statement (the work); the ties are given (YtbacocldjcenjaaDoorTie.lean); close each card by the builder's one call (the guide's Derived/Test/ToyasCard.lean, 'card_holds'). Laid BY PROGRAM, IN A SANDBOX (cutbox-door.mjs). By AI agents, Wed Nov 11 2026. No macro, syntax, notation, axiom, sorry.
-/
import Derived.Test.YtbacocldjcenjaaDoorRows
import GoSem.ClaimSeven
namespace Go.Proofs.YtbacocldjcenjaaDoor
namespace Rows

/-- THE TIED CARD OF 'laws.FnExactLiftParts'. -/
def fnExactLiftPartsCard : Claim7 := { stood := { row := fnExactLiftPartsRow, standIns := [], harness := (true, "d8c2b7709c9e1c3524072d2379eb6586d82662fa1bbcba25a0a6ae74047d4739"), looks := false }, kinds := [], alts := [], laidByText := true, laidKinds := [.data], laidTests := true, laidLooks := .later }
def FnExactLiftPartsCardSaid : Prop := Claim7.holds Tryd.pinned (.plain (OpenSpec.ofChange fnExactLiftPartsSpec)) fnExactLiftPartsCard

/-- THE SECOND FORM's CARD OF 'laws.FnExactLiftParts'. -/
def fnExactLiftPartsUptoCard : Claim7 := { stood := { row := fnExactLiftPartsUptoRow, standIns := [], harness := (true, "d8c2b7709c9e1c3524072d2379eb6586d82662fa1bbcba25a0a6ae74047d4739"), looks := false }, kinds := [], alts := [], laidByText := true, laidKinds := [.data], laidTests := true, laidLooks := .later }
def FnExactLiftPartsUptoCardSaid : Prop := Claim7.holds Tryd.pinned (.plain (OpenSpec.upto fnExactLiftPartsSpec)) fnExactLiftPartsUptoCard
end Rows
end Go.Proofs.YtbacocldjcenjaaDoor
