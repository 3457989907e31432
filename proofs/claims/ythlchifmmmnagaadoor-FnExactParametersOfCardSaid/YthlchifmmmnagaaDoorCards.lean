/-
  DERIVED. GIVEN WITH THE SEED: THE CARDS: each row of YthlchifmmmnagaaDoorRows.lean that lists a variable, with what it lists TIED to the program's text (the seventh form; the later family's looks); each row that meets fmt, with fmt's text TOLD by the authors' own Lean function (tested against real Go, not proved from fmt's source: count such statements apart). THE CARD IS WHAT COUNTS. Prove the row's statement (the work); the ties are given (YthlchifmmmnagaaDoorTie.lean); close each card by the builder's one call (the guide's Derived/Test/ToyasCard.lean, 'card_holds'). Laid BY PROGRAM, IN A SANDBOX (cutbox-door.mjs). By AI agents, Wed Nov 11 2026. No macro, syntax, notation, axiom, sorry.
-/
import Derived.Test.YthlchifmmmnagaaDoorRows
import GoSem.ClaimSeven
namespace Go.Proofs.YthlchifmmmnagaaDoor
namespace Rows

/-- THE TIED CARD OF 'laws.FnExactHalfOf'. -/
def fnExactHalfOfCard : Claim7 := { stood := { row := fnExactHalfOfRow, standIns := [], harness := (true, "7d3cdaee10e1edec33804ff8a1863fa68641724af44177051e7fa2f45d9906f1"), looks := false }, kinds := [], alts := [], laidByText := true, laidKinds := [.data], laidTests := true, laidLooks := .later }
def FnExactHalfOfCardSaid : Prop := Claim7.holds Tryd.pinned (.plain (OpenSpec.ofChange fnExactHalfOfSpec)) fnExactHalfOfCard

/-- THE TIED CARD OF 'laws.FnExactParametersOf'. -/
def fnExactParametersOfCard : Claim7 := { stood := { row := fnExactParametersOfRow, standIns := [], harness := (true, "7d3cdaee10e1edec33804ff8a1863fa68641724af44177051e7fa2f45d9906f1"), looks := false }, kinds := [], alts := [], laidByText := true, laidKinds := [.data], laidTests := true, laidLooks := .later }
def FnExactParametersOfCardSaid : Prop := Claim7.holds Tryd.pinned (.plain (OpenSpec.ofChange fnExactParametersOfSpec)) fnExactParametersOfCard

/-- THE TIED CARD OF 'laws.FnExactIsAntipodal'. -/
def fnExactIsAntipodalCard : Claim7 := { stood := { row := fnExactIsAntipodalRow, standIns := [], harness := (true, "7d3cdaee10e1edec33804ff8a1863fa68641724af44177051e7fa2f45d9906f1"), looks := false }, kinds := [], alts := [], laidByText := true, laidKinds := [.data], laidTests := true, laidLooks := .later }
def FnExactIsAntipodalCardSaid : Prop := Claim7.holds Tryd.pinned (.plain (OpenSpec.ofChange fnExactIsAntipodalSpec)) fnExactIsAntipodalCard

/-- THE TIED CARD OF 'laws.FnExactFoldedGraph'. -/
def fnExactFoldedGraphCard : Claim7 := { stood := { row := fnExactFoldedGraphRow, standIns := [], harness := (true, "7d3cdaee10e1edec33804ff8a1863fa68641724af44177051e7fa2f45d9906f1"), looks := false }, kinds := [], alts := [], laidByText := true, laidKinds := [.data], laidTests := true, laidLooks := .later }
def FnExactFoldedGraphCardSaid : Prop := Claim7.holds Tryd.pinned (.plain (OpenSpec.ofChange fnExactFoldedGraphSpec)) fnExactFoldedGraphCard

/-- THE SECOND FORM's CARD OF 'laws.FnExactHalfOf'. -/
def fnExactHalfOfUptoCard : Claim7 := { stood := { row := fnExactHalfOfUptoRow, standIns := [], harness := (true, "7d3cdaee10e1edec33804ff8a1863fa68641724af44177051e7fa2f45d9906f1"), looks := false }, kinds := [], alts := [], laidByText := true, laidKinds := [.data], laidTests := true, laidLooks := .later }
def FnExactHalfOfUptoCardSaid : Prop := Claim7.holds Tryd.pinned (.plain (OpenSpec.upto fnExactHalfOfSpec)) fnExactHalfOfUptoCard

/-- THE SECOND FORM's CARD OF 'laws.FnExactParametersOf'. -/
def fnExactParametersOfUptoCard : Claim7 := { stood := { row := fnExactParametersOfUptoRow, standIns := [], harness := (true, "7d3cdaee10e1edec33804ff8a1863fa68641724af44177051e7fa2f45d9906f1"), looks := false }, kinds := [], alts := [], laidByText := true, laidKinds := [.data], laidTests := true, laidLooks := .later }
def FnExactParametersOfUptoCardSaid : Prop := Claim7.holds Tryd.pinned (.plain (OpenSpec.upto fnExactParametersOfSpec)) fnExactParametersOfUptoCard

/-- THE SECOND FORM's CARD OF 'laws.FnExactIsAntipodal'. -/
def fnExactIsAntipodalUptoCard : Claim7 := { stood := { row := fnExactIsAntipodalUptoRow, standIns := [], harness := (true, "7d3cdaee10e1edec33804ff8a1863fa68641724af44177051e7fa2f45d9906f1"), looks := false }, kinds := [], alts := [], laidByText := true, laidKinds := [.data], laidTests := true, laidLooks := .later }
def FnExactIsAntipodalUptoCardSaid : Prop := Claim7.holds Tryd.pinned (.plain (OpenSpec.upto fnExactIsAntipodalSpec)) fnExactIsAntipodalUptoCard

/-- THE SECOND FORM's CARD OF 'laws.FnExactFoldedGraph'. -/
def fnExactFoldedGraphUptoCard : Claim7 := { stood := { row := fnExactFoldedGraphUptoRow, standIns := [], harness := (true, "7d3cdaee10e1edec33804ff8a1863fa68641724af44177051e7fa2f45d9906f1"), looks := false }, kinds := [], alts := [], laidByText := true, laidKinds := [.data], laidTests := true, laidLooks := .later }
def FnExactFoldedGraphUptoCardSaid : Prop := Claim7.holds Tryd.pinned (.plain (OpenSpec.upto fnExactFoldedGraphSpec)) fnExactFoldedGraphUptoCard
end Rows
end Go.Proofs.YthlchifmmmnagaaDoor
