/-
  DERIVED. GIVEN WITH THE SEED: THE CARDS: each row of YtibpnemeehkdbaaDoorRows.lean that lists a variable, with what it lists TIED to the program's text (the seventh form; the later family's looks); each row that meets fmt, with fmt's text TOLD by the authors' own Lean function (tested against real Go, not proved from fmt's source: count such statements apart). THE CARD IS WHAT COUNTS. Prove the row's statement (the work); the ties are given (YtibpnemeehkdbaaDoorTie.lean); close each card by the builder's one call (the guide's Derived/Test/ToyasCard.lean, 'card_holds'). Laid BY PROGRAM, IN A SANDBOX (cutbox-door.mjs). By AI agents, Wed Nov 11 2026. No macro, syntax, notation, axiom, sorry.
-/
import Derived.Test.YtibpnemeehkdbaaDoorRows
import GoSem.ClaimSeven
namespace Go.Proofs.YtibpnemeehkdbaaDoor
namespace Rows

/-- THE TIED CARD OF 'laws.FnExactExcessOf'. -/
def fnExactExcessOfCard : Claim7 := { stood := { row := fnExactExcessOfRow, standIns := [], harness := (true, "3c18975d47660c43d167427bde5184402c229eb5acd510baea681982842d18b3"), looks := false }, kinds := [], alts := [], laidByText := true, laidKinds := [.data], laidTests := true, laidLooks := .later }
def FnExactExcessOfCardSaid : Prop := Claim7.holds Tryd.pinned (.plain (OpenSpec.ofChange fnExactExcessOfSpec)) fnExactExcessOfCard

/-- THE TIED CARD OF 'laws.FnExactIsMooreGraph'. -/
def fnExactIsMooreGraphCard : Claim7 := { stood := { row := fnExactIsMooreGraphRow, standIns := [], harness := (true, "3c18975d47660c43d167427bde5184402c229eb5acd510baea681982842d18b3"), looks := false }, kinds := [], alts := [], laidByText := true, laidKinds := [.data], laidTests := true, laidLooks := .later }
def FnExactIsMooreGraphCardSaid : Prop := Claim7.holds Tryd.pinned (.plain (OpenSpec.ofChange fnExactIsMooreGraphSpec)) fnExactIsMooreGraphCard

/-- THE TIED CARD OF 'laws.FnExactFirstRegular'. -/
def fnExactFirstRegularCard : Claim7 := { stood := { row := fnExactFirstRegularRow, standIns := [], harness := (true, "3c18975d47660c43d167427bde5184402c229eb5acd510baea681982842d18b3"), looks := false }, kinds := [], alts := [], laidByText := true, laidKinds := [.data], laidTests := true, laidLooks := .later }
def FnExactFirstRegularCardSaid : Prop := Claim7.holds Tryd.pinned (.plain (OpenSpec.ofChange fnExactFirstRegularSpec)) fnExactFirstRegularCard

/-- THE TIED CARD OF 'laws.FnExactLeastVertices'. -/
def fnExactLeastVerticesCard : Claim7 := { stood := { row := fnExactLeastVerticesRow, standIns := [], harness := (true, "3c18975d47660c43d167427bde5184402c229eb5acd510baea681982842d18b3"), looks := false }, kinds := [], alts := [], laidByText := true, laidKinds := [.data], laidTests := true, laidLooks := .later }
def FnExactLeastVerticesCardSaid : Prop := Claim7.holds Tryd.pinned (.plain (OpenSpec.ofChange fnExactLeastVerticesSpec)) fnExactLeastVerticesCard

/-- THE SECOND FORM's CARD OF 'laws.FnExactExcessOf'. -/
def fnExactExcessOfUptoCard : Claim7 := { stood := { row := fnExactExcessOfUptoRow, standIns := [], harness := (true, "3c18975d47660c43d167427bde5184402c229eb5acd510baea681982842d18b3"), looks := false }, kinds := [], alts := [], laidByText := true, laidKinds := [.data], laidTests := true, laidLooks := .later }
def FnExactExcessOfUptoCardSaid : Prop := Claim7.holds Tryd.pinned (.plain (OpenSpec.upto fnExactExcessOfSpec)) fnExactExcessOfUptoCard

/-- THE SECOND FORM's CARD OF 'laws.FnExactIsMooreGraph'. -/
def fnExactIsMooreGraphUptoCard : Claim7 := { stood := { row := fnExactIsMooreGraphUptoRow, standIns := [], harness := (true, "3c18975d47660c43d167427bde5184402c229eb5acd510baea681982842d18b3"), looks := false }, kinds := [], alts := [], laidByText := true, laidKinds := [.data], laidTests := true, laidLooks := .later }
def FnExactIsMooreGraphUptoCardSaid : Prop := Claim7.holds Tryd.pinned (.plain (OpenSpec.upto fnExactIsMooreGraphSpec)) fnExactIsMooreGraphUptoCard

/-- THE SECOND FORM's CARD OF 'laws.FnExactFirstRegular'. -/
def fnExactFirstRegularUptoCard : Claim7 := { stood := { row := fnExactFirstRegularUptoRow, standIns := [], harness := (true, "3c18975d47660c43d167427bde5184402c229eb5acd510baea681982842d18b3"), looks := false }, kinds := [], alts := [], laidByText := true, laidKinds := [.data], laidTests := true, laidLooks := .later }
def FnExactFirstRegularUptoCardSaid : Prop := Claim7.holds Tryd.pinned (.plain (OpenSpec.upto fnExactFirstRegularSpec)) fnExactFirstRegularUptoCard

/-- THE SECOND FORM's CARD OF 'laws.FnExactLeastVertices'. -/
def fnExactLeastVerticesUptoCard : Claim7 := { stood := { row := fnExactLeastVerticesUptoRow, standIns := [], harness := (true, "3c18975d47660c43d167427bde5184402c229eb5acd510baea681982842d18b3"), looks := false }, kinds := [], alts := [], laidByText := true, laidKinds := [.data], laidTests := true, laidLooks := .later }
def FnExactLeastVerticesUptoCardSaid : Prop := Claim7.holds Tryd.pinned (.plain (OpenSpec.upto fnExactLeastVerticesSpec)) fnExactLeastVerticesUptoCard
end Rows
end Go.Proofs.YtibpnemeehkdbaaDoor
