/-
  DERIVED. GIVEN WITH THE SEED: THE CARDS: each row of YtabkfihhfkmioaaDoorRows.lean that lists a variable, with what it lists TIED to the program's text (the seventh form; the later family's looks); each row that meets fmt, with fmt's text TOLD by the authors' own Lean function (tested against real Go, not proved from fmt's source: count such statements apart). THE CARD IS WHAT COUNTS. Prove the row's statement (the work); the ties are given (YtabkfihhfkmioaaDoorTie.lean); close each card by the builder's one call (the guide's Derived/Test/ToyasCard.lean, 'card_holds'). Laid BY PROGRAM, IN A SANDBOX (cutbox-door.mjs). By AI agents, Wed Nov 11 2026. No macro, syntax, notation, axiom, sorry.
-/
import Derived.Test.YtabkfihhfkmioaaDoorRows
import GoSem.ClaimSeven
namespace Go.Proofs.YtabkfihhfkmioaaDoor
namespace Rows

/-- THE TIED CARD OF 'laws.FnExactTakeVertex'. -/
def fnExactTakeVertexCard : Claim7 := { stood := { row := fnExactTakeVertexRow, standIns := [], harness := (true, "5f91c9c0d7aecd90f46d94f1061b728bfcf81d875f7e8717500a4036dc4e9fc8"), looks := true }, kinds := [], alts := [], laidByText := true, laidKinds := [.data], laidTests := true, laidLooks := .later }
def FnExactTakeVertexCardSaid : Prop := Claim7.holds Tryd.pinned (.plain (OpenSpec.ofChange fnExactTakeVertexSpec)) fnExactTakeVertexCard

/-- THE TIED CARD OF 'laws.FnExactConeOf'. -/
def fnExactConeOfCard : Claim7 := { stood := { row := fnExactConeOfRow, standIns := [], harness := (true, "5f91c9c0d7aecd90f46d94f1061b728bfcf81d875f7e8717500a4036dc4e9fc8"), looks := true }, kinds := [], alts := [], laidByText := true, laidKinds := [.data], laidTests := true, laidLooks := .later }
def FnExactConeOfCardSaid : Prop := Claim7.holds Tryd.pinned (.plain (OpenSpec.ofChange fnExactConeOfSpec)) fnExactConeOfCard

/-- THE TIED CARD OF 'laws.FnExactExchangeEdges'. -/
def fnExactExchangeEdgesCard : Claim7 := { stood := { row := fnExactExchangeEdgesRow, standIns := [], harness := (true, "5f91c9c0d7aecd90f46d94f1061b728bfcf81d875f7e8717500a4036dc4e9fc8"), looks := true }, kinds := [], alts := [], laidByText := true, laidKinds := [.data], laidTests := true, laidLooks := .later }
def FnExactExchangeEdgesCardSaid : Prop := Claim7.holds Tryd.pinned (.plain (OpenSpec.ofChange fnExactExchangeEdgesSpec)) fnExactExchangeEdgesCard

/-- THE TIED CARD OF 'laws.FnExactInflateGraph'. -/
def fnExactInflateGraphCard : Claim7 := { stood := { row := fnExactInflateGraphRow, standIns := [], harness := (true, "5f91c9c0d7aecd90f46d94f1061b728bfcf81d875f7e8717500a4036dc4e9fc8"), looks := true }, kinds := [], alts := [], laidByText := true, laidKinds := [.data, .sentinel], laidTests := true, laidLooks := .later }
def FnExactInflateGraphCardSaid : Prop := Claim7.holds Tryd.pinned (.plain (OpenSpec.ofChange fnExactInflateGraphSpec)) fnExactInflateGraphCard

/-- THE TIED CARD OF 'laws.FnExactRenumberGraph'. -/
def fnExactRenumberGraphCard : Claim7 := { stood := { row := fnExactRenumberGraphRow, standIns := [], harness := (true, "5f91c9c0d7aecd90f46d94f1061b728bfcf81d875f7e8717500a4036dc4e9fc8"), looks := true }, kinds := [], alts := [], laidByText := true, laidKinds := [.data], laidTests := true, laidLooks := .later }
def FnExactRenumberGraphCardSaid : Prop := Claim7.holds Tryd.pinned (.plain (OpenSpec.ofChange fnExactRenumberGraphSpec)) fnExactRenumberGraphCard

/-- THE TIED CARD OF 'laws.FnExactShortestThrough'. -/
def fnExactShortestThroughCard : Claim7 := { stood := { row := fnExactShortestThroughRow, standIns := [], harness := (true, "5f91c9c0d7aecd90f46d94f1061b728bfcf81d875f7e8717500a4036dc4e9fc8"), looks := true }, kinds := [], alts := [], laidByText := true, laidKinds := [.data], laidTests := true, laidLooks := .later }
def FnExactShortestThroughCardSaid : Prop := Claim7.holds Tryd.pinned (.plain (OpenSpec.ofChange fnExactShortestThroughSpec)) fnExactShortestThroughCard

/-- THE TIED CARD OF 'laws.FnExactCountShortest'. -/
def fnExactCountShortestCard : Claim7 := { stood := { row := fnExactCountShortestRow, standIns := [], harness := (true, "5f91c9c0d7aecd90f46d94f1061b728bfcf81d875f7e8717500a4036dc4e9fc8"), looks := true }, kinds := [], alts := [], laidByText := true, laidKinds := [.data], laidTests := true, laidLooks := .later }
def FnExactCountShortestCardSaid : Prop := Claim7.holds Tryd.pinned (.plain (OpenSpec.ofChange fnExactCountShortestSpec)) fnExactCountShortestCard

/-- THE TIED CARD OF 'laws.FnExactPutEdge'. -/
def fnExactPutEdgeCard : Claim7 := { stood := { row := fnExactPutEdgeRow, standIns := [], harness := (true, "5f91c9c0d7aecd90f46d94f1061b728bfcf81d875f7e8717500a4036dc4e9fc8"), looks := true }, kinds := [], alts := [], laidByText := true, laidKinds := [.data], laidTests := true, laidLooks := .later }
def FnExactPutEdgeCardSaid : Prop := Claim7.holds Tryd.pinned (.plain (OpenSpec.ofChange fnExactPutEdgeSpec)) fnExactPutEdgeCard

/-- THE TIED CARD OF 'laws.FnExactTakeEdge'. -/
def fnExactTakeEdgeCard : Claim7 := { stood := { row := fnExactTakeEdgeRow, standIns := [], harness := (true, "5f91c9c0d7aecd90f46d94f1061b728bfcf81d875f7e8717500a4036dc4e9fc8"), looks := true }, kinds := [], alts := [], laidByText := true, laidKinds := [.data], laidTests := true, laidLooks := .later }
def FnExactTakeEdgeCardSaid : Prop := Claim7.holds Tryd.pinned (.plain (OpenSpec.ofChange fnExactTakeEdgeSpec)) fnExactTakeEdgeCard

/-- THE TIED CARD OF 'laws.FnExactFillGraph'. -/
def fnExactFillGraphCard : Claim7 := { stood := { row := fnExactFillGraphRow, standIns := [], harness := (true, "5f91c9c0d7aecd90f46d94f1061b728bfcf81d875f7e8717500a4036dc4e9fc8"), looks := true }, kinds := [], alts := [], laidByText := true, laidKinds := [.data], laidTests := true, laidLooks := .later }
def FnExactFillGraphCardSaid : Prop := Claim7.holds Tryd.pinned (.plain (OpenSpec.ofChange fnExactFillGraphSpec)) fnExactFillGraphCard

/-- THE TIED CARD OF 'laws.FnExactGreedyGraph'. -/
def fnExactGreedyGraphCard : Claim7 := { stood := { row := fnExactGreedyGraphRow, standIns := [], harness := (true, "5f91c9c0d7aecd90f46d94f1061b728bfcf81d875f7e8717500a4036dc4e9fc8"), looks := true }, kinds := [], alts := [], laidByText := true, laidKinds := [.data], laidTests := true, laidLooks := .later }
def FnExactGreedyGraphCardSaid : Prop := Claim7.holds Tryd.pinned (.plain (OpenSpec.ofChange fnExactGreedyGraphSpec)) fnExactGreedyGraphCard

/-- THE TIED CARD OF 'laws.FnExactDigraphOf'. -/
def fnExactDigraphOfCard : Claim7 := { stood := { row := fnExactDigraphOfRow, standIns := [], harness := (true, "5f91c9c0d7aecd90f46d94f1061b728bfcf81d875f7e8717500a4036dc4e9fc8"), looks := true }, kinds := [], alts := [], laidByText := true, laidKinds := [.data], laidTests := true, laidLooks := .later }
def FnExactDigraphOfCardSaid : Prop := Claim7.holds Tryd.pinned (.plain (OpenSpec.ofChange fnExactDigraphOfSpec)) fnExactDigraphOfCard

/-- THE SECOND FORM's CARD OF 'laws.FnExactTakeVertex'. -/
def fnExactTakeVertexUptoCard : Claim7 := { stood := { row := fnExactTakeVertexUptoRow, standIns := [], harness := (true, "5f91c9c0d7aecd90f46d94f1061b728bfcf81d875f7e8717500a4036dc4e9fc8"), looks := true }, kinds := [], alts := [], laidByText := true, laidKinds := [.data], laidTests := true, laidLooks := .later }
def FnExactTakeVertexUptoCardSaid : Prop := Claim7.holds Tryd.pinned (.plain (OpenSpec.upto fnExactTakeVertexSpec)) fnExactTakeVertexUptoCard

/-- THE SECOND FORM's CARD OF 'laws.FnExactConeOf'. -/
def fnExactConeOfUptoCard : Claim7 := { stood := { row := fnExactConeOfUptoRow, standIns := [], harness := (true, "5f91c9c0d7aecd90f46d94f1061b728bfcf81d875f7e8717500a4036dc4e9fc8"), looks := true }, kinds := [], alts := [], laidByText := true, laidKinds := [.data], laidTests := true, laidLooks := .later }
def FnExactConeOfUptoCardSaid : Prop := Claim7.holds Tryd.pinned (.plain (OpenSpec.upto fnExactConeOfSpec)) fnExactConeOfUptoCard

/-- THE SECOND FORM's CARD OF 'laws.FnExactExchangeEdges'. -/
def fnExactExchangeEdgesUptoCard : Claim7 := { stood := { row := fnExactExchangeEdgesUptoRow, standIns := [], harness := (true, "5f91c9c0d7aecd90f46d94f1061b728bfcf81d875f7e8717500a4036dc4e9fc8"), looks := true }, kinds := [], alts := [], laidByText := true, laidKinds := [.data], laidTests := true, laidLooks := .later }
def FnExactExchangeEdgesUptoCardSaid : Prop := Claim7.holds Tryd.pinned (.plain (OpenSpec.upto fnExactExchangeEdgesSpec)) fnExactExchangeEdgesUptoCard

/-- THE SECOND FORM's CARD OF 'laws.FnExactInflateGraph'. -/
def fnExactInflateGraphUptoCard : Claim7 := { stood := { row := fnExactInflateGraphUptoRow, standIns := [], harness := (true, "5f91c9c0d7aecd90f46d94f1061b728bfcf81d875f7e8717500a4036dc4e9fc8"), looks := true }, kinds := [], alts := [], laidByText := true, laidKinds := [.data, .sentinel], laidTests := true, laidLooks := .later }
def FnExactInflateGraphUptoCardSaid : Prop := Claim7.holds Tryd.pinned (.plain (OpenSpec.upto fnExactInflateGraphSpec)) fnExactInflateGraphUptoCard

/-- THE SECOND FORM's CARD OF 'laws.FnExactRenumberGraph'. -/
def fnExactRenumberGraphUptoCard : Claim7 := { stood := { row := fnExactRenumberGraphUptoRow, standIns := [], harness := (true, "5f91c9c0d7aecd90f46d94f1061b728bfcf81d875f7e8717500a4036dc4e9fc8"), looks := true }, kinds := [], alts := [], laidByText := true, laidKinds := [.data], laidTests := true, laidLooks := .later }
def FnExactRenumberGraphUptoCardSaid : Prop := Claim7.holds Tryd.pinned (.plain (OpenSpec.upto fnExactRenumberGraphSpec)) fnExactRenumberGraphUptoCard

/-- THE SECOND FORM's CARD OF 'laws.FnExactShortestThrough'. -/
def fnExactShortestThroughUptoCard : Claim7 := { stood := { row := fnExactShortestThroughUptoRow, standIns := [], harness := (true, "5f91c9c0d7aecd90f46d94f1061b728bfcf81d875f7e8717500a4036dc4e9fc8"), looks := true }, kinds := [], alts := [], laidByText := true, laidKinds := [.data], laidTests := true, laidLooks := .later }
def FnExactShortestThroughUptoCardSaid : Prop := Claim7.holds Tryd.pinned (.plain (OpenSpec.upto fnExactShortestThroughSpec)) fnExactShortestThroughUptoCard

/-- THE SECOND FORM's CARD OF 'laws.FnExactCountShortest'. -/
def fnExactCountShortestUptoCard : Claim7 := { stood := { row := fnExactCountShortestUptoRow, standIns := [], harness := (true, "5f91c9c0d7aecd90f46d94f1061b728bfcf81d875f7e8717500a4036dc4e9fc8"), looks := true }, kinds := [], alts := [], laidByText := true, laidKinds := [.data], laidTests := true, laidLooks := .later }
def FnExactCountShortestUptoCardSaid : Prop := Claim7.holds Tryd.pinned (.plain (OpenSpec.upto fnExactCountShortestSpec)) fnExactCountShortestUptoCard

/-- THE SECOND FORM's CARD OF 'laws.FnExactPutEdge'. -/
def fnExactPutEdgeUptoCard : Claim7 := { stood := { row := fnExactPutEdgeUptoRow, standIns := [], harness := (true, "5f91c9c0d7aecd90f46d94f1061b728bfcf81d875f7e8717500a4036dc4e9fc8"), looks := true }, kinds := [], alts := [], laidByText := true, laidKinds := [.data], laidTests := true, laidLooks := .later }
def FnExactPutEdgeUptoCardSaid : Prop := Claim7.holds Tryd.pinned (.plain (OpenSpec.upto fnExactPutEdgeSpec)) fnExactPutEdgeUptoCard

/-- THE SECOND FORM's CARD OF 'laws.FnExactTakeEdge'. -/
def fnExactTakeEdgeUptoCard : Claim7 := { stood := { row := fnExactTakeEdgeUptoRow, standIns := [], harness := (true, "5f91c9c0d7aecd90f46d94f1061b728bfcf81d875f7e8717500a4036dc4e9fc8"), looks := true }, kinds := [], alts := [], laidByText := true, laidKinds := [.data], laidTests := true, laidLooks := .later }
def FnExactTakeEdgeUptoCardSaid : Prop := Claim7.holds Tryd.pinned (.plain (OpenSpec.upto fnExactTakeEdgeSpec)) fnExactTakeEdgeUptoCard

/-- THE SECOND FORM's CARD OF 'laws.FnExactFillGraph'. -/
def fnExactFillGraphUptoCard : Claim7 := { stood := { row := fnExactFillGraphUptoRow, standIns := [], harness := (true, "5f91c9c0d7aecd90f46d94f1061b728bfcf81d875f7e8717500a4036dc4e9fc8"), looks := true }, kinds := [], alts := [], laidByText := true, laidKinds := [.data], laidTests := true, laidLooks := .later }
def FnExactFillGraphUptoCardSaid : Prop := Claim7.holds Tryd.pinned (.plain (OpenSpec.upto fnExactFillGraphSpec)) fnExactFillGraphUptoCard

/-- THE SECOND FORM's CARD OF 'laws.FnExactGreedyGraph'. -/
def fnExactGreedyGraphUptoCard : Claim7 := { stood := { row := fnExactGreedyGraphUptoRow, standIns := [], harness := (true, "5f91c9c0d7aecd90f46d94f1061b728bfcf81d875f7e8717500a4036dc4e9fc8"), looks := true }, kinds := [], alts := [], laidByText := true, laidKinds := [.data], laidTests := true, laidLooks := .later }
def FnExactGreedyGraphUptoCardSaid : Prop := Claim7.holds Tryd.pinned (.plain (OpenSpec.upto fnExactGreedyGraphSpec)) fnExactGreedyGraphUptoCard

/-- THE SECOND FORM's CARD OF 'laws.FnExactDigraphOf'. -/
def fnExactDigraphOfUptoCard : Claim7 := { stood := { row := fnExactDigraphOfUptoRow, standIns := [], harness := (true, "5f91c9c0d7aecd90f46d94f1061b728bfcf81d875f7e8717500a4036dc4e9fc8"), looks := true }, kinds := [], alts := [], laidByText := true, laidKinds := [.data], laidTests := true, laidLooks := .later }
def FnExactDigraphOfUptoCardSaid : Prop := Claim7.holds Tryd.pinned (.plain (OpenSpec.upto fnExactDigraphOfSpec)) fnExactDigraphOfUptoCard
end Rows
end Go.Proofs.YtabkfihhfkmioaaDoor
