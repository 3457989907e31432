/-
  DERIVED. GIVEN WITH THE SEED: THE CARDS: each row of YthfmebjadkjnmaaDoorRows.lean that lists a variable, with what it lists TIED to the program's text (the seventh form; the later family's looks); each row that meets fmt, with fmt's text TOLD by the authors' own Lean function (tested against real Go, not proved from fmt's source: count such statements apart). THE CARD IS WHAT COUNTS. Prove the row's statement (the work); the ties are given (YthfmebjadkjnmaaDoorTie.lean); close each card by the builder's one call (the guide's Derived/Test/ToyasCard.lean, 'card_holds'). Laid BY PROGRAM, IN A SANDBOX (cutbox-door.mjs). By AI agents, Wed Nov 11 2026. No macro, syntax, notation, axiom, sorry.
-/
import Derived.Test.YthfmebjadkjnmaaDoorRows
import GoSem.ClaimSeven
namespace Go.Proofs.YthfmebjadkjnmaaDoor
namespace Rows

/-- THE TIED CARD OF 'laws.FnExactPutEdge'. -/
def fnExactPutEdgeCard : Claim7 := { stood := { row := fnExactPutEdgeRow, standIns := [], harness := (true, "c8ac38c964ef01fb9ba6f6998c9254e410f4864bcb10871bf6dc4a21c8c37f3f"), looks := false }, kinds := [], alts := [], laidByText := true, laidKinds := [.data], laidTests := true, laidLooks := .later }
def FnExactPutEdgeCardSaid : Prop := Claim7.holds Tryd.pinned (.plain (OpenSpec.ofChange fnExactPutEdgeSpec)) fnExactPutEdgeCard

/-- THE TIED CARD OF 'laws.FnExactTakeEdge'. -/
def fnExactTakeEdgeCard : Claim7 := { stood := { row := fnExactTakeEdgeRow, standIns := [], harness := (true, "c8ac38c964ef01fb9ba6f6998c9254e410f4864bcb10871bf6dc4a21c8c37f3f"), looks := false }, kinds := [], alts := [], laidByText := true, laidKinds := [.data], laidTests := true, laidLooks := .later }
def FnExactTakeEdgeCardSaid : Prop := Claim7.holds Tryd.pinned (.plain (OpenSpec.ofChange fnExactTakeEdgeSpec)) fnExactTakeEdgeCard

/-- THE TIED CARD OF 'laws.FnExactEdgesLeft'. -/
def fnExactEdgesLeftCard : Claim7 := { stood := { row := fnExactEdgesLeftRow, standIns := [], harness := (true, "c8ac38c964ef01fb9ba6f6998c9254e410f4864bcb10871bf6dc4a21c8c37f3f"), looks := false }, kinds := [], alts := [], laidByText := true, laidKinds := [.data], laidTests := true, laidLooks := .later }
def FnExactEdgesLeftCardSaid : Prop := Claim7.holds Tryd.pinned (.plain (OpenSpec.ofChange fnExactEdgesLeftSpec)) fnExactEdgesLeftCard

/-- THE TIED CARD OF 'laws.FnExactGreedyGraph'. -/
def fnExactGreedyGraphCard : Claim7 := { stood := { row := fnExactGreedyGraphRow, standIns := [], harness := (true, "c8ac38c964ef01fb9ba6f6998c9254e410f4864bcb10871bf6dc4a21c8c37f3f"), looks := false }, kinds := [], alts := [], laidByText := true, laidKinds := [.data], laidTests := true, laidLooks := .later }
def FnExactGreedyGraphCardSaid : Prop := Claim7.holds Tryd.pinned (.plain (OpenSpec.ofChange fnExactGreedyGraphSpec)) fnExactGreedyGraphCard

/-- THE TIED CARD OF 'laws.FnExactHalfOf'. -/
def fnExactHalfOfCard : Claim7 := { stood := { row := fnExactHalfOfRow, standIns := [], harness := (true, "c8ac38c964ef01fb9ba6f6998c9254e410f4864bcb10871bf6dc4a21c8c37f3f"), looks := false }, kinds := [], alts := [], laidByText := true, laidKinds := [.data], laidTests := true, laidLooks := .later }
def FnExactHalfOfCardSaid : Prop := Claim7.holds Tryd.pinned (.plain (OpenSpec.ofChange fnExactHalfOfSpec)) fnExactHalfOfCard

/-- THE TIED CARD OF 'laws.FnExactGirthAt'. -/
def fnExactGirthAtCard : Claim7 := { stood := { row := fnExactGirthAtRow, standIns := [], harness := (true, "c8ac38c964ef01fb9ba6f6998c9254e410f4864bcb10871bf6dc4a21c8c37f3f"), looks := false }, kinds := [], alts := [], laidByText := true, laidKinds := [.data], laidTests := true, laidLooks := .later }
def FnExactGirthAtCardSaid : Prop := Claim7.holds Tryd.pinned (.plain (OpenSpec.ofChange fnExactGirthAtSpec)) fnExactGirthAtCard

/-- THE TIED CARD OF 'laws.FnExactEdgesOf'. -/
def fnExactEdgesOfCard : Claim7 := { stood := { row := fnExactEdgesOfRow, standIns := [], harness := (true, "c8ac38c964ef01fb9ba6f6998c9254e410f4864bcb10871bf6dc4a21c8c37f3f"), looks := false }, kinds := [], alts := [], laidByText := true, laidKinds := [.data], laidTests := true, laidLooks := .later }
def FnExactEdgesOfCardSaid : Prop := Claim7.holds Tryd.pinned (.plain (OpenSpec.ofChange fnExactEdgesOfSpec)) fnExactEdgesOfCard

/-- THE TIED CARD OF 'laws.FnExactIsAntipodal'. -/
def fnExactIsAntipodalCard : Claim7 := { stood := { row := fnExactIsAntipodalRow, standIns := [], harness := (true, "c8ac38c964ef01fb9ba6f6998c9254e410f4864bcb10871bf6dc4a21c8c37f3f"), looks := false }, kinds := [], alts := [], laidByText := true, laidKinds := [.data], laidTests := true, laidLooks := .later }
def FnExactIsAntipodalCardSaid : Prop := Claim7.holds Tryd.pinned (.plain (OpenSpec.ofChange fnExactIsAntipodalSpec)) fnExactIsAntipodalCard

/-- THE TIED CARD OF 'laws.FnExactFoldedGraph'. -/
def fnExactFoldedGraphCard : Claim7 := { stood := { row := fnExactFoldedGraphRow, standIns := [], harness := (true, "c8ac38c964ef01fb9ba6f6998c9254e410f4864bcb10871bf6dc4a21c8c37f3f"), looks := false }, kinds := [], alts := [], laidByText := true, laidKinds := [.data], laidTests := true, laidLooks := .later }
def FnExactFoldedGraphCardSaid : Prop := Claim7.holds Tryd.pinned (.plain (OpenSpec.ofChange fnExactFoldedGraphSpec)) fnExactFoldedGraphCard

/-- THE SECOND FORM's CARD OF 'laws.FnExactPutEdge'. -/
def fnExactPutEdgeUptoCard : Claim7 := { stood := { row := fnExactPutEdgeUptoRow, standIns := [], harness := (true, "c8ac38c964ef01fb9ba6f6998c9254e410f4864bcb10871bf6dc4a21c8c37f3f"), looks := false }, kinds := [], alts := [], laidByText := true, laidKinds := [.data], laidTests := true, laidLooks := .later }
def FnExactPutEdgeUptoCardSaid : Prop := Claim7.holds Tryd.pinned (.plain (OpenSpec.upto fnExactPutEdgeSpec)) fnExactPutEdgeUptoCard

/-- THE SECOND FORM's CARD OF 'laws.FnExactTakeEdge'. -/
def fnExactTakeEdgeUptoCard : Claim7 := { stood := { row := fnExactTakeEdgeUptoRow, standIns := [], harness := (true, "c8ac38c964ef01fb9ba6f6998c9254e410f4864bcb10871bf6dc4a21c8c37f3f"), looks := false }, kinds := [], alts := [], laidByText := true, laidKinds := [.data], laidTests := true, laidLooks := .later }
def FnExactTakeEdgeUptoCardSaid : Prop := Claim7.holds Tryd.pinned (.plain (OpenSpec.upto fnExactTakeEdgeSpec)) fnExactTakeEdgeUptoCard

/-- THE SECOND FORM's CARD OF 'laws.FnExactEdgesLeft'. -/
def fnExactEdgesLeftUptoCard : Claim7 := { stood := { row := fnExactEdgesLeftUptoRow, standIns := [], harness := (true, "c8ac38c964ef01fb9ba6f6998c9254e410f4864bcb10871bf6dc4a21c8c37f3f"), looks := false }, kinds := [], alts := [], laidByText := true, laidKinds := [.data], laidTests := true, laidLooks := .later }
def FnExactEdgesLeftUptoCardSaid : Prop := Claim7.holds Tryd.pinned (.plain (OpenSpec.upto fnExactEdgesLeftSpec)) fnExactEdgesLeftUptoCard

/-- THE SECOND FORM's CARD OF 'laws.FnExactGreedyGraph'. -/
def fnExactGreedyGraphUptoCard : Claim7 := { stood := { row := fnExactGreedyGraphUptoRow, standIns := [], harness := (true, "c8ac38c964ef01fb9ba6f6998c9254e410f4864bcb10871bf6dc4a21c8c37f3f"), looks := false }, kinds := [], alts := [], laidByText := true, laidKinds := [.data], laidTests := true, laidLooks := .later }
def FnExactGreedyGraphUptoCardSaid : Prop := Claim7.holds Tryd.pinned (.plain (OpenSpec.upto fnExactGreedyGraphSpec)) fnExactGreedyGraphUptoCard

/-- THE SECOND FORM's CARD OF 'laws.FnExactHalfOf'. -/
def fnExactHalfOfUptoCard : Claim7 := { stood := { row := fnExactHalfOfUptoRow, standIns := [], harness := (true, "c8ac38c964ef01fb9ba6f6998c9254e410f4864bcb10871bf6dc4a21c8c37f3f"), looks := false }, kinds := [], alts := [], laidByText := true, laidKinds := [.data], laidTests := true, laidLooks := .later }
def FnExactHalfOfUptoCardSaid : Prop := Claim7.holds Tryd.pinned (.plain (OpenSpec.upto fnExactHalfOfSpec)) fnExactHalfOfUptoCard

/-- THE SECOND FORM's CARD OF 'laws.FnExactGirthAt'. -/
def fnExactGirthAtUptoCard : Claim7 := { stood := { row := fnExactGirthAtUptoRow, standIns := [], harness := (true, "c8ac38c964ef01fb9ba6f6998c9254e410f4864bcb10871bf6dc4a21c8c37f3f"), looks := false }, kinds := [], alts := [], laidByText := true, laidKinds := [.data], laidTests := true, laidLooks := .later }
def FnExactGirthAtUptoCardSaid : Prop := Claim7.holds Tryd.pinned (.plain (OpenSpec.upto fnExactGirthAtSpec)) fnExactGirthAtUptoCard

/-- THE SECOND FORM's CARD OF 'laws.FnExactEdgesOf'. -/
def fnExactEdgesOfUptoCard : Claim7 := { stood := { row := fnExactEdgesOfUptoRow, standIns := [], harness := (true, "c8ac38c964ef01fb9ba6f6998c9254e410f4864bcb10871bf6dc4a21c8c37f3f"), looks := false }, kinds := [], alts := [], laidByText := true, laidKinds := [.data], laidTests := true, laidLooks := .later }
def FnExactEdgesOfUptoCardSaid : Prop := Claim7.holds Tryd.pinned (.plain (OpenSpec.upto fnExactEdgesOfSpec)) fnExactEdgesOfUptoCard

/-- THE SECOND FORM's CARD OF 'laws.FnExactIsAntipodal'. -/
def fnExactIsAntipodalUptoCard : Claim7 := { stood := { row := fnExactIsAntipodalUptoRow, standIns := [], harness := (true, "c8ac38c964ef01fb9ba6f6998c9254e410f4864bcb10871bf6dc4a21c8c37f3f"), looks := false }, kinds := [], alts := [], laidByText := true, laidKinds := [.data], laidTests := true, laidLooks := .later }
def FnExactIsAntipodalUptoCardSaid : Prop := Claim7.holds Tryd.pinned (.plain (OpenSpec.upto fnExactIsAntipodalSpec)) fnExactIsAntipodalUptoCard

/-- THE SECOND FORM's CARD OF 'laws.FnExactFoldedGraph'. -/
def fnExactFoldedGraphUptoCard : Claim7 := { stood := { row := fnExactFoldedGraphUptoRow, standIns := [], harness := (true, "c8ac38c964ef01fb9ba6f6998c9254e410f4864bcb10871bf6dc4a21c8c37f3f"), looks := false }, kinds := [], alts := [], laidByText := true, laidKinds := [.data], laidTests := true, laidLooks := .later }
def FnExactFoldedGraphUptoCardSaid : Prop := Claim7.holds Tryd.pinned (.plain (OpenSpec.upto fnExactFoldedGraphSpec)) fnExactFoldedGraphUptoCard
end Rows
end Go.Proofs.YthfmebjadkjnmaaDoor
