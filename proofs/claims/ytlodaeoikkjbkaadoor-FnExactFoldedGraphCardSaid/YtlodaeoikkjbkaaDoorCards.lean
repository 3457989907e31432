/-
  DERIVED. GIVEN WITH THE SEED: THE CARDS: each row of YtlodaeoikkjbkaaDoorRows.lean that lists a variable, with what it lists TIED to the program's text (the seventh form; the later family's looks); each row that meets fmt, with fmt's text TOLD by the authors' own Lean function (tested against real Go, not proved from fmt's source: count such statements apart). THE CARD IS WHAT COUNTS. Prove the row's statement (the work); the ties are given (YtlodaeoikkjbkaaDoorTie.lean); close each card by the builder's one call (the guide's Derived/Test/ToyasCard.lean, 'card_holds'). Laid BY PROGRAM, IN A SANDBOX (cutbox-door.mjs). By AI agents, Wed Nov 11 2026. No macro, syntax, notation, axiom, sorry.
-/
import Derived.Test.YtlodaeoikkjbkaaDoorRows
import GoSem.ClaimSeven
namespace Go.Proofs.YtlodaeoikkjbkaaDoor
namespace Rows

/-- THE TIED CARD OF 'laws.FnExactDistancesFrom'. -/
def fnExactDistancesFromCard : Claim7 := { stood := { row := fnExactDistancesFromRow, standIns := [], harness := (true, "9873315cfbb559392f1dd7461d845fb519c5cb95f3379e7cbe1b727fa0815183"), looks := false }, kinds := [], alts := [], laidByText := true, laidKinds := [.data], laidTests := true, laidLooks := .later }
def FnExactDistancesFromCardSaid : Prop := Claim7.holds Tryd.pinned (.plain (OpenSpec.ofChange fnExactDistancesFromSpec)) fnExactDistancesFromCard

/-- THE TIED CARD OF 'laws.FnExactIsCover'. -/
def fnExactIsCoverCard : Claim7 := { stood := { row := fnExactIsCoverRow, standIns := [], harness := (true, "9873315cfbb559392f1dd7461d845fb519c5cb95f3379e7cbe1b727fa0815183"), looks := false }, kinds := [], alts := [], laidByText := true, laidKinds := [.data], laidTests := true, laidLooks := .later }
def FnExactIsCoverCardSaid : Prop := Claim7.holds Tryd.pinned (.plain (OpenSpec.ofChange fnExactIsCoverSpec)) fnExactIsCoverCard

/-- THE TIED CARD OF 'laws.FnExactCountClosedAt'. -/
def fnExactCountClosedAtCard : Claim7 := { stood := { row := fnExactCountClosedAtRow, standIns := [], harness := (true, "9873315cfbb559392f1dd7461d845fb519c5cb95f3379e7cbe1b727fa0815183"), looks := false }, kinds := [], alts := [], laidByText := true, laidKinds := [.data], laidTests := true, laidLooks := .later }
def FnExactCountClosedAtCardSaid : Prop := Claim7.holds Tryd.pinned (.plain (OpenSpec.ofChange fnExactCountClosedAtSpec)) fnExactCountClosedAtCard

/-- THE TIED CARD OF 'laws.FnExactGraphAt'. -/
def fnExactGraphAtCard : Claim7 := { stood := { row := fnExactGraphAtRow, standIns := [], harness := (true, "9873315cfbb559392f1dd7461d845fb519c5cb95f3379e7cbe1b727fa0815183"), looks := false }, kinds := [], alts := [], laidByText := true, laidKinds := [.data], laidTests := true, laidLooks := .later }
def FnExactGraphAtCardSaid : Prop := Claim7.holds Tryd.pinned (.plain (OpenSpec.ofChange fnExactGraphAtSpec)) fnExactGraphAtCard

/-- THE TIED CARD OF 'laws.FnExactDoubleGraph'. -/
def fnExactDoubleGraphCard : Claim7 := { stood := { row := fnExactDoubleGraphRow, standIns := [], harness := (true, "9873315cfbb559392f1dd7461d845fb519c5cb95f3379e7cbe1b727fa0815183"), looks := false }, kinds := [], alts := [], laidByText := true, laidKinds := [.data], laidTests := true, laidLooks := .later }
def FnExactDoubleGraphCardSaid : Prop := Claim7.holds Tryd.pinned (.plain (OpenSpec.ofChange fnExactDoubleGraphSpec)) fnExactDoubleGraphCard

/-- THE TIED CARD OF 'laws.FnExactIsAntipodal'. -/
def fnExactIsAntipodalCard : Claim7 := { stood := { row := fnExactIsAntipodalRow, standIns := [], harness := (true, "9873315cfbb559392f1dd7461d845fb519c5cb95f3379e7cbe1b727fa0815183"), looks := false }, kinds := [], alts := [], laidByText := true, laidKinds := [.data], laidTests := true, laidLooks := .later }
def FnExactIsAntipodalCardSaid : Prop := Claim7.holds Tryd.pinned (.plain (OpenSpec.ofChange fnExactIsAntipodalSpec)) fnExactIsAntipodalCard

/-- THE TIED CARD OF 'laws.FnExactFoldedGraph'. -/
def fnExactFoldedGraphCard : Claim7 := { stood := { row := fnExactFoldedGraphRow, standIns := [], harness := (true, "9873315cfbb559392f1dd7461d845fb519c5cb95f3379e7cbe1b727fa0815183"), looks := false }, kinds := [], alts := [], laidByText := true, laidKinds := [.data], laidTests := true, laidLooks := .later }
def FnExactFoldedGraphCardSaid : Prop := Claim7.holds Tryd.pinned (.plain (OpenSpec.ofChange fnExactFoldedGraphSpec)) fnExactFoldedGraphCard

/-- THE SECOND FORM's CARD OF 'laws.FnExactDistancesFrom'. -/
def fnExactDistancesFromUptoCard : Claim7 := { stood := { row := fnExactDistancesFromUptoRow, standIns := [], harness := (true, "9873315cfbb559392f1dd7461d845fb519c5cb95f3379e7cbe1b727fa0815183"), looks := false }, kinds := [], alts := [], laidByText := true, laidKinds := [.data], laidTests := true, laidLooks := .later }
def FnExactDistancesFromUptoCardSaid : Prop := Claim7.holds Tryd.pinned (.plain (OpenSpec.upto fnExactDistancesFromSpec)) fnExactDistancesFromUptoCard

/-- THE SECOND FORM's CARD OF 'laws.FnExactIsCover'. -/
def fnExactIsCoverUptoCard : Claim7 := { stood := { row := fnExactIsCoverUptoRow, standIns := [], harness := (true, "9873315cfbb559392f1dd7461d845fb519c5cb95f3379e7cbe1b727fa0815183"), looks := false }, kinds := [], alts := [], laidByText := true, laidKinds := [.data], laidTests := true, laidLooks := .later }
def FnExactIsCoverUptoCardSaid : Prop := Claim7.holds Tryd.pinned (.plain (OpenSpec.upto fnExactIsCoverSpec)) fnExactIsCoverUptoCard

/-- THE SECOND FORM's CARD OF 'laws.FnExactCountClosedAt'. -/
def fnExactCountClosedAtUptoCard : Claim7 := { stood := { row := fnExactCountClosedAtUptoRow, standIns := [], harness := (true, "9873315cfbb559392f1dd7461d845fb519c5cb95f3379e7cbe1b727fa0815183"), looks := false }, kinds := [], alts := [], laidByText := true, laidKinds := [.data], laidTests := true, laidLooks := .later }
def FnExactCountClosedAtUptoCardSaid : Prop := Claim7.holds Tryd.pinned (.plain (OpenSpec.upto fnExactCountClosedAtSpec)) fnExactCountClosedAtUptoCard

/-- THE SECOND FORM's CARD OF 'laws.FnExactGraphAt'. -/
def fnExactGraphAtUptoCard : Claim7 := { stood := { row := fnExactGraphAtUptoRow, standIns := [], harness := (true, "9873315cfbb559392f1dd7461d845fb519c5cb95f3379e7cbe1b727fa0815183"), looks := false }, kinds := [], alts := [], laidByText := true, laidKinds := [.data], laidTests := true, laidLooks := .later }
def FnExactGraphAtUptoCardSaid : Prop := Claim7.holds Tryd.pinned (.plain (OpenSpec.upto fnExactGraphAtSpec)) fnExactGraphAtUptoCard

/-- THE SECOND FORM's CARD OF 'laws.FnExactDoubleGraph'. -/
def fnExactDoubleGraphUptoCard : Claim7 := { stood := { row := fnExactDoubleGraphUptoRow, standIns := [], harness := (true, "9873315cfbb559392f1dd7461d845fb519c5cb95f3379e7cbe1b727fa0815183"), looks := false }, kinds := [], alts := [], laidByText := true, laidKinds := [.data], laidTests := true, laidLooks := .later }
def FnExactDoubleGraphUptoCardSaid : Prop := Claim7.holds Tryd.pinned (.plain (OpenSpec.upto fnExactDoubleGraphSpec)) fnExactDoubleGraphUptoCard

/-- THE SECOND FORM's CARD OF 'laws.FnExactIsAntipodal'. -/
def fnExactIsAntipodalUptoCard : Claim7 := { stood := { row := fnExactIsAntipodalUptoRow, standIns := [], harness := (true, "9873315cfbb559392f1dd7461d845fb519c5cb95f3379e7cbe1b727fa0815183"), looks := false }, kinds := [], alts := [], laidByText := true, laidKinds := [.data], laidTests := true, laidLooks := .later }
def FnExactIsAntipodalUptoCardSaid : Prop := Claim7.holds Tryd.pinned (.plain (OpenSpec.upto fnExactIsAntipodalSpec)) fnExactIsAntipodalUptoCard

/-- THE SECOND FORM's CARD OF 'laws.FnExactFoldedGraph'. -/
def fnExactFoldedGraphUptoCard : Claim7 := { stood := { row := fnExactFoldedGraphUptoRow, standIns := [], harness := (true, "9873315cfbb559392f1dd7461d845fb519c5cb95f3379e7cbe1b727fa0815183"), looks := false }, kinds := [], alts := [], laidByText := true, laidKinds := [.data], laidTests := true, laidLooks := .later }
def FnExactFoldedGraphUptoCardSaid : Prop := Claim7.holds Tryd.pinned (.plain (OpenSpec.upto fnExactFoldedGraphSpec)) fnExactFoldedGraphUptoCard
end Rows
end Go.Proofs.YtlodaeoikkjbkaaDoor
