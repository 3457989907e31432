/-
  DERIVED. GIVEN WITH THE SEED: THE CARDS: each row of YtmkikokpfohfhaaDoorRows.lean that lists a variable, with what it lists TIED to the program's text (the seventh form; the later family's looks); each row that meets fmt, with fmt's text TOLD by the authors' own Lean function (tested against real Go, not proved from fmt's source: count such statements apart). THE CARD IS WHAT COUNTS. Prove the row's statement (the work); the ties are given (YtmkikokpfohfhaaDoorTie.lean); close each card by the builder's one call (the guide's Derived/Test/ToyasCard.lean, 'card_holds'). Laid BY PROGRAM, IN A SANDBOX (cutbox-door.mjs). By AI agents, Wed Nov 11 2026. No macro, syntax, notation, axiom, sorry.
-/
import Derived.Test.YtmkikokpfohfhaaDoorRows
import GoSem.ClaimSeven
namespace Go.Proofs.YtmkikokpfohfhaaDoor
namespace Rows

/-- THE TIED CARD OF 'laws.FnExactGirthOf'. -/
def fnExactGirthOfCard : Claim7 := { stood := { row := fnExactGirthOfRow, standIns := [], harness := (true, "1e94776b9c0113c369ada47fd69bb6b40ce3f79ab51d2aef39b6567aeb3b3a77"), looks := false }, kinds := [], alts := [], laidByText := true, laidKinds := [.data], laidTests := true, laidLooks := .later }
def FnExactGirthOfCardSaid : Prop := Claim7.holds Tryd.pinned (.plain (OpenSpec.ofChange fnExactGirthOfSpec)) fnExactGirthOfCard

/-- THE TIED CARD OF 'laws.FnExactGirthAt'. -/
def fnExactGirthAtCard : Claim7 := { stood := { row := fnExactGirthAtRow, standIns := [], harness := (true, "1e94776b9c0113c369ada47fd69bb6b40ce3f79ab51d2aef39b6567aeb3b3a77"), looks := false }, kinds := [], alts := [], laidByText := true, laidKinds := [.data], laidTests := true, laidLooks := .later }
def FnExactGirthAtCardSaid : Prop := Claim7.holds Tryd.pinned (.plain (OpenSpec.ofChange fnExactGirthAtSpec)) fnExactGirthAtCard

/-- THE TIED CARD OF 'laws.FnExactFitsBoth'. -/
def fnExactFitsBothCard : Claim7 := { stood := { row := fnExactFitsBothRow, standIns := [], harness := (true, "1e94776b9c0113c369ada47fd69bb6b40ce3f79ab51d2aef39b6567aeb3b3a77"), looks := false }, kinds := [], alts := [], laidByText := true, laidKinds := [.data], laidTests := true, laidLooks := .later }
def FnExactFitsBothCardSaid : Prop := Claim7.holds Tryd.pinned (.plain (OpenSpec.ofChange fnExactFitsBothSpec)) fnExactFitsBothCard

/-- THE TIED CARD OF 'laws.FnExactPairsToJoin'. -/
def fnExactPairsToJoinCard : Claim7 := { stood := { row := fnExactPairsToJoinRow, standIns := [], harness := (true, "1e94776b9c0113c369ada47fd69bb6b40ce3f79ab51d2aef39b6567aeb3b3a77"), looks := false }, kinds := [], alts := [], laidByText := true, laidKinds := [.data], laidTests := true, laidLooks := .later }
def FnExactPairsToJoinCardSaid : Prop := Claim7.holds Tryd.pinned (.plain (OpenSpec.ofChange fnExactPairsToJoinSpec)) fnExactPairsToJoinCard

/-- THE TIED CARD OF 'laws.FnExactIsFull'. -/
def fnExactIsFullCard : Claim7 := { stood := { row := fnExactIsFullRow, standIns := [], harness := (true, "1e94776b9c0113c369ada47fd69bb6b40ce3f79ab51d2aef39b6567aeb3b3a77"), looks := false }, kinds := [], alts := [], laidByText := true, laidKinds := [.data], laidTests := true, laidLooks := .later }
def FnExactIsFullCardSaid : Prop := Claim7.holds Tryd.pinned (.plain (OpenSpec.ofChange fnExactIsFullSpec)) fnExactIsFullCard

/-- THE TIED CARD OF 'laws.FnExactFillGraph'. -/
def fnExactFillGraphCard : Claim7 := { stood := { row := fnExactFillGraphRow, standIns := [], harness := (true, "1e94776b9c0113c369ada47fd69bb6b40ce3f79ab51d2aef39b6567aeb3b3a77"), looks := false }, kinds := [], alts := [], laidByText := true, laidKinds := [.data], laidTests := true, laidLooks := .later }
def FnExactFillGraphCardSaid : Prop := Claim7.holds Tryd.pinned (.plain (OpenSpec.ofChange fnExactFillGraphSpec)) fnExactFillGraphCard

/-- THE TIED CARD OF 'laws.FnExactGreedyGraph'. -/
def fnExactGreedyGraphCard : Claim7 := { stood := { row := fnExactGreedyGraphRow, standIns := [], harness := (true, "1e94776b9c0113c369ada47fd69bb6b40ce3f79ab51d2aef39b6567aeb3b3a77"), looks := false }, kinds := [], alts := [], laidByText := true, laidKinds := [.data], laidTests := true, laidLooks := .later }
def FnExactGreedyGraphCardSaid : Prop := Claim7.holds Tryd.pinned (.plain (OpenSpec.ofChange fnExactGreedyGraphSpec)) fnExactGreedyGraphCard

/-- THE TIED CARD OF 'laws.FnExactRenumberGraph'. -/
def fnExactRenumberGraphCard : Claim7 := { stood := { row := fnExactRenumberGraphRow, standIns := [], harness := (true, "1e94776b9c0113c369ada47fd69bb6b40ce3f79ab51d2aef39b6567aeb3b3a77"), looks := false }, kinds := [], alts := [], laidByText := true, laidKinds := [.data], laidTests := true, laidLooks := .later }
def FnExactRenumberGraphCardSaid : Prop := Claim7.holds Tryd.pinned (.plain (OpenSpec.ofChange fnExactRenumberGraphSpec)) fnExactRenumberGraphCard

/-- THE SECOND FORM's CARD OF 'laws.FnExactGirthOf'. -/
def fnExactGirthOfUptoCard : Claim7 := { stood := { row := fnExactGirthOfUptoRow, standIns := [], harness := (true, "1e94776b9c0113c369ada47fd69bb6b40ce3f79ab51d2aef39b6567aeb3b3a77"), looks := false }, kinds := [], alts := [], laidByText := true, laidKinds := [.data], laidTests := true, laidLooks := .later }
def FnExactGirthOfUptoCardSaid : Prop := Claim7.holds Tryd.pinned (.plain (OpenSpec.upto fnExactGirthOfSpec)) fnExactGirthOfUptoCard

/-- THE SECOND FORM's CARD OF 'laws.FnExactGirthAt'. -/
def fnExactGirthAtUptoCard : Claim7 := { stood := { row := fnExactGirthAtUptoRow, standIns := [], harness := (true, "1e94776b9c0113c369ada47fd69bb6b40ce3f79ab51d2aef39b6567aeb3b3a77"), looks := false }, kinds := [], alts := [], laidByText := true, laidKinds := [.data], laidTests := true, laidLooks := .later }
def FnExactGirthAtUptoCardSaid : Prop := Claim7.holds Tryd.pinned (.plain (OpenSpec.upto fnExactGirthAtSpec)) fnExactGirthAtUptoCard

/-- THE SECOND FORM's CARD OF 'laws.FnExactFitsBoth'. -/
def fnExactFitsBothUptoCard : Claim7 := { stood := { row := fnExactFitsBothUptoRow, standIns := [], harness := (true, "1e94776b9c0113c369ada47fd69bb6b40ce3f79ab51d2aef39b6567aeb3b3a77"), looks := false }, kinds := [], alts := [], laidByText := true, laidKinds := [.data], laidTests := true, laidLooks := .later }
def FnExactFitsBothUptoCardSaid : Prop := Claim7.holds Tryd.pinned (.plain (OpenSpec.upto fnExactFitsBothSpec)) fnExactFitsBothUptoCard

/-- THE SECOND FORM's CARD OF 'laws.FnExactPairsToJoin'. -/
def fnExactPairsToJoinUptoCard : Claim7 := { stood := { row := fnExactPairsToJoinUptoRow, standIns := [], harness := (true, "1e94776b9c0113c369ada47fd69bb6b40ce3f79ab51d2aef39b6567aeb3b3a77"), looks := false }, kinds := [], alts := [], laidByText := true, laidKinds := [.data], laidTests := true, laidLooks := .later }
def FnExactPairsToJoinUptoCardSaid : Prop := Claim7.holds Tryd.pinned (.plain (OpenSpec.upto fnExactPairsToJoinSpec)) fnExactPairsToJoinUptoCard

/-- THE SECOND FORM's CARD OF 'laws.FnExactIsFull'. -/
def fnExactIsFullUptoCard : Claim7 := { stood := { row := fnExactIsFullUptoRow, standIns := [], harness := (true, "1e94776b9c0113c369ada47fd69bb6b40ce3f79ab51d2aef39b6567aeb3b3a77"), looks := false }, kinds := [], alts := [], laidByText := true, laidKinds := [.data], laidTests := true, laidLooks := .later }
def FnExactIsFullUptoCardSaid : Prop := Claim7.holds Tryd.pinned (.plain (OpenSpec.upto fnExactIsFullSpec)) fnExactIsFullUptoCard

/-- THE SECOND FORM's CARD OF 'laws.FnExactFillGraph'. -/
def fnExactFillGraphUptoCard : Claim7 := { stood := { row := fnExactFillGraphUptoRow, standIns := [], harness := (true, "1e94776b9c0113c369ada47fd69bb6b40ce3f79ab51d2aef39b6567aeb3b3a77"), looks := false }, kinds := [], alts := [], laidByText := true, laidKinds := [.data], laidTests := true, laidLooks := .later }
def FnExactFillGraphUptoCardSaid : Prop := Claim7.holds Tryd.pinned (.plain (OpenSpec.upto fnExactFillGraphSpec)) fnExactFillGraphUptoCard

/-- THE SECOND FORM's CARD OF 'laws.FnExactGreedyGraph'. -/
def fnExactGreedyGraphUptoCard : Claim7 := { stood := { row := fnExactGreedyGraphUptoRow, standIns := [], harness := (true, "1e94776b9c0113c369ada47fd69bb6b40ce3f79ab51d2aef39b6567aeb3b3a77"), looks := false }, kinds := [], alts := [], laidByText := true, laidKinds := [.data], laidTests := true, laidLooks := .later }
def FnExactGreedyGraphUptoCardSaid : Prop := Claim7.holds Tryd.pinned (.plain (OpenSpec.upto fnExactGreedyGraphSpec)) fnExactGreedyGraphUptoCard

/-- THE SECOND FORM's CARD OF 'laws.FnExactRenumberGraph'. -/
def fnExactRenumberGraphUptoCard : Claim7 := { stood := { row := fnExactRenumberGraphUptoRow, standIns := [], harness := (true, "1e94776b9c0113c369ada47fd69bb6b40ce3f79ab51d2aef39b6567aeb3b3a77"), looks := false }, kinds := [], alts := [], laidByText := true, laidKinds := [.data], laidTests := true, laidLooks := .later }
def FnExactRenumberGraphUptoCardSaid : Prop := Claim7.holds Tryd.pinned (.plain (OpenSpec.upto fnExactRenumberGraphSpec)) fnExactRenumberGraphUptoCard
end Rows
end Go.Proofs.YtmkikokpfohfhaaDoor
