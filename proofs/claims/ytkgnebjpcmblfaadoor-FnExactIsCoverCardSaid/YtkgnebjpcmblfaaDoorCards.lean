/-
  DERIVED. GIVEN WITH THE SEED: THE CARDS: each row of YtkgnebjpcmblfaaDoorRows.lean that lists a variable, with what it lists TIED to the program's text (the seventh form; the later family's looks); each row that meets fmt, with fmt's text TOLD by the authors' own Lean function (tested against real Go, not proved from fmt's source: count such statements apart). THE CARD IS WHAT COUNTS. Prove the row's statement (the work); the ties are given (YtkgnebjpcmblfaaDoorTie.lean); close each card by the builder's one call (the guide's Derived/Test/ToyasCard.lean, 'card_holds'). Laid BY PROGRAM, IN A SANDBOX (cutbox-door.mjs). By AI agents, Wed Nov 11 2026. No macro, syntax, notation, axiom, sorry.
-/
import Derived.Test.YtkgnebjpcmblfaaDoorRows
import GoSem.ClaimSeven
namespace Go.Proofs.YtkgnebjpcmblfaaDoor
namespace Rows

/-- THE TIED CARD OF 'laws.FnExactDegreesOf'. -/
def fnExactDegreesOfCard : Claim7 := { stood := { row := fnExactDegreesOfRow, standIns := [], harness := (true, "4a978d68f3943d838504f0c497eb644dd3140ed78cafbb520cbd8ce8e82069b2"), looks := false }, kinds := [], alts := [], laidByText := true, laidKinds := [.data], laidTests := true, laidLooks := .later }
def FnExactDegreesOfCardSaid : Prop := Claim7.holds Tryd.pinned (.plain (OpenSpec.ofChange fnExactDegreesOfSpec)) fnExactDegreesOfCard

/-- THE TIED CARD OF 'laws.FnExactNeighboursOf'. -/
def fnExactNeighboursOfCard : Claim7 := { stood := { row := fnExactNeighboursOfRow, standIns := [], harness := (true, "4a978d68f3943d838504f0c497eb644dd3140ed78cafbb520cbd8ce8e82069b2"), looks := false }, kinds := [], alts := [], laidByText := true, laidKinds := [.data], laidTests := true, laidLooks := .later }
def FnExactNeighboursOfCardSaid : Prop := Claim7.holds Tryd.pinned (.plain (OpenSpec.ofChange fnExactNeighboursOfSpec)) fnExactNeighboursOfCard

/-- THE TIED CARD OF 'laws.FnExactComplementOf'. -/
def fnExactComplementOfCard : Claim7 := { stood := { row := fnExactComplementOfRow, standIns := [], harness := (true, "4a978d68f3943d838504f0c497eb644dd3140ed78cafbb520cbd8ce8e82069b2"), looks := false }, kinds := [], alts := [], laidByText := true, laidKinds := [.data], laidTests := true, laidLooks := .later }
def FnExactComplementOfCardSaid : Prop := Claim7.holds Tryd.pinned (.plain (OpenSpec.ofChange fnExactComplementOfSpec)) fnExactComplementOfCard

/-- THE TIED CARD OF 'laws.FnExactPutEdge'. -/
def fnExactPutEdgeCard : Claim7 := { stood := { row := fnExactPutEdgeRow, standIns := [], harness := (true, "4a978d68f3943d838504f0c497eb644dd3140ed78cafbb520cbd8ce8e82069b2"), looks := false }, kinds := [], alts := [], laidByText := true, laidKinds := [.data], laidTests := true, laidLooks := .later }
def FnExactPutEdgeCardSaid : Prop := Claim7.holds Tryd.pinned (.plain (OpenSpec.ofChange fnExactPutEdgeSpec)) fnExactPutEdgeCard

/-- THE TIED CARD OF 'laws.FnExactTakeEdge'. -/
def fnExactTakeEdgeCard : Claim7 := { stood := { row := fnExactTakeEdgeRow, standIns := [], harness := (true, "4a978d68f3943d838504f0c497eb644dd3140ed78cafbb520cbd8ce8e82069b2"), looks := false }, kinds := [], alts := [], laidByText := true, laidKinds := [.data], laidTests := true, laidLooks := .later }
def FnExactTakeEdgeCardSaid : Prop := Claim7.holds Tryd.pinned (.plain (OpenSpec.ofChange fnExactTakeEdgeSpec)) fnExactTakeEdgeCard

/-- THE TIED CARD OF 'laws.FnExactPartOn'. -/
def fnExactPartOnCard : Claim7 := { stood := { row := fnExactPartOnRow, standIns := [], harness := (true, "4a978d68f3943d838504f0c497eb644dd3140ed78cafbb520cbd8ce8e82069b2"), looks := false }, kinds := [], alts := [], laidByText := true, laidKinds := [.data], laidTests := true, laidLooks := .later }
def FnExactPartOnCardSaid : Prop := Claim7.holds Tryd.pinned (.plain (OpenSpec.ofChange fnExactPartOnSpec)) fnExactPartOnCard

/-- THE TIED CARD OF 'laws.FnExactDistancesFrom'. -/
def fnExactDistancesFromCard : Claim7 := { stood := { row := fnExactDistancesFromRow, standIns := [], harness := (true, "4a978d68f3943d838504f0c497eb644dd3140ed78cafbb520cbd8ce8e82069b2"), looks := false }, kinds := [], alts := [], laidByText := true, laidKinds := [.data], laidTests := true, laidLooks := .later }
def FnExactDistancesFromCardSaid : Prop := Claim7.holds Tryd.pinned (.plain (OpenSpec.ofChange fnExactDistancesFromSpec)) fnExactDistancesFromCard

/-- THE TIED CARD OF 'laws.FnExactLevelsFrom'. -/
def fnExactLevelsFromCard : Claim7 := { stood := { row := fnExactLevelsFromRow, standIns := [], harness := (true, "4a978d68f3943d838504f0c497eb644dd3140ed78cafbb520cbd8ce8e82069b2"), looks := false }, kinds := [], alts := [], laidByText := true, laidKinds := [.data], laidTests := true, laidLooks := .later }
def FnExactLevelsFromCardSaid : Prop := Claim7.holds Tryd.pinned (.plain (OpenSpec.ofChange fnExactLevelsFromSpec)) fnExactLevelsFromCard

/-- THE TIED CARD OF 'laws.FnExactReachesOf'. -/
def fnExactReachesOfCard : Claim7 := { stood := { row := fnExactReachesOfRow, standIns := [], harness := (true, "4a978d68f3943d838504f0c497eb644dd3140ed78cafbb520cbd8ce8e82069b2"), looks := false }, kinds := [], alts := [], laidByText := true, laidKinds := [.data], laidTests := true, laidLooks := .later }
def FnExactReachesOfCardSaid : Prop := Claim7.holds Tryd.pinned (.plain (OpenSpec.ofChange fnExactReachesOfSpec)) fnExactReachesOfCard

/-- THE TIED CARD OF 'laws.FnExactIsCover'. -/
def fnExactIsCoverCard : Claim7 := { stood := { row := fnExactIsCoverRow, standIns := [], harness := (true, "4a978d68f3943d838504f0c497eb644dd3140ed78cafbb520cbd8ce8e82069b2"), looks := false }, kinds := [], alts := [], laidByText := true, laidKinds := [.data], laidTests := true, laidLooks := .later }
def FnExactIsCoverCardSaid : Prop := Claim7.holds Tryd.pinned (.plain (OpenSpec.ofChange fnExactIsCoverSpec)) fnExactIsCoverCard

/-- THE TIED CARD OF 'laws.FnExactDiameterOf'. -/
def fnExactDiameterOfCard : Claim7 := { stood := { row := fnExactDiameterOfRow, standIns := [], harness := (true, "4a978d68f3943d838504f0c497eb644dd3140ed78cafbb520cbd8ce8e82069b2"), looks := false }, kinds := [], alts := [], laidByText := true, laidKinds := [.data], laidTests := true, laidLooks := .later }
def FnExactDiameterOfCardSaid : Prop := Claim7.holds Tryd.pinned (.plain (OpenSpec.ofChange fnExactDiameterOfSpec)) fnExactDiameterOfCard

/-- THE TIED CARD OF 'laws.FnExactIsConnected'. -/
def fnExactIsConnectedCard : Claim7 := { stood := { row := fnExactIsConnectedRow, standIns := [], harness := (true, "4a978d68f3943d838504f0c497eb644dd3140ed78cafbb520cbd8ce8e82069b2"), looks := false }, kinds := [], alts := [], laidByText := true, laidKinds := [.data], laidTests := true, laidLooks := .later }
def FnExactIsConnectedCardSaid : Prop := Claim7.holds Tryd.pinned (.plain (OpenSpec.ofChange fnExactIsConnectedSpec)) fnExactIsConnectedCard

/-- THE SECOND FORM's CARD OF 'laws.FnExactDegreesOf'. -/
def fnExactDegreesOfUptoCard : Claim7 := { stood := { row := fnExactDegreesOfUptoRow, standIns := [], harness := (true, "4a978d68f3943d838504f0c497eb644dd3140ed78cafbb520cbd8ce8e82069b2"), looks := false }, kinds := [], alts := [], laidByText := true, laidKinds := [.data], laidTests := true, laidLooks := .later }
def FnExactDegreesOfUptoCardSaid : Prop := Claim7.holds Tryd.pinned (.plain (OpenSpec.upto fnExactDegreesOfSpec)) fnExactDegreesOfUptoCard

/-- THE SECOND FORM's CARD OF 'laws.FnExactNeighboursOf'. -/
def fnExactNeighboursOfUptoCard : Claim7 := { stood := { row := fnExactNeighboursOfUptoRow, standIns := [], harness := (true, "4a978d68f3943d838504f0c497eb644dd3140ed78cafbb520cbd8ce8e82069b2"), looks := false }, kinds := [], alts := [], laidByText := true, laidKinds := [.data], laidTests := true, laidLooks := .later }
def FnExactNeighboursOfUptoCardSaid : Prop := Claim7.holds Tryd.pinned (.plain (OpenSpec.upto fnExactNeighboursOfSpec)) fnExactNeighboursOfUptoCard

/-- THE SECOND FORM's CARD OF 'laws.FnExactComplementOf'. -/
def fnExactComplementOfUptoCard : Claim7 := { stood := { row := fnExactComplementOfUptoRow, standIns := [], harness := (true, "4a978d68f3943d838504f0c497eb644dd3140ed78cafbb520cbd8ce8e82069b2"), looks := false }, kinds := [], alts := [], laidByText := true, laidKinds := [.data], laidTests := true, laidLooks := .later }
def FnExactComplementOfUptoCardSaid : Prop := Claim7.holds Tryd.pinned (.plain (OpenSpec.upto fnExactComplementOfSpec)) fnExactComplementOfUptoCard

/-- THE SECOND FORM's CARD OF 'laws.FnExactPutEdge'. -/
def fnExactPutEdgeUptoCard : Claim7 := { stood := { row := fnExactPutEdgeUptoRow, standIns := [], harness := (true, "4a978d68f3943d838504f0c497eb644dd3140ed78cafbb520cbd8ce8e82069b2"), looks := false }, kinds := [], alts := [], laidByText := true, laidKinds := [.data], laidTests := true, laidLooks := .later }
def FnExactPutEdgeUptoCardSaid : Prop := Claim7.holds Tryd.pinned (.plain (OpenSpec.upto fnExactPutEdgeSpec)) fnExactPutEdgeUptoCard

/-- THE SECOND FORM's CARD OF 'laws.FnExactTakeEdge'. -/
def fnExactTakeEdgeUptoCard : Claim7 := { stood := { row := fnExactTakeEdgeUptoRow, standIns := [], harness := (true, "4a978d68f3943d838504f0c497eb644dd3140ed78cafbb520cbd8ce8e82069b2"), looks := false }, kinds := [], alts := [], laidByText := true, laidKinds := [.data], laidTests := true, laidLooks := .later }
def FnExactTakeEdgeUptoCardSaid : Prop := Claim7.holds Tryd.pinned (.plain (OpenSpec.upto fnExactTakeEdgeSpec)) fnExactTakeEdgeUptoCard

/-- THE SECOND FORM's CARD OF 'laws.FnExactPartOn'. -/
def fnExactPartOnUptoCard : Claim7 := { stood := { row := fnExactPartOnUptoRow, standIns := [], harness := (true, "4a978d68f3943d838504f0c497eb644dd3140ed78cafbb520cbd8ce8e82069b2"), looks := false }, kinds := [], alts := [], laidByText := true, laidKinds := [.data], laidTests := true, laidLooks := .later }
def FnExactPartOnUptoCardSaid : Prop := Claim7.holds Tryd.pinned (.plain (OpenSpec.upto fnExactPartOnSpec)) fnExactPartOnUptoCard

/-- THE SECOND FORM's CARD OF 'laws.FnExactDistancesFrom'. -/
def fnExactDistancesFromUptoCard : Claim7 := { stood := { row := fnExactDistancesFromUptoRow, standIns := [], harness := (true, "4a978d68f3943d838504f0c497eb644dd3140ed78cafbb520cbd8ce8e82069b2"), looks := false }, kinds := [], alts := [], laidByText := true, laidKinds := [.data], laidTests := true, laidLooks := .later }
def FnExactDistancesFromUptoCardSaid : Prop := Claim7.holds Tryd.pinned (.plain (OpenSpec.upto fnExactDistancesFromSpec)) fnExactDistancesFromUptoCard

/-- THE SECOND FORM's CARD OF 'laws.FnExactLevelsFrom'. -/
def fnExactLevelsFromUptoCard : Claim7 := { stood := { row := fnExactLevelsFromUptoRow, standIns := [], harness := (true, "4a978d68f3943d838504f0c497eb644dd3140ed78cafbb520cbd8ce8e82069b2"), looks := false }, kinds := [], alts := [], laidByText := true, laidKinds := [.data], laidTests := true, laidLooks := .later }
def FnExactLevelsFromUptoCardSaid : Prop := Claim7.holds Tryd.pinned (.plain (OpenSpec.upto fnExactLevelsFromSpec)) fnExactLevelsFromUptoCard

/-- THE SECOND FORM's CARD OF 'laws.FnExactReachesOf'. -/
def fnExactReachesOfUptoCard : Claim7 := { stood := { row := fnExactReachesOfUptoRow, standIns := [], harness := (true, "4a978d68f3943d838504f0c497eb644dd3140ed78cafbb520cbd8ce8e82069b2"), looks := false }, kinds := [], alts := [], laidByText := true, laidKinds := [.data], laidTests := true, laidLooks := .later }
def FnExactReachesOfUptoCardSaid : Prop := Claim7.holds Tryd.pinned (.plain (OpenSpec.upto fnExactReachesOfSpec)) fnExactReachesOfUptoCard

/-- THE SECOND FORM's CARD OF 'laws.FnExactIsCover'. -/
def fnExactIsCoverUptoCard : Claim7 := { stood := { row := fnExactIsCoverUptoRow, standIns := [], harness := (true, "4a978d68f3943d838504f0c497eb644dd3140ed78cafbb520cbd8ce8e82069b2"), looks := false }, kinds := [], alts := [], laidByText := true, laidKinds := [.data], laidTests := true, laidLooks := .later }
def FnExactIsCoverUptoCardSaid : Prop := Claim7.holds Tryd.pinned (.plain (OpenSpec.upto fnExactIsCoverSpec)) fnExactIsCoverUptoCard

/-- THE SECOND FORM's CARD OF 'laws.FnExactDiameterOf'. -/
def fnExactDiameterOfUptoCard : Claim7 := { stood := { row := fnExactDiameterOfUptoRow, standIns := [], harness := (true, "4a978d68f3943d838504f0c497eb644dd3140ed78cafbb520cbd8ce8e82069b2"), looks := false }, kinds := [], alts := [], laidByText := true, laidKinds := [.data], laidTests := true, laidLooks := .later }
def FnExactDiameterOfUptoCardSaid : Prop := Claim7.holds Tryd.pinned (.plain (OpenSpec.upto fnExactDiameterOfSpec)) fnExactDiameterOfUptoCard

/-- THE SECOND FORM's CARD OF 'laws.FnExactIsConnected'. -/
def fnExactIsConnectedUptoCard : Claim7 := { stood := { row := fnExactIsConnectedUptoRow, standIns := [], harness := (true, "4a978d68f3943d838504f0c497eb644dd3140ed78cafbb520cbd8ce8e82069b2"), looks := false }, kinds := [], alts := [], laidByText := true, laidKinds := [.data], laidTests := true, laidLooks := .later }
def FnExactIsConnectedUptoCardSaid : Prop := Claim7.holds Tryd.pinned (.plain (OpenSpec.upto fnExactIsConnectedSpec)) fnExactIsConnectedUptoCard
end Rows
end Go.Proofs.YtkgnebjpcmblfaaDoor
