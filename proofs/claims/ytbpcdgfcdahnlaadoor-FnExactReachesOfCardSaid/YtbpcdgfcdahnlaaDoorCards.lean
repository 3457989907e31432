/-
  DERIVED. GIVEN WITH THE SEED: THE CARDS: each row of YtbpcdgfcdahnlaaDoorRows.lean that lists a variable, with what it lists TIED to the program's text (the seventh form; the later family's looks); each row that meets fmt, with fmt's text TOLD by the authors' own Lean function (tested against real Go, not proved from fmt's source: count such statements apart). THE CARD IS WHAT COUNTS. Prove the row's statement (the work); the ties are given (YtbpcdgfcdahnlaaDoorTie.lean); close each card by the builder's one call (the guide's Derived/Test/ToyasCard.lean, 'card_holds'). Laid BY PROGRAM, IN A SANDBOX (cutbox-door.mjs). By AI agents, Wed Nov 11 2026. No macro, syntax, notation, axiom, sorry.
-/
import Derived.Test.YtbpcdgfcdahnlaaDoorRows
import GoSem.ClaimSeven
namespace Go.Proofs.YtbpcdgfcdahnlaaDoor
namespace Rows

/-- THE TIED CARD OF 'laws.FnExactDegreesOf'. -/
def fnExactDegreesOfCard : Claim7 := { stood := { row := fnExactDegreesOfRow, standIns := [], harness := (true, "c154808c6e123d2bfca81540638f995ee7285369bcf197e9af2d43f26756d559"), looks := false }, kinds := [], alts := [], laidByText := true, laidKinds := [.data], laidTests := true, laidLooks := .later }
def FnExactDegreesOfCardSaid : Prop := Claim7.holds Tryd.pinned (.plain (OpenSpec.ofChange fnExactDegreesOfSpec)) fnExactDegreesOfCard

/-- THE TIED CARD OF 'laws.FnExactRegularDegree'. -/
def fnExactRegularDegreeCard : Claim7 := { stood := { row := fnExactRegularDegreeRow, standIns := [], harness := (true, "c154808c6e123d2bfca81540638f995ee7285369bcf197e9af2d43f26756d559"), looks := false }, kinds := [], alts := [], laidByText := true, laidKinds := [.data], laidTests := true, laidLooks := .later }
def FnExactRegularDegreeCardSaid : Prop := Claim7.holds Tryd.pinned (.plain (OpenSpec.ofChange fnExactRegularDegreeSpec)) fnExactRegularDegreeCard

/-- THE TIED CARD OF 'laws.FnExactPartsOf'. -/
def fnExactPartsOfCard : Claim7 := { stood := { row := fnExactPartsOfRow, standIns := [], harness := (true, "c154808c6e123d2bfca81540638f995ee7285369bcf197e9af2d43f26756d559"), looks := false }, kinds := [], alts := [], laidByText := true, laidKinds := [.data], laidTests := true, laidLooks := .later }
def FnExactPartsOfCardSaid : Prop := Claim7.holds Tryd.pinned (.plain (OpenSpec.ofChange fnExactPartsOfSpec)) fnExactPartsOfCard

/-- THE TIED CARD OF 'laws.FnExactIsConnected'. -/
def fnExactIsConnectedCard : Claim7 := { stood := { row := fnExactIsConnectedRow, standIns := [], harness := (true, "c154808c6e123d2bfca81540638f995ee7285369bcf197e9af2d43f26756d559"), looks := false }, kinds := [], alts := [], laidByText := true, laidKinds := [.data], laidTests := true, laidLooks := .later }
def FnExactIsConnectedCardSaid : Prop := Claim7.holds Tryd.pinned (.plain (OpenSpec.ofChange fnExactIsConnectedSpec)) fnExactIsConnectedCard

/-- THE TIED CARD OF 'laws.FnExactIsBipartite'. -/
def fnExactIsBipartiteCard : Claim7 := { stood := { row := fnExactIsBipartiteRow, standIns := [], harness := (true, "c154808c6e123d2bfca81540638f995ee7285369bcf197e9af2d43f26756d559"), looks := false }, kinds := [], alts := [], laidByText := true, laidKinds := [.data], laidTests := true, laidLooks := .later }
def FnExactIsBipartiteCardSaid : Prop := Claim7.holds Tryd.pinned (.plain (OpenSpec.ofChange fnExactIsBipartiteSpec)) fnExactIsBipartiteCard

/-- THE TIED CARD OF 'laws.FnExactComplementOf'. -/
def fnExactComplementOfCard : Claim7 := { stood := { row := fnExactComplementOfRow, standIns := [], harness := (true, "c154808c6e123d2bfca81540638f995ee7285369bcf197e9af2d43f26756d559"), looks := false }, kinds := [], alts := [], laidByText := true, laidKinds := [.data], laidTests := true, laidLooks := .later }
def FnExactComplementOfCardSaid : Prop := Claim7.holds Tryd.pinned (.plain (OpenSpec.ofChange fnExactComplementOfSpec)) fnExactComplementOfCard

/-- THE TIED CARD OF 'laws.FnExactPartOn'. -/
def fnExactPartOnCard : Claim7 := { stood := { row := fnExactPartOnRow, standIns := [], harness := (true, "c154808c6e123d2bfca81540638f995ee7285369bcf197e9af2d43f26756d559"), looks := false }, kinds := [], alts := [], laidByText := true, laidKinds := [.data], laidTests := true, laidLooks := .later }
def FnExactPartOnCardSaid : Prop := Claim7.holds Tryd.pinned (.plain (OpenSpec.ofChange fnExactPartOnSpec)) fnExactPartOnCard

/-- THE TIED CARD OF 'laws.FnExactPutBeside'. -/
def fnExactPutBesideCard : Claim7 := { stood := { row := fnExactPutBesideRow, standIns := [], harness := (true, "c154808c6e123d2bfca81540638f995ee7285369bcf197e9af2d43f26756d559"), looks := false }, kinds := [], alts := [], laidByText := true, laidKinds := [.data], laidTests := true, laidLooks := .later }
def FnExactPutBesideCardSaid : Prop := Claim7.holds Tryd.pinned (.plain (OpenSpec.ofChange fnExactPutBesideSpec)) fnExactPutBesideCard

/-- THE TIED CARD OF 'laws.FnExactDistanceOf'. -/
def fnExactDistanceOfCard : Claim7 := { stood := { row := fnExactDistanceOfRow, standIns := [], harness := (true, "c154808c6e123d2bfca81540638f995ee7285369bcf197e9af2d43f26756d559"), looks := false }, kinds := [], alts := [], laidByText := true, laidKinds := [.data], laidTests := true, laidLooks := .later }
def FnExactDistanceOfCardSaid : Prop := Claim7.holds Tryd.pinned (.plain (OpenSpec.ofChange fnExactDistanceOfSpec)) fnExactDistanceOfCard

/-- THE TIED CARD OF 'laws.FnExactLevelsFrom'. -/
def fnExactLevelsFromCard : Claim7 := { stood := { row := fnExactLevelsFromRow, standIns := [], harness := (true, "c154808c6e123d2bfca81540638f995ee7285369bcf197e9af2d43f26756d559"), looks := false }, kinds := [], alts := [], laidByText := true, laidKinds := [.data], laidTests := true, laidLooks := .later }
def FnExactLevelsFromCardSaid : Prop := Claim7.holds Tryd.pinned (.plain (OpenSpec.ofChange fnExactLevelsFromSpec)) fnExactLevelsFromCard

/-- THE TIED CARD OF 'laws.FnExactReachesOf'. -/
def fnExactReachesOfCard : Claim7 := { stood := { row := fnExactReachesOfRow, standIns := [], harness := (true, "c154808c6e123d2bfca81540638f995ee7285369bcf197e9af2d43f26756d559"), looks := false }, kinds := [], alts := [], laidByText := true, laidKinds := [.data], laidTests := true, laidLooks := .later }
def FnExactReachesOfCardSaid : Prop := Claim7.holds Tryd.pinned (.plain (OpenSpec.ofChange fnExactReachesOfSpec)) fnExactReachesOfCard

/-- THE TIED CARD OF 'laws.FnExactDiameterOf'. -/
def fnExactDiameterOfCard : Claim7 := { stood := { row := fnExactDiameterOfRow, standIns := [], harness := (true, "c154808c6e123d2bfca81540638f995ee7285369bcf197e9af2d43f26756d559"), looks := false }, kinds := [], alts := [], laidByText := true, laidKinds := [.data], laidTests := true, laidLooks := .later }
def FnExactDiameterOfCardSaid : Prop := Claim7.holds Tryd.pinned (.plain (OpenSpec.ofChange fnExactDiameterOfSpec)) fnExactDiameterOfCard

/-- THE SECOND FORM's CARD OF 'laws.FnExactDegreesOf'. -/
def fnExactDegreesOfUptoCard : Claim7 := { stood := { row := fnExactDegreesOfUptoRow, standIns := [], harness := (true, "c154808c6e123d2bfca81540638f995ee7285369bcf197e9af2d43f26756d559"), looks := false }, kinds := [], alts := [], laidByText := true, laidKinds := [.data], laidTests := true, laidLooks := .later }
def FnExactDegreesOfUptoCardSaid : Prop := Claim7.holds Tryd.pinned (.plain (OpenSpec.upto fnExactDegreesOfSpec)) fnExactDegreesOfUptoCard

/-- THE SECOND FORM's CARD OF 'laws.FnExactRegularDegree'. -/
def fnExactRegularDegreeUptoCard : Claim7 := { stood := { row := fnExactRegularDegreeUptoRow, standIns := [], harness := (true, "c154808c6e123d2bfca81540638f995ee7285369bcf197e9af2d43f26756d559"), looks := false }, kinds := [], alts := [], laidByText := true, laidKinds := [.data], laidTests := true, laidLooks := .later }
def FnExactRegularDegreeUptoCardSaid : Prop := Claim7.holds Tryd.pinned (.plain (OpenSpec.upto fnExactRegularDegreeSpec)) fnExactRegularDegreeUptoCard

/-- THE SECOND FORM's CARD OF 'laws.FnExactPartsOf'. -/
def fnExactPartsOfUptoCard : Claim7 := { stood := { row := fnExactPartsOfUptoRow, standIns := [], harness := (true, "c154808c6e123d2bfca81540638f995ee7285369bcf197e9af2d43f26756d559"), looks := false }, kinds := [], alts := [], laidByText := true, laidKinds := [.data], laidTests := true, laidLooks := .later }
def FnExactPartsOfUptoCardSaid : Prop := Claim7.holds Tryd.pinned (.plain (OpenSpec.upto fnExactPartsOfSpec)) fnExactPartsOfUptoCard

/-- THE SECOND FORM's CARD OF 'laws.FnExactIsConnected'. -/
def fnExactIsConnectedUptoCard : Claim7 := { stood := { row := fnExactIsConnectedUptoRow, standIns := [], harness := (true, "c154808c6e123d2bfca81540638f995ee7285369bcf197e9af2d43f26756d559"), looks := false }, kinds := [], alts := [], laidByText := true, laidKinds := [.data], laidTests := true, laidLooks := .later }
def FnExactIsConnectedUptoCardSaid : Prop := Claim7.holds Tryd.pinned (.plain (OpenSpec.upto fnExactIsConnectedSpec)) fnExactIsConnectedUptoCard

/-- THE SECOND FORM's CARD OF 'laws.FnExactIsBipartite'. -/
def fnExactIsBipartiteUptoCard : Claim7 := { stood := { row := fnExactIsBipartiteUptoRow, standIns := [], harness := (true, "c154808c6e123d2bfca81540638f995ee7285369bcf197e9af2d43f26756d559"), looks := false }, kinds := [], alts := [], laidByText := true, laidKinds := [.data], laidTests := true, laidLooks := .later }
def FnExactIsBipartiteUptoCardSaid : Prop := Claim7.holds Tryd.pinned (.plain (OpenSpec.upto fnExactIsBipartiteSpec)) fnExactIsBipartiteUptoCard

/-- THE SECOND FORM's CARD OF 'laws.FnExactComplementOf'. -/
def fnExactComplementOfUptoCard : Claim7 := { stood := { row := fnExactComplementOfUptoRow, standIns := [], harness := (true, "c154808c6e123d2bfca81540638f995ee7285369bcf197e9af2d43f26756d559"), looks := false }, kinds := [], alts := [], laidByText := true, laidKinds := [.data], laidTests := true, laidLooks := .later }
def FnExactComplementOfUptoCardSaid : Prop := Claim7.holds Tryd.pinned (.plain (OpenSpec.upto fnExactComplementOfSpec)) fnExactComplementOfUptoCard

/-- THE SECOND FORM's CARD OF 'laws.FnExactPartOn'. -/
def fnExactPartOnUptoCard : Claim7 := { stood := { row := fnExactPartOnUptoRow, standIns := [], harness := (true, "c154808c6e123d2bfca81540638f995ee7285369bcf197e9af2d43f26756d559"), looks := false }, kinds := [], alts := [], laidByText := true, laidKinds := [.data], laidTests := true, laidLooks := .later }
def FnExactPartOnUptoCardSaid : Prop := Claim7.holds Tryd.pinned (.plain (OpenSpec.upto fnExactPartOnSpec)) fnExactPartOnUptoCard

/-- THE SECOND FORM's CARD OF 'laws.FnExactPutBeside'. -/
def fnExactPutBesideUptoCard : Claim7 := { stood := { row := fnExactPutBesideUptoRow, standIns := [], harness := (true, "c154808c6e123d2bfca81540638f995ee7285369bcf197e9af2d43f26756d559"), looks := false }, kinds := [], alts := [], laidByText := true, laidKinds := [.data], laidTests := true, laidLooks := .later }
def FnExactPutBesideUptoCardSaid : Prop := Claim7.holds Tryd.pinned (.plain (OpenSpec.upto fnExactPutBesideSpec)) fnExactPutBesideUptoCard

/-- THE SECOND FORM's CARD OF 'laws.FnExactDistanceOf'. -/
def fnExactDistanceOfUptoCard : Claim7 := { stood := { row := fnExactDistanceOfUptoRow, standIns := [], harness := (true, "c154808c6e123d2bfca81540638f995ee7285369bcf197e9af2d43f26756d559"), looks := false }, kinds := [], alts := [], laidByText := true, laidKinds := [.data], laidTests := true, laidLooks := .later }
def FnExactDistanceOfUptoCardSaid : Prop := Claim7.holds Tryd.pinned (.plain (OpenSpec.upto fnExactDistanceOfSpec)) fnExactDistanceOfUptoCard

/-- THE SECOND FORM's CARD OF 'laws.FnExactLevelsFrom'. -/
def fnExactLevelsFromUptoCard : Claim7 := { stood := { row := fnExactLevelsFromUptoRow, standIns := [], harness := (true, "c154808c6e123d2bfca81540638f995ee7285369bcf197e9af2d43f26756d559"), looks := false }, kinds := [], alts := [], laidByText := true, laidKinds := [.data], laidTests := true, laidLooks := .later }
def FnExactLevelsFromUptoCardSaid : Prop := Claim7.holds Tryd.pinned (.plain (OpenSpec.upto fnExactLevelsFromSpec)) fnExactLevelsFromUptoCard

/-- THE SECOND FORM's CARD OF 'laws.FnExactReachesOf'. -/
def fnExactReachesOfUptoCard : Claim7 := { stood := { row := fnExactReachesOfUptoRow, standIns := [], harness := (true, "c154808c6e123d2bfca81540638f995ee7285369bcf197e9af2d43f26756d559"), looks := false }, kinds := [], alts := [], laidByText := true, laidKinds := [.data], laidTests := true, laidLooks := .later }
def FnExactReachesOfUptoCardSaid : Prop := Claim7.holds Tryd.pinned (.plain (OpenSpec.upto fnExactReachesOfSpec)) fnExactReachesOfUptoCard

/-- THE SECOND FORM's CARD OF 'laws.FnExactDiameterOf'. -/
def fnExactDiameterOfUptoCard : Claim7 := { stood := { row := fnExactDiameterOfUptoRow, standIns := [], harness := (true, "c154808c6e123d2bfca81540638f995ee7285369bcf197e9af2d43f26756d559"), looks := false }, kinds := [], alts := [], laidByText := true, laidKinds := [.data], laidTests := true, laidLooks := .later }
def FnExactDiameterOfUptoCardSaid : Prop := Claim7.holds Tryd.pinned (.plain (OpenSpec.upto fnExactDiameterOfSpec)) fnExactDiameterOfUptoCard
end Rows
end Go.Proofs.YtbpcdgfcdahnlaaDoor
