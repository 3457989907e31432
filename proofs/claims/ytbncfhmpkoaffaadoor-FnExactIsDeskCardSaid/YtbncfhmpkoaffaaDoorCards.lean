/-
  DERIVED. GIVEN WITH THE SEED: THE CARDS: each row of YtbncfhmpkoaffaaDoorRows.lean that lists a variable, with what it lists TIED to the program's text (the seventh form; the later family's looks); each row that meets fmt, with fmt's text TOLD by the authors' own Lean function (tested against real Go, not proved from fmt's source: count such statements apart). THE CARD IS WHAT COUNTS. Prove the row's statement (the work); the ties are given (YtbncfhmpkoaffaaDoorTie.lean); close each card by the builder's one call (the guide's Derived/Test/ToyasCard.lean, 'card_holds'). Laid BY PROGRAM, IN A SANDBOX (cutbox-door.mjs). By AI agents, Wed Nov 11 2026. No macro, syntax, notation, axiom, sorry.
-/
import Derived.Test.YtbncfhmpkoaffaaDoorRows
import GoSem.ClaimSeven
namespace Go.Proofs.YtbncfhmpkoaffaaDoor
namespace Rows

/-- THE TIED CARD OF 'laws.FnExactArcsOf'. -/
def fnExactArcsOfCard : Claim7 := { stood := { row := fnExactArcsOfRow, standIns := [], harness := (true, "a6352c525fda9ceea24cbddd80054d863bd4d5c3faf0df00330da399ecf926a3"), looks := true }, kinds := [], alts := [], laidByText := true, laidKinds := [.data, .sentinel], laidTests := true, laidLooks := .later }
def FnExactArcsOfCardSaid : Prop := Claim7.holds Tryd.pinned (.plain (OpenSpec.ofChange fnExactArcsOfSpec)) fnExactArcsOfCard

/-- THE TIED CARD OF 'laws.FnExactLineDigraph'. -/
def fnExactLineDigraphCard : Claim7 := { stood := { row := fnExactLineDigraphRow, standIns := [], harness := (true, "a6352c525fda9ceea24cbddd80054d863bd4d5c3faf0df00330da399ecf926a3"), looks := true }, kinds := [], alts := [], laidByText := true, laidKinds := [.data, .sentinel], laidTests := true, laidLooks := .later }
def FnExactLineDigraphCardSaid : Prop := Claim7.holds Tryd.pinned (.plain (OpenSpec.ofChange fnExactLineDigraphSpec)) fnExactLineDigraphCard

/-- THE TIED CARD OF 'laws.FnExactReverseDigraph'. -/
def fnExactReverseDigraphCard : Claim7 := { stood := { row := fnExactReverseDigraphRow, standIns := [], harness := (true, "a6352c525fda9ceea24cbddd80054d863bd4d5c3faf0df00330da399ecf926a3"), looks := true }, kinds := [], alts := [], laidByText := true, laidKinds := [.data, .sentinel], laidTests := true, laidLooks := .later }
def FnExactReverseDigraphCardSaid : Prop := Claim7.holds Tryd.pinned (.plain (OpenSpec.ofChange fnExactReverseDigraphSpec)) fnExactReverseDigraphCard

/-- THE TIED CARD OF 'laws.FnExactDegreeOfDigraph'. -/
def fnExactDegreeOfDigraphCard : Claim7 := { stood := { row := fnExactDegreeOfDigraphRow, standIns := [], harness := (true, "a6352c525fda9ceea24cbddd80054d863bd4d5c3faf0df00330da399ecf926a3"), looks := true }, kinds := [], alts := [], laidByText := true, laidKinds := [.data, .sentinel], laidTests := true, laidLooks := .later }
def FnExactDegreeOfDigraphCardSaid : Prop := Claim7.holds Tryd.pinned (.plain (OpenSpec.ofChange fnExactDegreeOfDigraphSpec)) fnExactDegreeOfDigraphCard

/-- THE TIED CARD OF 'laws.FnExactIsStrong'. -/
def fnExactIsStrongCard : Claim7 := { stood := { row := fnExactIsStrongRow, standIns := [], harness := (true, "a6352c525fda9ceea24cbddd80054d863bd4d5c3faf0df00330da399ecf926a3"), looks := true }, kinds := [], alts := [], laidByText := true, laidKinds := [.data, .sentinel], laidTests := true, laidLooks := .later }
def FnExactIsStrongCardSaid : Prop := Claim7.holds Tryd.pinned (.plain (OpenSpec.ofChange fnExactIsStrongSpec)) fnExactIsStrongCard

/-- THE TIED CARD OF 'laws.FnExactDiameterOfDigraph'. -/
def fnExactDiameterOfDigraphCard : Claim7 := { stood := { row := fnExactDiameterOfDigraphRow, standIns := [], harness := (true, "a6352c525fda9ceea24cbddd80054d863bd4d5c3faf0df00330da399ecf926a3"), looks := true }, kinds := [], alts := [], laidByText := true, laidKinds := [.data, .sentinel], laidTests := true, laidLooks := .later }
def FnExactDiameterOfDigraphCardSaid : Prop := Claim7.holds Tryd.pinned (.plain (OpenSpec.ofChange fnExactDiameterOfDigraphSpec)) fnExactDiameterOfDigraphCard

/-- THE TIED CARD OF 'laws.FnExactCountWalks'. -/
def fnExactCountWalksCard : Claim7 := { stood := { row := fnExactCountWalksRow, standIns := [], harness := (true, "a6352c525fda9ceea24cbddd80054d863bd4d5c3faf0df00330da399ecf926a3"), looks := true }, kinds := [], alts := [], laidByText := true, laidKinds := [.data, .sentinel], laidTests := true, laidLooks := .later }
def FnExactCountWalksCardSaid : Prop := Claim7.holds Tryd.pinned (.plain (OpenSpec.ofChange fnExactCountWalksSpec)) fnExactCountWalksCard

/-- THE TIED CARD OF 'laws.FnExactIsMooreDigraph'. -/
def fnExactIsMooreDigraphCard : Claim7 := { stood := { row := fnExactIsMooreDigraphRow, standIns := [], harness := (true, "a6352c525fda9ceea24cbddd80054d863bd4d5c3faf0df00330da399ecf926a3"), looks := true }, kinds := [], alts := [], laidByText := true, laidKinds := [.data, .sentinel], laidTests := true, laidLooks := .later }
def FnExactIsMooreDigraphCardSaid : Prop := Claim7.holds Tryd.pinned (.plain (OpenSpec.ofChange fnExactIsMooreDigraphSpec)) fnExactIsMooreDigraphCard

/-- THE TIED CARD OF 'laws.FnExactIsDesk'. -/
def fnExactIsDeskCard : Claim7 := { stood := { row := fnExactIsDeskRow, standIns := [], harness := (true, "a6352c525fda9ceea24cbddd80054d863bd4d5c3faf0df00330da399ecf926a3"), looks := true }, kinds := [], alts := [], laidByText := true, laidKinds := [.data, .sentinel], laidTests := true, laidLooks := .later }
def FnExactIsDeskCardSaid : Prop := Claim7.holds Tryd.pinned (.plain (OpenSpec.ofChange fnExactIsDeskSpec)) fnExactIsDeskCard

/-- THE SECOND FORM's CARD OF 'laws.FnExactArcsOf'. -/
def fnExactArcsOfUptoCard : Claim7 := { stood := { row := fnExactArcsOfUptoRow, standIns := [], harness := (true, "a6352c525fda9ceea24cbddd80054d863bd4d5c3faf0df00330da399ecf926a3"), looks := true }, kinds := [], alts := [], laidByText := true, laidKinds := [.data, .sentinel], laidTests := true, laidLooks := .later }
def FnExactArcsOfUptoCardSaid : Prop := Claim7.holds Tryd.pinned (.plain (OpenSpec.upto fnExactArcsOfSpec)) fnExactArcsOfUptoCard

/-- THE SECOND FORM's CARD OF 'laws.FnExactLineDigraph'. -/
def fnExactLineDigraphUptoCard : Claim7 := { stood := { row := fnExactLineDigraphUptoRow, standIns := [], harness := (true, "a6352c525fda9ceea24cbddd80054d863bd4d5c3faf0df00330da399ecf926a3"), looks := true }, kinds := [], alts := [], laidByText := true, laidKinds := [.data, .sentinel], laidTests := true, laidLooks := .later }
def FnExactLineDigraphUptoCardSaid : Prop := Claim7.holds Tryd.pinned (.plain (OpenSpec.upto fnExactLineDigraphSpec)) fnExactLineDigraphUptoCard

/-- THE SECOND FORM's CARD OF 'laws.FnExactReverseDigraph'. -/
def fnExactReverseDigraphUptoCard : Claim7 := { stood := { row := fnExactReverseDigraphUptoRow, standIns := [], harness := (true, "a6352c525fda9ceea24cbddd80054d863bd4d5c3faf0df00330da399ecf926a3"), looks := true }, kinds := [], alts := [], laidByText := true, laidKinds := [.data, .sentinel], laidTests := true, laidLooks := .later }
def FnExactReverseDigraphUptoCardSaid : Prop := Claim7.holds Tryd.pinned (.plain (OpenSpec.upto fnExactReverseDigraphSpec)) fnExactReverseDigraphUptoCard

/-- THE SECOND FORM's CARD OF 'laws.FnExactDegreeOfDigraph'. -/
def fnExactDegreeOfDigraphUptoCard : Claim7 := { stood := { row := fnExactDegreeOfDigraphUptoRow, standIns := [], harness := (true, "a6352c525fda9ceea24cbddd80054d863bd4d5c3faf0df00330da399ecf926a3"), looks := true }, kinds := [], alts := [], laidByText := true, laidKinds := [.data, .sentinel], laidTests := true, laidLooks := .later }
def FnExactDegreeOfDigraphUptoCardSaid : Prop := Claim7.holds Tryd.pinned (.plain (OpenSpec.upto fnExactDegreeOfDigraphSpec)) fnExactDegreeOfDigraphUptoCard

/-- THE SECOND FORM's CARD OF 'laws.FnExactIsStrong'. -/
def fnExactIsStrongUptoCard : Claim7 := { stood := { row := fnExactIsStrongUptoRow, standIns := [], harness := (true, "a6352c525fda9ceea24cbddd80054d863bd4d5c3faf0df00330da399ecf926a3"), looks := true }, kinds := [], alts := [], laidByText := true, laidKinds := [.data, .sentinel], laidTests := true, laidLooks := .later }
def FnExactIsStrongUptoCardSaid : Prop := Claim7.holds Tryd.pinned (.plain (OpenSpec.upto fnExactIsStrongSpec)) fnExactIsStrongUptoCard

/-- THE SECOND FORM's CARD OF 'laws.FnExactDiameterOfDigraph'. -/
def fnExactDiameterOfDigraphUptoCard : Claim7 := { stood := { row := fnExactDiameterOfDigraphUptoRow, standIns := [], harness := (true, "a6352c525fda9ceea24cbddd80054d863bd4d5c3faf0df00330da399ecf926a3"), looks := true }, kinds := [], alts := [], laidByText := true, laidKinds := [.data, .sentinel], laidTests := true, laidLooks := .later }
def FnExactDiameterOfDigraphUptoCardSaid : Prop := Claim7.holds Tryd.pinned (.plain (OpenSpec.upto fnExactDiameterOfDigraphSpec)) fnExactDiameterOfDigraphUptoCard

/-- THE SECOND FORM's CARD OF 'laws.FnExactCountWalks'. -/
def fnExactCountWalksUptoCard : Claim7 := { stood := { row := fnExactCountWalksUptoRow, standIns := [], harness := (true, "a6352c525fda9ceea24cbddd80054d863bd4d5c3faf0df00330da399ecf926a3"), looks := true }, kinds := [], alts := [], laidByText := true, laidKinds := [.data, .sentinel], laidTests := true, laidLooks := .later }
def FnExactCountWalksUptoCardSaid : Prop := Claim7.holds Tryd.pinned (.plain (OpenSpec.upto fnExactCountWalksSpec)) fnExactCountWalksUptoCard

/-- THE SECOND FORM's CARD OF 'laws.FnExactIsMooreDigraph'. -/
def fnExactIsMooreDigraphUptoCard : Claim7 := { stood := { row := fnExactIsMooreDigraphUptoRow, standIns := [], harness := (true, "a6352c525fda9ceea24cbddd80054d863bd4d5c3faf0df00330da399ecf926a3"), looks := true }, kinds := [], alts := [], laidByText := true, laidKinds := [.data, .sentinel], laidTests := true, laidLooks := .later }
def FnExactIsMooreDigraphUptoCardSaid : Prop := Claim7.holds Tryd.pinned (.plain (OpenSpec.upto fnExactIsMooreDigraphSpec)) fnExactIsMooreDigraphUptoCard

/-- THE SECOND FORM's CARD OF 'laws.FnExactIsDesk'. -/
def fnExactIsDeskUptoCard : Claim7 := { stood := { row := fnExactIsDeskUptoRow, standIns := [], harness := (true, "a6352c525fda9ceea24cbddd80054d863bd4d5c3faf0df00330da399ecf926a3"), looks := true }, kinds := [], alts := [], laidByText := true, laidKinds := [.data, .sentinel], laidTests := true, laidLooks := .later }
def FnExactIsDeskUptoCardSaid : Prop := Claim7.holds Tryd.pinned (.plain (OpenSpec.upto fnExactIsDeskSpec)) fnExactIsDeskUptoCard
end Rows
end Go.Proofs.YtbncfhmpkoaffaaDoor
