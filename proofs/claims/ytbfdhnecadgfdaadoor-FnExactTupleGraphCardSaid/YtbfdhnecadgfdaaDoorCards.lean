/-
  DERIVED. GIVEN WITH THE SEED: THE CARDS: each row of YtbfdhnecadgfdaaDoorRows.lean that lists a variable, with what it lists TIED to the program's text (the seventh form; the later family's looks); each row that meets fmt, with fmt's text TOLD by the authors' own Lean function (tested against real Go, not proved from fmt's source: count such statements apart). THE CARD IS WHAT COUNTS. Prove the row's statement (the work); the ties are given (YtbfdhnecadgfdaaDoorTie.lean); close each card by the builder's one call (the guide's Derived/Test/ToyasCard.lean, 'card_holds'). Laid BY PROGRAM, IN A SANDBOX (cutbox-door.mjs). By AI agents, Wed Nov 11 2026. No macro, syntax, notation, axiom, sorry.
-/
import Derived.Test.YtbfdhnecadgfdaaDoorRows
import GoSem.ClaimSeven
namespace Go.Proofs.YtbfdhnecadgfdaaDoor
namespace Rows

/-- THE TIED CARD OF 'laws.FnExactAbsolutePoints'. -/
def fnExactAbsolutePointsCard : Claim7 := { stood := { row := fnExactAbsolutePointsRow, standIns := [], harness := (true, "3a98ac952502d1ae3322155836eb97c3ec1bfeca39476a97c560bf03cb71a7d8"), looks := false }, kinds := [], alts := [], laidByText := true, laidKinds := [.data], laidTests := true, laidLooks := .later }
def FnExactAbsolutePointsCardSaid : Prop := Claim7.holds Tryd.pinned (.plain (OpenSpec.ofChange fnExactAbsolutePointsSpec)) fnExactAbsolutePointsCard

/-- THE TIED CARD OF 'laws.FnExactPlanePoints'. -/
def fnExactPlanePointsCard : Claim7 := { stood := { row := fnExactPlanePointsRow, standIns := [], harness := (true, "3a98ac952502d1ae3322155836eb97c3ec1bfeca39476a97c560bf03cb71a7d8"), looks := false }, kinds := [], alts := [], laidByText := true, laidKinds := [.data], laidTests := true, laidLooks := .later }
def FnExactPlanePointsCardSaid : Prop := Claim7.holds Tryd.pinned (.plain (OpenSpec.ofChange fnExactPlanePointsSpec)) fnExactPlanePointsCard

/-- THE TIED CARD OF 'laws.FnExactTupleGraph'. -/
def fnExactTupleGraphCard : Claim7 := { stood := { row := fnExactTupleGraphRow, standIns := [], harness := (true, "3a98ac952502d1ae3322155836eb97c3ec1bfeca39476a97c560bf03cb71a7d8"), looks := false }, kinds := [], alts := [], laidByText := true, laidKinds := [.data], laidTests := true, laidLooks := .later }
def FnExactTupleGraphCardSaid : Prop := Claim7.holds Tryd.pinned (.plain (OpenSpec.ofChange fnExactTupleGraphSpec)) fnExactTupleGraphCard

/-- THE TIED CARD OF 'laws.FnExactPolarityGraph'. -/
def fnExactPolarityGraphCard : Claim7 := { stood := { row := fnExactPolarityGraphRow, standIns := [], harness := (true, "3a98ac952502d1ae3322155836eb97c3ec1bfeca39476a97c560bf03cb71a7d8"), looks := false }, kinds := [], alts := [], laidByText := true, laidKinds := [.data], laidTests := true, laidLooks := .later }
def FnExactPolarityGraphCardSaid : Prop := Claim7.holds Tryd.pinned (.plain (OpenSpec.ofChange fnExactPolarityGraphSpec)) fnExactPolarityGraphCard

/-- THE TIED CARD OF 'laws.FnExactPlaneGraph'. -/
def fnExactPlaneGraphCard : Claim7 := { stood := { row := fnExactPlaneGraphRow, standIns := [], harness := (true, "3a98ac952502d1ae3322155836eb97c3ec1bfeca39476a97c560bf03cb71a7d8"), looks := false }, kinds := [], alts := [], laidByText := true, laidKinds := [.data], laidTests := true, laidLooks := .later }
def FnExactPlaneGraphCardSaid : Prop := Claim7.holds Tryd.pinned (.plain (OpenSpec.ofChange fnExactPlaneGraphSpec)) fnExactPlaneGraphCard

/-- THE TIED CARD OF 'laws.FnExactKautzWords'. -/
def fnExactKautzWordsCard : Claim7 := { stood := { row := fnExactKautzWordsRow, standIns := [], harness := (true, "3a98ac952502d1ae3322155836eb97c3ec1bfeca39476a97c560bf03cb71a7d8"), looks := false }, kinds := [], alts := [], laidByText := true, laidKinds := [.data], laidTests := true, laidLooks := .later }
def FnExactKautzWordsCardSaid : Prop := Claim7.holds Tryd.pinned (.plain (OpenSpec.ofChange fnExactKautzWordsSpec)) fnExactKautzWordsCard

/-- THE TIED CARD OF 'laws.FnExactDeBruijnDigraph'. -/
def fnExactDeBruijnDigraphCard : Claim7 := { stood := { row := fnExactDeBruijnDigraphRow, standIns := [], harness := (true, "3a98ac952502d1ae3322155836eb97c3ec1bfeca39476a97c560bf03cb71a7d8"), looks := false }, kinds := [], alts := [], laidByText := true, laidKinds := [.data], laidTests := true, laidLooks := .later }
def FnExactDeBruijnDigraphCardSaid : Prop := Claim7.holds Tryd.pinned (.plain (OpenSpec.ofChange fnExactDeBruijnDigraphSpec)) fnExactDeBruijnDigraphCard

/-- THE TIED CARD OF 'laws.FnExactKautzDigraph'. -/
def fnExactKautzDigraphCard : Claim7 := { stood := { row := fnExactKautzDigraphRow, standIns := [], harness := (true, "3a98ac952502d1ae3322155836eb97c3ec1bfeca39476a97c560bf03cb71a7d8"), looks := false }, kinds := [], alts := [], laidByText := true, laidKinds := [.data], laidTests := true, laidLooks := .later }
def FnExactKautzDigraphCardSaid : Prop := Claim7.holds Tryd.pinned (.plain (OpenSpec.ofChange fnExactKautzDigraphSpec)) fnExactKautzDigraphCard

/-- THE TIED CARD OF 'laws.FnExactOddGraph'. -/
def fnExactOddGraphCard : Claim7 := { stood := { row := fnExactOddGraphRow, standIns := [], harness := (true, "3a98ac952502d1ae3322155836eb97c3ec1bfeca39476a97c560bf03cb71a7d8"), looks := false }, kinds := [], alts := [], laidByText := true, laidKinds := [.data], laidTests := true, laidLooks := .later }
def FnExactOddGraphCardSaid : Prop := Claim7.holds Tryd.pinned (.plain (OpenSpec.ofChange fnExactOddGraphSpec)) fnExactOddGraphCard

/-- THE SECOND FORM's CARD OF 'laws.FnExactAbsolutePoints'. -/
def fnExactAbsolutePointsUptoCard : Claim7 := { stood := { row := fnExactAbsolutePointsUptoRow, standIns := [], harness := (true, "3a98ac952502d1ae3322155836eb97c3ec1bfeca39476a97c560bf03cb71a7d8"), looks := false }, kinds := [], alts := [], laidByText := true, laidKinds := [.data], laidTests := true, laidLooks := .later }
def FnExactAbsolutePointsUptoCardSaid : Prop := Claim7.holds Tryd.pinned (.plain (OpenSpec.upto fnExactAbsolutePointsSpec)) fnExactAbsolutePointsUptoCard

/-- THE SECOND FORM's CARD OF 'laws.FnExactPlanePoints'. -/
def fnExactPlanePointsUptoCard : Claim7 := { stood := { row := fnExactPlanePointsUptoRow, standIns := [], harness := (true, "3a98ac952502d1ae3322155836eb97c3ec1bfeca39476a97c560bf03cb71a7d8"), looks := false }, kinds := [], alts := [], laidByText := true, laidKinds := [.data], laidTests := true, laidLooks := .later }
def FnExactPlanePointsUptoCardSaid : Prop := Claim7.holds Tryd.pinned (.plain (OpenSpec.upto fnExactPlanePointsSpec)) fnExactPlanePointsUptoCard

/-- THE SECOND FORM's CARD OF 'laws.FnExactTupleGraph'. -/
def fnExactTupleGraphUptoCard : Claim7 := { stood := { row := fnExactTupleGraphUptoRow, standIns := [], harness := (true, "3a98ac952502d1ae3322155836eb97c3ec1bfeca39476a97c560bf03cb71a7d8"), looks := false }, kinds := [], alts := [], laidByText := true, laidKinds := [.data], laidTests := true, laidLooks := .later }
def FnExactTupleGraphUptoCardSaid : Prop := Claim7.holds Tryd.pinned (.plain (OpenSpec.upto fnExactTupleGraphSpec)) fnExactTupleGraphUptoCard

/-- THE SECOND FORM's CARD OF 'laws.FnExactPolarityGraph'. -/
def fnExactPolarityGraphUptoCard : Claim7 := { stood := { row := fnExactPolarityGraphUptoRow, standIns := [], harness := (true, "3a98ac952502d1ae3322155836eb97c3ec1bfeca39476a97c560bf03cb71a7d8"), looks := false }, kinds := [], alts := [], laidByText := true, laidKinds := [.data], laidTests := true, laidLooks := .later }
def FnExactPolarityGraphUptoCardSaid : Prop := Claim7.holds Tryd.pinned (.plain (OpenSpec.upto fnExactPolarityGraphSpec)) fnExactPolarityGraphUptoCard

/-- THE SECOND FORM's CARD OF 'laws.FnExactPlaneGraph'. -/
def fnExactPlaneGraphUptoCard : Claim7 := { stood := { row := fnExactPlaneGraphUptoRow, standIns := [], harness := (true, "3a98ac952502d1ae3322155836eb97c3ec1bfeca39476a97c560bf03cb71a7d8"), looks := false }, kinds := [], alts := [], laidByText := true, laidKinds := [.data], laidTests := true, laidLooks := .later }
def FnExactPlaneGraphUptoCardSaid : Prop := Claim7.holds Tryd.pinned (.plain (OpenSpec.upto fnExactPlaneGraphSpec)) fnExactPlaneGraphUptoCard

/-- THE SECOND FORM's CARD OF 'laws.FnExactKautzWords'. -/
def fnExactKautzWordsUptoCard : Claim7 := { stood := { row := fnExactKautzWordsUptoRow, standIns := [], harness := (true, "3a98ac952502d1ae3322155836eb97c3ec1bfeca39476a97c560bf03cb71a7d8"), looks := false }, kinds := [], alts := [], laidByText := true, laidKinds := [.data], laidTests := true, laidLooks := .later }
def FnExactKautzWordsUptoCardSaid : Prop := Claim7.holds Tryd.pinned (.plain (OpenSpec.upto fnExactKautzWordsSpec)) fnExactKautzWordsUptoCard

/-- THE SECOND FORM's CARD OF 'laws.FnExactDeBruijnDigraph'. -/
def fnExactDeBruijnDigraphUptoCard : Claim7 := { stood := { row := fnExactDeBruijnDigraphUptoRow, standIns := [], harness := (true, "3a98ac952502d1ae3322155836eb97c3ec1bfeca39476a97c560bf03cb71a7d8"), looks := false }, kinds := [], alts := [], laidByText := true, laidKinds := [.data], laidTests := true, laidLooks := .later }
def FnExactDeBruijnDigraphUptoCardSaid : Prop := Claim7.holds Tryd.pinned (.plain (OpenSpec.upto fnExactDeBruijnDigraphSpec)) fnExactDeBruijnDigraphUptoCard

/-- THE SECOND FORM's CARD OF 'laws.FnExactKautzDigraph'. -/
def fnExactKautzDigraphUptoCard : Claim7 := { stood := { row := fnExactKautzDigraphUptoRow, standIns := [], harness := (true, "3a98ac952502d1ae3322155836eb97c3ec1bfeca39476a97c560bf03cb71a7d8"), looks := false }, kinds := [], alts := [], laidByText := true, laidKinds := [.data], laidTests := true, laidLooks := .later }
def FnExactKautzDigraphUptoCardSaid : Prop := Claim7.holds Tryd.pinned (.plain (OpenSpec.upto fnExactKautzDigraphSpec)) fnExactKautzDigraphUptoCard

/-- THE SECOND FORM's CARD OF 'laws.FnExactOddGraph'. -/
def fnExactOddGraphUptoCard : Claim7 := { stood := { row := fnExactOddGraphUptoRow, standIns := [], harness := (true, "3a98ac952502d1ae3322155836eb97c3ec1bfeca39476a97c560bf03cb71a7d8"), looks := false }, kinds := [], alts := [], laidByText := true, laidKinds := [.data], laidTests := true, laidLooks := .later }
def FnExactOddGraphUptoCardSaid : Prop := Claim7.holds Tryd.pinned (.plain (OpenSpec.upto fnExactOddGraphSpec)) fnExactOddGraphUptoCard
end Rows
end Go.Proofs.YtbfdhnecadgfdaaDoor
