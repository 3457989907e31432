/-
  DERIVED. GIVEN WITH THE SEED: THE CARDS: each row of YtehpafbhejcbmaaDoorRows.lean that lists a variable, with what it lists TIED to the program's text (the seventh form; the later family's looks); each row that meets fmt, with fmt's text TOLD by the authors' own Lean function (tested against real Go, not proved from fmt's source: count such statements apart). THE CARD IS WHAT COUNTS. Prove the row's statement (the work); the ties are given (YtehpafbhejcbmaaDoorTie.lean); close each card by the builder's one call (the guide's Derived/Test/ToyasCard.lean, 'card_holds'). Laid BY PROGRAM, IN A SANDBOX (cutbox-door.mjs). By AI agents, Wed Nov 11 2026. No macro, syntax, notation, axiom, sorry.
-/
import Derived.Test.YtehpafbhejcbmaaDoorRows
import GoSem.ClaimSeven
namespace Go.Proofs.YtehpafbhejcbmaaDoor
namespace Rows

/-- THE TIED CARD OF 'laws.FnExactGirthOf'. -/
def fnExactGirthOfCard : Claim7 := { stood := { row := fnExactGirthOfRow, standIns := [], harness := (true, "6338d8e531cee6d68c93ce15a7f958683b478b7f1cfca80155a75794184ab03a"), looks := false }, kinds := [], alts := [], laidByText := true, laidKinds := [.data], laidTests := true, laidLooks := .later }
def FnExactGirthOfCardSaid : Prop := Claim7.holds Tryd.pinned (.plain (OpenSpec.ofChange fnExactGirthOfSpec)) fnExactGirthOfCard

/-- THE TIED CARD OF 'laws.FnExactGirthAt'. -/
def fnExactGirthAtCard : Claim7 := { stood := { row := fnExactGirthAtRow, standIns := [], harness := (true, "6338d8e531cee6d68c93ce15a7f958683b478b7f1cfca80155a75794184ab03a"), looks := false }, kinds := [], alts := [], laidByText := true, laidKinds := [.data], laidTests := true, laidLooks := .later }
def FnExactGirthAtCardSaid : Prop := Claim7.holds Tryd.pinned (.plain (OpenSpec.ofChange fnExactGirthAtSpec)) fnExactGirthAtCard

/-- THE TIED CARD OF 'laws.FnExactFitsBoth'. -/
def fnExactFitsBothCard : Claim7 := { stood := { row := fnExactFitsBothRow, standIns := [], harness := (true, "6338d8e531cee6d68c93ce15a7f958683b478b7f1cfca80155a75794184ab03a"), looks := false }, kinds := [], alts := [], laidByText := true, laidKinds := [.data], laidTests := true, laidLooks := .later }
def FnExactFitsBothCardSaid : Prop := Claim7.holds Tryd.pinned (.plain (OpenSpec.ofChange fnExactFitsBothSpec)) fnExactFitsBothCard

/-- THE TIED CARD OF 'laws.FnExactPairsToJoin'. -/
def fnExactPairsToJoinCard : Claim7 := { stood := { row := fnExactPairsToJoinRow, standIns := [], harness := (true, "6338d8e531cee6d68c93ce15a7f958683b478b7f1cfca80155a75794184ab03a"), looks := false }, kinds := [], alts := [], laidByText := true, laidKinds := [.data], laidTests := true, laidLooks := .later }
def FnExactPairsToJoinCardSaid : Prop := Claim7.holds Tryd.pinned (.plain (OpenSpec.ofChange fnExactPairsToJoinSpec)) fnExactPairsToJoinCard

/-- THE TIED CARD OF 'laws.FnExactIsFull'. -/
def fnExactIsFullCard : Claim7 := { stood := { row := fnExactIsFullRow, standIns := [], harness := (true, "6338d8e531cee6d68c93ce15a7f958683b478b7f1cfca80155a75794184ab03a"), looks := false }, kinds := [], alts := [], laidByText := true, laidKinds := [.data], laidTests := true, laidLooks := .later }
def FnExactIsFullCardSaid : Prop := Claim7.holds Tryd.pinned (.plain (OpenSpec.ofChange fnExactIsFullSpec)) fnExactIsFullCard

/-- THE TIED CARD OF 'laws.FnExactEdgesLeft'. -/
def fnExactEdgesLeftCard : Claim7 := { stood := { row := fnExactEdgesLeftRow, standIns := [], harness := (true, "6338d8e531cee6d68c93ce15a7f958683b478b7f1cfca80155a75794184ab03a"), looks := false }, kinds := [], alts := [], laidByText := true, laidKinds := [.data], laidTests := true, laidLooks := .later }
def FnExactEdgesLeftCardSaid : Prop := Claim7.holds Tryd.pinned (.plain (OpenSpec.ofChange fnExactEdgesLeftSpec)) fnExactEdgesLeftCard

/-- THE SECOND FORM's CARD OF 'laws.FnExactGirthOf'. -/
def fnExactGirthOfUptoCard : Claim7 := { stood := { row := fnExactGirthOfUptoRow, standIns := [], harness := (true, "6338d8e531cee6d68c93ce15a7f958683b478b7f1cfca80155a75794184ab03a"), looks := false }, kinds := [], alts := [], laidByText := true, laidKinds := [.data], laidTests := true, laidLooks := .later }
def FnExactGirthOfUptoCardSaid : Prop := Claim7.holds Tryd.pinned (.plain (OpenSpec.upto fnExactGirthOfSpec)) fnExactGirthOfUptoCard

/-- THE SECOND FORM's CARD OF 'laws.FnExactGirthAt'. -/
def fnExactGirthAtUptoCard : Claim7 := { stood := { row := fnExactGirthAtUptoRow, standIns := [], harness := (true, "6338d8e531cee6d68c93ce15a7f958683b478b7f1cfca80155a75794184ab03a"), looks := false }, kinds := [], alts := [], laidByText := true, laidKinds := [.data], laidTests := true, laidLooks := .later }
def FnExactGirthAtUptoCardSaid : Prop := Claim7.holds Tryd.pinned (.plain (OpenSpec.upto fnExactGirthAtSpec)) fnExactGirthAtUptoCard

/-- THE SECOND FORM's CARD OF 'laws.FnExactFitsBoth'. -/
def fnExactFitsBothUptoCard : Claim7 := { stood := { row := fnExactFitsBothUptoRow, standIns := [], harness := (true, "6338d8e531cee6d68c93ce15a7f958683b478b7f1cfca80155a75794184ab03a"), looks := false }, kinds := [], alts := [], laidByText := true, laidKinds := [.data], laidTests := true, laidLooks := .later }
def FnExactFitsBothUptoCardSaid : Prop := Claim7.holds Tryd.pinned (.plain (OpenSpec.upto fnExactFitsBothSpec)) fnExactFitsBothUptoCard

/-- THE SECOND FORM's CARD OF 'laws.FnExactPairsToJoin'. -/
def fnExactPairsToJoinUptoCard : Claim7 := { stood := { row := fnExactPairsToJoinUptoRow, standIns := [], harness := (true, "6338d8e531cee6d68c93ce15a7f958683b478b7f1cfca80155a75794184ab03a"), looks := false }, kinds := [], alts := [], laidByText := true, laidKinds := [.data], laidTests := true, laidLooks := .later }
def FnExactPairsToJoinUptoCardSaid : Prop := Claim7.holds Tryd.pinned (.plain (OpenSpec.upto fnExactPairsToJoinSpec)) fnExactPairsToJoinUptoCard

/-- THE SECOND FORM's CARD OF 'laws.FnExactIsFull'. -/
def fnExactIsFullUptoCard : Claim7 := { stood := { row := fnExactIsFullUptoRow, standIns := [], harness := (true, "6338d8e531cee6d68c93ce15a7f958683b478b7f1cfca80155a75794184ab03a"), looks := false }, kinds := [], alts := [], laidByText := true, laidKinds := [.data], laidTests := true, laidLooks := .later }
def FnExactIsFullUptoCardSaid : Prop := Claim7.holds Tryd.pinned (.plain (OpenSpec.upto fnExactIsFullSpec)) fnExactIsFullUptoCard

/-- THE SECOND FORM's CARD OF 'laws.FnExactEdgesLeft'. -/
def fnExactEdgesLeftUptoCard : Claim7 := { stood := { row := fnExactEdgesLeftUptoRow, standIns := [], harness := (true, "6338d8e531cee6d68c93ce15a7f958683b478b7f1cfca80155a75794184ab03a"), looks := false }, kinds := [], alts := [], laidByText := true, laidKinds := [.data], laidTests := true, laidLooks := .later }
def FnExactEdgesLeftUptoCardSaid : Prop := Claim7.holds Tryd.pinned (.plain (OpenSpec.upto fnExactEdgesLeftSpec)) fnExactEdgesLeftUptoCard
end Rows
end Go.Proofs.YtehpafbhejcbmaaDoor
