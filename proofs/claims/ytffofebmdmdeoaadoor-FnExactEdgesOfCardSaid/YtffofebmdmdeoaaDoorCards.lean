/-
  DERIVED. GIVEN WITH THE SEED: THE CARDS: each row of YtffofebmdmdeoaaDoorRows.lean that lists a variable, with what it lists TIED to the program's text (the seventh form; the later family's looks); each row that meets fmt, with fmt's text TOLD by the authors' own Lean function (tested against real Go, not proved from fmt's source: count such statements apart). THE CARD IS WHAT COUNTS. Prove the row's statement (the work); the ties are given (YtffofebmdmdeoaaDoorTie.lean); close each card by the builder's one call (the guide's Derived/Test/ToyasCard.lean, 'card_holds'). Laid BY PROGRAM, IN A SANDBOX (cutbox-door.mjs). By AI agents, Wed Nov 11 2026. No macro, syntax, notation, axiom, sorry.
-/
import Derived.Test.YtffofebmdmdeoaaDoorRows
import GoSem.ClaimSeven
namespace Go.Proofs.YtffofebmdmdeoaaDoor
namespace Rows

/-- THE TIED CARD OF 'laws.FnExactIsPartition'. -/
def fnExactIsPartitionCard : Claim7 := { stood := { row := fnExactIsPartitionRow, standIns := [], harness := (true, "3b4622b1bf4e770cc23b05fc507e0ec9d86447af17ba3bb256f5d22325cbbcb5"), looks := false }, kinds := [], alts := [], laidByText := true, laidKinds := [.data], laidTests := true, laidLooks := .later }
def FnExactIsPartitionCardSaid : Prop := Claim7.holds Tryd.pinned (.plain (OpenSpec.ofChange fnExactIsPartitionSpec)) fnExactIsPartitionCard

/-- THE TIED CARD OF 'laws.FnExactIsEqualPartition'. -/
def fnExactIsEqualPartitionCard : Claim7 := { stood := { row := fnExactIsEqualPartitionRow, standIns := [], harness := (true, "3b4622b1bf4e770cc23b05fc507e0ec9d86447af17ba3bb256f5d22325cbbcb5"), looks := false }, kinds := [], alts := [], laidByText := true, laidKinds := [.data], laidTests := true, laidLooks := .later }
def FnExactIsEqualPartitionCardSaid : Prop := Claim7.holds Tryd.pinned (.plain (OpenSpec.ofChange fnExactIsEqualPartitionSpec)) fnExactIsEqualPartitionCard

/-- THE TIED CARD OF 'laws.FnExactRefinedPartition'. -/
def fnExactRefinedPartitionCard : Claim7 := { stood := { row := fnExactRefinedPartitionRow, standIns := [], harness := (true, "3b4622b1bf4e770cc23b05fc507e0ec9d86447af17ba3bb256f5d22325cbbcb5"), looks := false }, kinds := [], alts := [], laidByText := true, laidKinds := [.data], laidTests := true, laidLooks := .later }
def FnExactRefinedPartitionCardSaid : Prop := Claim7.holds Tryd.pinned (.plain (OpenSpec.ofChange fnExactRefinedPartitionSpec)) fnExactRefinedPartitionCard

/-- THE TIED CARD OF 'laws.FnExactIsGraph'. -/
def fnExactIsGraphCard : Claim7 := { stood := { row := fnExactIsGraphRow, standIns := [], harness := (true, "3b4622b1bf4e770cc23b05fc507e0ec9d86447af17ba3bb256f5d22325cbbcb5"), looks := false }, kinds := [], alts := [], laidByText := true, laidKinds := [.data], laidTests := true, laidLooks := .later }
def FnExactIsGraphCardSaid : Prop := Claim7.holds Tryd.pinned (.plain (OpenSpec.ofChange fnExactIsGraphSpec)) fnExactIsGraphCard

/-- THE TIED CARD OF 'laws.FnExactNeighboursOf'. -/
def fnExactNeighboursOfCard : Claim7 := { stood := { row := fnExactNeighboursOfRow, standIns := [], harness := (true, "3b4622b1bf4e770cc23b05fc507e0ec9d86447af17ba3bb256f5d22325cbbcb5"), looks := false }, kinds := [], alts := [], laidByText := true, laidKinds := [.data], laidTests := true, laidLooks := .later }
def FnExactNeighboursOfCardSaid : Prop := Claim7.holds Tryd.pinned (.plain (OpenSpec.ofChange fnExactNeighboursOfSpec)) fnExactNeighboursOfCard

/-- THE TIED CARD OF 'laws.FnExactEdgesOf'. -/
def fnExactEdgesOfCard : Claim7 := { stood := { row := fnExactEdgesOfRow, standIns := [], harness := (true, "3b4622b1bf4e770cc23b05fc507e0ec9d86447af17ba3bb256f5d22325cbbcb5"), looks := false }, kinds := [], alts := [], laidByText := true, laidKinds := [.data], laidTests := true, laidLooks := .later }
def FnExactEdgesOfCardSaid : Prop := Claim7.holds Tryd.pinned (.plain (OpenSpec.ofChange fnExactEdgesOfSpec)) fnExactEdgesOfCard

/-- THE SECOND FORM's CARD OF 'laws.FnExactIsPartition'. -/
def fnExactIsPartitionUptoCard : Claim7 := { stood := { row := fnExactIsPartitionUptoRow, standIns := [], harness := (true, "3b4622b1bf4e770cc23b05fc507e0ec9d86447af17ba3bb256f5d22325cbbcb5"), looks := false }, kinds := [], alts := [], laidByText := true, laidKinds := [.data], laidTests := true, laidLooks := .later }
def FnExactIsPartitionUptoCardSaid : Prop := Claim7.holds Tryd.pinned (.plain (OpenSpec.upto fnExactIsPartitionSpec)) fnExactIsPartitionUptoCard

/-- THE SECOND FORM's CARD OF 'laws.FnExactIsEqualPartition'. -/
def fnExactIsEqualPartitionUptoCard : Claim7 := { stood := { row := fnExactIsEqualPartitionUptoRow, standIns := [], harness := (true, "3b4622b1bf4e770cc23b05fc507e0ec9d86447af17ba3bb256f5d22325cbbcb5"), looks := false }, kinds := [], alts := [], laidByText := true, laidKinds := [.data], laidTests := true, laidLooks := .later }
def FnExactIsEqualPartitionUptoCardSaid : Prop := Claim7.holds Tryd.pinned (.plain (OpenSpec.upto fnExactIsEqualPartitionSpec)) fnExactIsEqualPartitionUptoCard

/-- THE SECOND FORM's CARD OF 'laws.FnExactRefinedPartition'. -/
def fnExactRefinedPartitionUptoCard : Claim7 := { stood := { row := fnExactRefinedPartitionUptoRow, standIns := [], harness := (true, "3b4622b1bf4e770cc23b05fc507e0ec9d86447af17ba3bb256f5d22325cbbcb5"), looks := false }, kinds := [], alts := [], laidByText := true, laidKinds := [.data], laidTests := true, laidLooks := .later }
def FnExactRefinedPartitionUptoCardSaid : Prop := Claim7.holds Tryd.pinned (.plain (OpenSpec.upto fnExactRefinedPartitionSpec)) fnExactRefinedPartitionUptoCard

/-- THE SECOND FORM's CARD OF 'laws.FnExactIsGraph'. -/
def fnExactIsGraphUptoCard : Claim7 := { stood := { row := fnExactIsGraphUptoRow, standIns := [], harness := (true, "3b4622b1bf4e770cc23b05fc507e0ec9d86447af17ba3bb256f5d22325cbbcb5"), looks := false }, kinds := [], alts := [], laidByText := true, laidKinds := [.data], laidTests := true, laidLooks := .later }
def FnExactIsGraphUptoCardSaid : Prop := Claim7.holds Tryd.pinned (.plain (OpenSpec.upto fnExactIsGraphSpec)) fnExactIsGraphUptoCard

/-- THE SECOND FORM's CARD OF 'laws.FnExactNeighboursOf'. -/
def fnExactNeighboursOfUptoCard : Claim7 := { stood := { row := fnExactNeighboursOfUptoRow, standIns := [], harness := (true, "3b4622b1bf4e770cc23b05fc507e0ec9d86447af17ba3bb256f5d22325cbbcb5"), looks := false }, kinds := [], alts := [], laidByText := true, laidKinds := [.data], laidTests := true, laidLooks := .later }
def FnExactNeighboursOfUptoCardSaid : Prop := Claim7.holds Tryd.pinned (.plain (OpenSpec.upto fnExactNeighboursOfSpec)) fnExactNeighboursOfUptoCard

/-- THE SECOND FORM's CARD OF 'laws.FnExactEdgesOf'. -/
def fnExactEdgesOfUptoCard : Claim7 := { stood := { row := fnExactEdgesOfUptoRow, standIns := [], harness := (true, "3b4622b1bf4e770cc23b05fc507e0ec9d86447af17ba3bb256f5d22325cbbcb5"), looks := false }, kinds := [], alts := [], laidByText := true, laidKinds := [.data], laidTests := true, laidLooks := .later }
def FnExactEdgesOfUptoCardSaid : Prop := Claim7.holds Tryd.pinned (.plain (OpenSpec.upto fnExactEdgesOfSpec)) fnExactEdgesOfUptoCard
end Rows
end Go.Proofs.YtffofebmdmdeoaaDoor
