/-
  DERIVED. GIVEN WITH THE SEED: THE CARDS: each row of YthmicccnhhlblaaDoorRows.lean that lists a variable, with what it lists TIED to the program's text (the seventh form; the later family's looks); each row that meets fmt, with fmt's text TOLD by the authors' own Lean function (tested against real Go, not proved from fmt's source: count such statements apart). THE CARD IS WHAT COUNTS. Prove the row's statement (the work); the ties are given (YthmicccnhhlblaaDoorTie.lean); close each card by the builder's one call (the guide's Derived/Test/ToyasCard.lean, 'card_holds'). Laid BY PROGRAM, IN A SANDBOX (cutbox-door.mjs). By AI agents, Wed Nov 11 2026. No macro, syntax, notation, axiom, sorry.
-/
import Derived.Test.YthmicccnhhlblaaDoorRows
import GoSem.ClaimSeven
namespace Go.Proofs.YthmicccnhhlblaaDoor
namespace Rows

/-- THE TIED CARD OF 'laws.FnExactDoubleGraph'. -/
def fnExactDoubleGraphCard : Claim7 := { stood := { row := fnExactDoubleGraphRow, standIns := [], harness := (true, "f1bed70466c94707c489d995ec8294650143e4db8cf069cc3c856297f3ca58da"), looks := false }, kinds := [], alts := [], laidByText := true, laidKinds := [.data], laidTests := true, laidLooks := .later }
def FnExactDoubleGraphCardSaid : Prop := Claim7.holds Tryd.pinned (.plain (OpenSpec.ofChange fnExactDoubleGraphSpec)) fnExactDoubleGraphCard

/-- THE TIED CARD OF 'laws.FnExactIsBipartite'. -/
def fnExactIsBipartiteCard : Claim7 := { stood := { row := fnExactIsBipartiteRow, standIns := [], harness := (true, "f1bed70466c94707c489d995ec8294650143e4db8cf069cc3c856297f3ca58da"), looks := false }, kinds := [], alts := [], laidByText := true, laidKinds := [.data], laidTests := true, laidLooks := .later }
def FnExactIsBipartiteCardSaid : Prop := Claim7.holds Tryd.pinned (.plain (OpenSpec.ofChange fnExactIsBipartiteSpec)) fnExactIsBipartiteCard

/-- THE TIED CARD OF 'laws.FnExactRenumberGraph'. -/
def fnExactRenumberGraphCard : Claim7 := { stood := { row := fnExactRenumberGraphRow, standIns := [], harness := (true, "f1bed70466c94707c489d995ec8294650143e4db8cf069cc3c856297f3ca58da"), looks := false }, kinds := [], alts := [], laidByText := true, laidKinds := [.data], laidTests := true, laidLooks := .later }
def FnExactRenumberGraphCardSaid : Prop := Claim7.holds Tryd.pinned (.plain (OpenSpec.ofChange fnExactRenumberGraphSpec)) fnExactRenumberGraphCard

/-- THE SECOND FORM's CARD OF 'laws.FnExactDoubleGraph'. -/
def fnExactDoubleGraphUptoCard : Claim7 := { stood := { row := fnExactDoubleGraphUptoRow, standIns := [], harness := (true, "f1bed70466c94707c489d995ec8294650143e4db8cf069cc3c856297f3ca58da"), looks := false }, kinds := [], alts := [], laidByText := true, laidKinds := [.data], laidTests := true, laidLooks := .later }
def FnExactDoubleGraphUptoCardSaid : Prop := Claim7.holds Tryd.pinned (.plain (OpenSpec.upto fnExactDoubleGraphSpec)) fnExactDoubleGraphUptoCard

/-- THE SECOND FORM's CARD OF 'laws.FnExactIsBipartite'. -/
def fnExactIsBipartiteUptoCard : Claim7 := { stood := { row := fnExactIsBipartiteUptoRow, standIns := [], harness := (true, "f1bed70466c94707c489d995ec8294650143e4db8cf069cc3c856297f3ca58da"), looks := false }, kinds := [], alts := [], laidByText := true, laidKinds := [.data], laidTests := true, laidLooks := .later }
def FnExactIsBipartiteUptoCardSaid : Prop := Claim7.holds Tryd.pinned (.plain (OpenSpec.upto fnExactIsBipartiteSpec)) fnExactIsBipartiteUptoCard

/-- THE SECOND FORM's CARD OF 'laws.FnExactRenumberGraph'. -/
def fnExactRenumberGraphUptoCard : Claim7 := { stood := { row := fnExactRenumberGraphUptoRow, standIns := [], harness := (true, "f1bed70466c94707c489d995ec8294650143e4db8cf069cc3c856297f3ca58da"), looks := false }, kinds := [], alts := [], laidByText := true, laidKinds := [.data], laidTests := true, laidLooks := .later }
def FnExactRenumberGraphUptoCardSaid : Prop := Claim7.holds Tryd.pinned (.plain (OpenSpec.upto fnExactRenumberGraphSpec)) fnExactRenumberGraphUptoCard
end Rows
end Go.Proofs.YthmicccnhhlblaaDoor
