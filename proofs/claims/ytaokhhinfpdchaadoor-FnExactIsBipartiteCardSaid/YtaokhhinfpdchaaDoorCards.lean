/-
  DERIVED. GIVEN WITH THE SEED: THE CARDS: each row of YtaokhhinfpdchaaDoorRows.lean that lists a variable, with what it lists TIED to the program's text (the seventh form; the later family's looks); each row that meets fmt, with fmt's text TOLD by the authors' own Lean function (tested against real Go, not proved from fmt's source: count such statements apart). THE CARD IS WHAT COUNTS. Prove the row's statement (the work); the ties are given (YtaokhhinfpdchaaDoorTie.lean); close each card by the builder's one call (the guide's Derived/Test/ToyasCard.lean, 'card_holds'). Laid BY PROGRAM, IN A SANDBOX (cutbox-door.mjs). By AI agents, Wed Nov 11 2026. No macro, syntax, notation, axiom, sorry.
-/
import Derived.Test.YtaokhhinfpdchaaDoorRows
import GoSem.ClaimSeven
namespace Go.Proofs.YtaokhhinfpdchaaDoor
namespace Rows

/-- THE TIED CARD OF 'laws.FnExactGraphAt'. -/
def fnExactGraphAtCard : Claim7 := { stood := { row := fnExactGraphAtRow, standIns := [], harness := (true, "c9756da14cca4cad2f3257e88f746d4d88b2b3d645d3fc3aa792a2877f85faa6"), looks := false }, kinds := [], alts := [], laidByText := true, laidKinds := [.data], laidTests := true, laidLooks := .later }
def FnExactGraphAtCardSaid : Prop := Claim7.holds Tryd.pinned (.plain (OpenSpec.ofChange fnExactGraphAtSpec)) fnExactGraphAtCard

/-- THE TIED CARD OF 'laws.FnExactCountClosedAt'. -/
def fnExactCountClosedAtCard : Claim7 := { stood := { row := fnExactCountClosedAtRow, standIns := [], harness := (true, "c9756da14cca4cad2f3257e88f746d4d88b2b3d645d3fc3aa792a2877f85faa6"), looks := false }, kinds := [], alts := [], laidByText := true, laidKinds := [.data], laidTests := true, laidLooks := .later }
def FnExactCountClosedAtCardSaid : Prop := Claim7.holds Tryd.pinned (.plain (OpenSpec.ofChange fnExactCountClosedAtSpec)) fnExactCountClosedAtCard

/-- THE TIED CARD OF 'laws.FnExactDistancesFrom'. -/
def fnExactDistancesFromCard : Claim7 := { stood := { row := fnExactDistancesFromRow, standIns := [], harness := (true, "c9756da14cca4cad2f3257e88f746d4d88b2b3d645d3fc3aa792a2877f85faa6"), looks := false }, kinds := [], alts := [], laidByText := true, laidKinds := [.data], laidTests := true, laidLooks := .later }
def FnExactDistancesFromCardSaid : Prop := Claim7.holds Tryd.pinned (.plain (OpenSpec.ofChange fnExactDistancesFromSpec)) fnExactDistancesFromCard

/-- THE TIED CARD OF 'laws.FnExactPartsOf'. -/
def fnExactPartsOfCard : Claim7 := { stood := { row := fnExactPartsOfRow, standIns := [], harness := (true, "c9756da14cca4cad2f3257e88f746d4d88b2b3d645d3fc3aa792a2877f85faa6"), looks := false }, kinds := [], alts := [], laidByText := true, laidKinds := [.data], laidTests := true, laidLooks := .later }
def FnExactPartsOfCardSaid : Prop := Claim7.holds Tryd.pinned (.plain (OpenSpec.ofChange fnExactPartsOfSpec)) fnExactPartsOfCard

/-- THE TIED CARD OF 'laws.FnExactIsBipartite'. -/
def fnExactIsBipartiteCard : Claim7 := { stood := { row := fnExactIsBipartiteRow, standIns := [], harness := (true, "c9756da14cca4cad2f3257e88f746d4d88b2b3d645d3fc3aa792a2877f85faa6"), looks := false }, kinds := [], alts := [], laidByText := true, laidKinds := [.data], laidTests := true, laidLooks := .later }
def FnExactIsBipartiteCardSaid : Prop := Claim7.holds Tryd.pinned (.plain (OpenSpec.ofChange fnExactIsBipartiteSpec)) fnExactIsBipartiteCard

/-- THE SECOND FORM's CARD OF 'laws.FnExactGraphAt'. -/
def fnExactGraphAtUptoCard : Claim7 := { stood := { row := fnExactGraphAtUptoRow, standIns := [], harness := (true, "c9756da14cca4cad2f3257e88f746d4d88b2b3d645d3fc3aa792a2877f85faa6"), looks := false }, kinds := [], alts := [], laidByText := true, laidKinds := [.data], laidTests := true, laidLooks := .later }
def FnExactGraphAtUptoCardSaid : Prop := Claim7.holds Tryd.pinned (.plain (OpenSpec.upto fnExactGraphAtSpec)) fnExactGraphAtUptoCard

/-- THE SECOND FORM's CARD OF 'laws.FnExactCountClosedAt'. -/
def fnExactCountClosedAtUptoCard : Claim7 := { stood := { row := fnExactCountClosedAtUptoRow, standIns := [], harness := (true, "c9756da14cca4cad2f3257e88f746d4d88b2b3d645d3fc3aa792a2877f85faa6"), looks := false }, kinds := [], alts := [], laidByText := true, laidKinds := [.data], laidTests := true, laidLooks := .later }
def FnExactCountClosedAtUptoCardSaid : Prop := Claim7.holds Tryd.pinned (.plain (OpenSpec.upto fnExactCountClosedAtSpec)) fnExactCountClosedAtUptoCard

/-- THE SECOND FORM's CARD OF 'laws.FnExactDistancesFrom'. -/
def fnExactDistancesFromUptoCard : Claim7 := { stood := { row := fnExactDistancesFromUptoRow, standIns := [], harness := (true, "c9756da14cca4cad2f3257e88f746d4d88b2b3d645d3fc3aa792a2877f85faa6"), looks := false }, kinds := [], alts := [], laidByText := true, laidKinds := [.data], laidTests := true, laidLooks := .later }
def FnExactDistancesFromUptoCardSaid : Prop := Claim7.holds Tryd.pinned (.plain (OpenSpec.upto fnExactDistancesFromSpec)) fnExactDistancesFromUptoCard

/-- THE SECOND FORM's CARD OF 'laws.FnExactPartsOf'. -/
def fnExactPartsOfUptoCard : Claim7 := { stood := { row := fnExactPartsOfUptoRow, standIns := [], harness := (true, "c9756da14cca4cad2f3257e88f746d4d88b2b3d645d3fc3aa792a2877f85faa6"), looks := false }, kinds := [], alts := [], laidByText := true, laidKinds := [.data], laidTests := true, laidLooks := .later }
def FnExactPartsOfUptoCardSaid : Prop := Claim7.holds Tryd.pinned (.plain (OpenSpec.upto fnExactPartsOfSpec)) fnExactPartsOfUptoCard

/-- THE SECOND FORM's CARD OF 'laws.FnExactIsBipartite'. -/
def fnExactIsBipartiteUptoCard : Claim7 := { stood := { row := fnExactIsBipartiteUptoRow, standIns := [], harness := (true, "c9756da14cca4cad2f3257e88f746d4d88b2b3d645d3fc3aa792a2877f85faa6"), looks := false }, kinds := [], alts := [], laidByText := true, laidKinds := [.data], laidTests := true, laidLooks := .later }
def FnExactIsBipartiteUptoCardSaid : Prop := Claim7.holds Tryd.pinned (.plain (OpenSpec.upto fnExactIsBipartiteSpec)) fnExactIsBipartiteUptoCard
end Rows
end Go.Proofs.YtaokhhinfpdchaaDoor
