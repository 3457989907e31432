/-
  DERIVED. GIVEN WITH THE SEED: THE CARDS: each row of YtapnlheecplpgaaDoorRows.lean that lists a variable, with what it lists TIED to the program's text (the seventh form; the later family's looks); each row that meets fmt, with fmt's text TOLD by the authors' own Lean function (tested against real Go, not proved from fmt's source: count such statements apart). THE CARD IS WHAT COUNTS. Prove the row's statement (the work); the ties are given (YtapnlheecplpgaaDoorTie.lean); close each card by the builder's one call (the guide's Derived/Test/ToyasCard.lean, 'card_holds'). Laid BY PROGRAM, IN A SANDBOX (cutbox-door.mjs). By AI agents, Wed Nov 11 2026. No macro, syntax, notation, axiom, sorry.
-/
import Derived.Test.YtapnlheecplpgaaDoorRows
import GoSem.ClaimSeven
namespace Go.Proofs.YtapnlheecplpgaaDoor
namespace Rows

/-- THE TIED CARD OF 'laws.FnExactOddGraph'. -/
def fnExactOddGraphCard : Claim7 := { stood := { row := fnExactOddGraphRow, standIns := [], harness := (true, "e89e7831088fe5886d55ddd42caaac830b884457ed678444ccba2d2d6b1ef940"), looks := false }, kinds := [], alts := [], laidByText := true, laidKinds := [.data], laidTests := true, laidLooks := .later }
def FnExactOddGraphCardSaid : Prop := Claim7.holds Tryd.pinned (.plain (OpenSpec.ofChange fnExactOddGraphSpec)) fnExactOddGraphCard

/-- THE SECOND FORM's CARD OF 'laws.FnExactOddGraph'. -/
def fnExactOddGraphUptoCard : Claim7 := { stood := { row := fnExactOddGraphUptoRow, standIns := [], harness := (true, "e89e7831088fe5886d55ddd42caaac830b884457ed678444ccba2d2d6b1ef940"), looks := false }, kinds := [], alts := [], laidByText := true, laidKinds := [.data], laidTests := true, laidLooks := .later }
def FnExactOddGraphUptoCardSaid : Prop := Claim7.holds Tryd.pinned (.plain (OpenSpec.upto fnExactOddGraphSpec)) fnExactOddGraphUptoCard
end Rows
end Go.Proofs.YtapnlheecplpgaaDoor
