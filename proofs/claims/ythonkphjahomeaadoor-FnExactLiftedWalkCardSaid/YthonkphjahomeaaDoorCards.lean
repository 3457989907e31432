/-
  DERIVED. GIVEN WITH THE SEED: THE CARDS: each row of YthonkphjahomeaaDoorRows.lean that lists a variable, with what it lists TIED to the program's text (the seventh form; the later family's looks); each row that meets fmt, with fmt's text TOLD by the authors' own Lean function (tested against real Go, not proved from fmt's source: count such statements apart). THE CARD IS WHAT COUNTS. Prove the row's statement (the work); the ties are given (YthonkphjahomeaaDoorTie.lean); close each card by the builder's one call (the guide's Derived/Test/ToyasCard.lean, 'card_holds'). Laid BY PROGRAM, IN A SANDBOX (cutbox-door.mjs). By AI agents, Wed Nov 11 2026. No macro, syntax, notation, axiom, sorry.
-/
import Derived.Test.YthonkphjahomeaaDoorRows
import GoSem.ClaimSeven
namespace Go.Proofs.YthonkphjahomeaaDoor
namespace Rows

/-- THE TIED CARD OF 'laws.FnExactWalkSum'. -/
def fnExactWalkSumCard : Claim7 := { stood := { row := fnExactWalkSumRow, standIns := [], harness := (true, "e5381f2d4121a5e76f66a119473cfb900dc7a43d28c1916c4e29630900656874"), looks := true }, kinds := [], alts := [], laidByText := true, laidKinds := [.sentinel], laidTests := true, laidLooks := .later }
def FnExactWalkSumCardSaid : Prop := Claim7.holds Tryd.pinned (.plain (OpenSpec.ofChange fnExactWalkSumSpec)) fnExactWalkSumCard

/-- THE TIED CARD OF 'laws.FnExactIsReducedWalk'. -/
def fnExactIsReducedWalkCard : Claim7 := { stood := { row := fnExactIsReducedWalkRow, standIns := [], harness := (true, "e5381f2d4121a5e76f66a119473cfb900dc7a43d28c1916c4e29630900656874"), looks := true }, kinds := [], alts := [], laidByText := true, laidKinds := [.sentinel], laidTests := true, laidLooks := .later }
def FnExactIsReducedWalkCardSaid : Prop := Claim7.holds Tryd.pinned (.plain (OpenSpec.ofChange fnExactIsReducedWalkSpec)) fnExactIsReducedWalkCard

/-- THE TIED CARD OF 'laws.FnExactLiftedWalk'. -/
def fnExactLiftedWalkCard : Claim7 := { stood := { row := fnExactLiftedWalkRow, standIns := [], harness := (true, "e5381f2d4121a5e76f66a119473cfb900dc7a43d28c1916c4e29630900656874"), looks := true }, kinds := [], alts := [], laidByText := true, laidKinds := [.sentinel], laidTests := true, laidLooks := .later }
def FnExactLiftedWalkCardSaid : Prop := Claim7.holds Tryd.pinned (.plain (OpenSpec.ofChange fnExactLiftedWalkSpec)) fnExactLiftedWalkCard

/-- THE SECOND FORM's CARD OF 'laws.FnExactWalkSum'. -/
def fnExactWalkSumUptoCard : Claim7 := { stood := { row := fnExactWalkSumUptoRow, standIns := [], harness := (true, "e5381f2d4121a5e76f66a119473cfb900dc7a43d28c1916c4e29630900656874"), looks := true }, kinds := [], alts := [], laidByText := true, laidKinds := [.sentinel], laidTests := true, laidLooks := .later }
def FnExactWalkSumUptoCardSaid : Prop := Claim7.holds Tryd.pinned (.plain (OpenSpec.upto fnExactWalkSumSpec)) fnExactWalkSumUptoCard

/-- THE SECOND FORM's CARD OF 'laws.FnExactIsReducedWalk'. -/
def fnExactIsReducedWalkUptoCard : Claim7 := { stood := { row := fnExactIsReducedWalkUptoRow, standIns := [], harness := (true, "e5381f2d4121a5e76f66a119473cfb900dc7a43d28c1916c4e29630900656874"), looks := true }, kinds := [], alts := [], laidByText := true, laidKinds := [.sentinel], laidTests := true, laidLooks := .later }
def FnExactIsReducedWalkUptoCardSaid : Prop := Claim7.holds Tryd.pinned (.plain (OpenSpec.upto fnExactIsReducedWalkSpec)) fnExactIsReducedWalkUptoCard

/-- THE SECOND FORM's CARD OF 'laws.FnExactLiftedWalk'. -/
def fnExactLiftedWalkUptoCard : Claim7 := { stood := { row := fnExactLiftedWalkUptoRow, standIns := [], harness := (true, "e5381f2d4121a5e76f66a119473cfb900dc7a43d28c1916c4e29630900656874"), looks := true }, kinds := [], alts := [], laidByText := true, laidKinds := [.sentinel], laidTests := true, laidLooks := .later }
def FnExactLiftedWalkUptoCardSaid : Prop := Claim7.holds Tryd.pinned (.plain (OpenSpec.upto fnExactLiftedWalkSpec)) fnExactLiftedWalkUptoCard
end Rows
end Go.Proofs.YthonkphjahomeaaDoor
