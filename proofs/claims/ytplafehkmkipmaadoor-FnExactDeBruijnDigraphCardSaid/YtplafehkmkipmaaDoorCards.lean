/-
  DERIVED. GIVEN WITH THE SEED: THE CARDS: each row of YtplafehkmkipmaaDoorRows.lean that lists a variable, with what it lists TIED to the program's text (the seventh form; the later family's looks); each row that meets fmt, with fmt's text TOLD by the authors' own Lean function (tested against real Go, not proved from fmt's source: count such statements apart). THE CARD IS WHAT COUNTS. Prove the row's statement (the work); the ties are given (YtplafehkmkipmaaDoorTie.lean); close each card by the builder's one call (the guide's Derived/Test/ToyasCard.lean, 'card_holds'). Laid BY PROGRAM, IN A SANDBOX (cutbox-door.mjs). By AI agents, Wed Nov 11 2026. No macro, syntax, notation, axiom, sorry.
-/
import Derived.Test.YtplafehkmkipmaaDoorRows
import GoSem.ClaimSeven
namespace Go.Proofs.YtplafehkmkipmaaDoor
namespace Rows

/-- THE TIED CARD OF 'laws.FnExactKautzWords'. -/
def fnExactKautzWordsCard : Claim7 := { stood := { row := fnExactKautzWordsRow, standIns := [], harness := (true, "cc5ce5517545a6b5e195c137a777b7e35c53cbca5b350b242d8c31b13913b719"), looks := false }, kinds := [], alts := [], laidByText := true, laidKinds := [.data], laidTests := true, laidLooks := .later }
def FnExactKautzWordsCardSaid : Prop := Claim7.holds Tryd.pinned (.plain (OpenSpec.ofChange fnExactKautzWordsSpec)) fnExactKautzWordsCard

/-- THE TIED CARD OF 'laws.FnExactDeBruijnDigraph'. -/
def fnExactDeBruijnDigraphCard : Claim7 := { stood := { row := fnExactDeBruijnDigraphRow, standIns := [], harness := (true, "cc5ce5517545a6b5e195c137a777b7e35c53cbca5b350b242d8c31b13913b719"), looks := false }, kinds := [], alts := [], laidByText := true, laidKinds := [.data], laidTests := true, laidLooks := .later }
def FnExactDeBruijnDigraphCardSaid : Prop := Claim7.holds Tryd.pinned (.plain (OpenSpec.ofChange fnExactDeBruijnDigraphSpec)) fnExactDeBruijnDigraphCard

/-- THE TIED CARD OF 'laws.FnExactKautzDigraph'. -/
def fnExactKautzDigraphCard : Claim7 := { stood := { row := fnExactKautzDigraphRow, standIns := [], harness := (true, "cc5ce5517545a6b5e195c137a777b7e35c53cbca5b350b242d8c31b13913b719"), looks := false }, kinds := [], alts := [], laidByText := true, laidKinds := [.data], laidTests := true, laidLooks := .later }
def FnExactKautzDigraphCardSaid : Prop := Claim7.holds Tryd.pinned (.plain (OpenSpec.ofChange fnExactKautzDigraphSpec)) fnExactKautzDigraphCard

/-- THE SECOND FORM's CARD OF 'laws.FnExactKautzWords'. -/
def fnExactKautzWordsUptoCard : Claim7 := { stood := { row := fnExactKautzWordsUptoRow, standIns := [], harness := (true, "cc5ce5517545a6b5e195c137a777b7e35c53cbca5b350b242d8c31b13913b719"), looks := false }, kinds := [], alts := [], laidByText := true, laidKinds := [.data], laidTests := true, laidLooks := .later }
def FnExactKautzWordsUptoCardSaid : Prop := Claim7.holds Tryd.pinned (.plain (OpenSpec.upto fnExactKautzWordsSpec)) fnExactKautzWordsUptoCard

/-- THE SECOND FORM's CARD OF 'laws.FnExactDeBruijnDigraph'. -/
def fnExactDeBruijnDigraphUptoCard : Claim7 := { stood := { row := fnExactDeBruijnDigraphUptoRow, standIns := [], harness := (true, "cc5ce5517545a6b5e195c137a777b7e35c53cbca5b350b242d8c31b13913b719"), looks := false }, kinds := [], alts := [], laidByText := true, laidKinds := [.data], laidTests := true, laidLooks := .later }
def FnExactDeBruijnDigraphUptoCardSaid : Prop := Claim7.holds Tryd.pinned (.plain (OpenSpec.upto fnExactDeBruijnDigraphSpec)) fnExactDeBruijnDigraphUptoCard

/-- THE SECOND FORM's CARD OF 'laws.FnExactKautzDigraph'. -/
def fnExactKautzDigraphUptoCard : Claim7 := { stood := { row := fnExactKautzDigraphUptoRow, standIns := [], harness := (true, "cc5ce5517545a6b5e195c137a777b7e35c53cbca5b350b242d8c31b13913b719"), looks := false }, kinds := [], alts := [], laidByText := true, laidKinds := [.data], laidTests := true, laidLooks := .later }
def FnExactKautzDigraphUptoCardSaid : Prop := Claim7.holds Tryd.pinned (.plain (OpenSpec.upto fnExactKautzDigraphSpec)) fnExactKautzDigraphUptoCard
end Rows
end Go.Proofs.YtplafehkmkipmaaDoor
