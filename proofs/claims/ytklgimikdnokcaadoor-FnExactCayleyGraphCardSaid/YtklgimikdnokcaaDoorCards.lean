/-
  DERIVED. GIVEN WITH THE SEED: THE CARDS: each row of YtklgimikdnokcaaDoorRows.lean that lists a variable, with what it lists TIED to the program's text (the seventh form; the later family's looks); each row that meets fmt, with fmt's text TOLD by the authors' own Lean function (tested against real Go, not proved from fmt's source: count such statements apart). THE CARD IS WHAT COUNTS. Prove the row's statement (the work); the ties are given (YtklgimikdnokcaaDoorTie.lean); close each card by the builder's one call (the guide's Derived/Test/ToyasCard.lean, 'card_holds'). Laid BY PROGRAM, IN A SANDBOX (cutbox-door.mjs). By AI agents, Wed Nov 11 2026. No macro, syntax, notation, axiom, sorry.
-/
import Derived.Test.YtklgimikdnokcaaDoorRows
import GoSem.ClaimSeven
namespace Go.Proofs.YtklgimikdnokcaaDoor
namespace Rows

/-- THE TIED CARD OF 'laws.FnExactClosedSet'. -/
def fnExactClosedSetCard : Claim7 := { stood := { row := fnExactClosedSetRow, standIns := [], harness := (true, "be6459e4289d30ec58502a4b435e7a871672cffc834a522f2a811e6b297ff8ff"), looks := false }, kinds := [], alts := [], laidByText := true, laidKinds := [.data], laidTests := true, laidLooks := .later }
def FnExactClosedSetCardSaid : Prop := Claim7.holds Tryd.pinned (.plain (OpenSpec.ofChange fnExactClosedSetSpec)) fnExactClosedSetCard

/-- THE TIED CARD OF 'laws.FnExactIsConnectionSet'. -/
def fnExactIsConnectionSetCard : Claim7 := { stood := { row := fnExactIsConnectionSetRow, standIns := [], harness := (true, "be6459e4289d30ec58502a4b435e7a871672cffc834a522f2a811e6b297ff8ff"), looks := false }, kinds := [], alts := [], laidByText := true, laidKinds := [.data], laidTests := true, laidLooks := .later }
def FnExactIsConnectionSetCardSaid : Prop := Claim7.holds Tryd.pinned (.plain (OpenSpec.ofChange fnExactIsConnectionSetSpec)) fnExactIsConnectionSetCard

/-- THE TIED CARD OF 'laws.FnExactCayleyGraph'. -/
def fnExactCayleyGraphCard : Claim7 := { stood := { row := fnExactCayleyGraphRow, standIns := [], harness := (true, "be6459e4289d30ec58502a4b435e7a871672cffc834a522f2a811e6b297ff8ff"), looks := false }, kinds := [], alts := [], laidByText := true, laidKinds := [.data], laidTests := true, laidLooks := .later }
def FnExactCayleyGraphCardSaid : Prop := Claim7.holds Tryd.pinned (.plain (OpenSpec.ofChange fnExactCayleyGraphSpec)) fnExactCayleyGraphCard

/-- THE TIED CARD OF 'laws.FnExactProductOfWord'. -/
def fnExactProductOfWordCard : Claim7 := { stood := { row := fnExactProductOfWordRow, standIns := [], harness := (true, "be6459e4289d30ec58502a4b435e7a871672cffc834a522f2a811e6b297ff8ff"), looks := false }, kinds := [], alts := [], laidByText := true, laidKinds := [.data], laidTests := true, laidLooks := .later }
def FnExactProductOfWordCardSaid : Prop := Claim7.holds Tryd.pinned (.plain (OpenSpec.ofChange fnExactProductOfWordSpec)) fnExactProductOfWordCard

/-- THE TIED CARD OF 'laws.FnExactGeneratedBy'. -/
def fnExactGeneratedByCard : Claim7 := { stood := { row := fnExactGeneratedByRow, standIns := [], harness := (true, "be6459e4289d30ec58502a4b435e7a871672cffc834a522f2a811e6b297ff8ff"), looks := false }, kinds := [], alts := [], laidByText := true, laidKinds := [.data], laidTests := true, laidLooks := .later }
def FnExactGeneratedByCardSaid : Prop := Claim7.holds Tryd.pinned (.plain (OpenSpec.ofChange fnExactGeneratedBySpec)) fnExactGeneratedByCard

/-- THE TIED CARD OF 'laws.FnExactWordGirth'. -/
def fnExactWordGirthCard : Claim7 := { stood := { row := fnExactWordGirthRow, standIns := [], harness := (true, "be6459e4289d30ec58502a4b435e7a871672cffc834a522f2a811e6b297ff8ff"), looks := false }, kinds := [], alts := [], laidByText := true, laidKinds := [.data], laidTests := true, laidLooks := .later }
def FnExactWordGirthCardSaid : Prop := Claim7.holds Tryd.pinned (.plain (OpenSpec.ofChange fnExactWordGirthSpec)) fnExactWordGirthCard

/-- THE SECOND FORM's CARD OF 'laws.FnExactClosedSet'. -/
def fnExactClosedSetUptoCard : Claim7 := { stood := { row := fnExactClosedSetUptoRow, standIns := [], harness := (true, "be6459e4289d30ec58502a4b435e7a871672cffc834a522f2a811e6b297ff8ff"), looks := false }, kinds := [], alts := [], laidByText := true, laidKinds := [.data], laidTests := true, laidLooks := .later }
def FnExactClosedSetUptoCardSaid : Prop := Claim7.holds Tryd.pinned (.plain (OpenSpec.upto fnExactClosedSetSpec)) fnExactClosedSetUptoCard

/-- THE SECOND FORM's CARD OF 'laws.FnExactIsConnectionSet'. -/
def fnExactIsConnectionSetUptoCard : Claim7 := { stood := { row := fnExactIsConnectionSetUptoRow, standIns := [], harness := (true, "be6459e4289d30ec58502a4b435e7a871672cffc834a522f2a811e6b297ff8ff"), looks := false }, kinds := [], alts := [], laidByText := true, laidKinds := [.data], laidTests := true, laidLooks := .later }
def FnExactIsConnectionSetUptoCardSaid : Prop := Claim7.holds Tryd.pinned (.plain (OpenSpec.upto fnExactIsConnectionSetSpec)) fnExactIsConnectionSetUptoCard

/-- THE SECOND FORM's CARD OF 'laws.FnExactCayleyGraph'. -/
def fnExactCayleyGraphUptoCard : Claim7 := { stood := { row := fnExactCayleyGraphUptoRow, standIns := [], harness := (true, "be6459e4289d30ec58502a4b435e7a871672cffc834a522f2a811e6b297ff8ff"), looks := false }, kinds := [], alts := [], laidByText := true, laidKinds := [.data], laidTests := true, laidLooks := .later }
def FnExactCayleyGraphUptoCardSaid : Prop := Claim7.holds Tryd.pinned (.plain (OpenSpec.upto fnExactCayleyGraphSpec)) fnExactCayleyGraphUptoCard

/-- THE SECOND FORM's CARD OF 'laws.FnExactProductOfWord'. -/
def fnExactProductOfWordUptoCard : Claim7 := { stood := { row := fnExactProductOfWordUptoRow, standIns := [], harness := (true, "be6459e4289d30ec58502a4b435e7a871672cffc834a522f2a811e6b297ff8ff"), looks := false }, kinds := [], alts := [], laidByText := true, laidKinds := [.data], laidTests := true, laidLooks := .later }
def FnExactProductOfWordUptoCardSaid : Prop := Claim7.holds Tryd.pinned (.plain (OpenSpec.upto fnExactProductOfWordSpec)) fnExactProductOfWordUptoCard

/-- THE SECOND FORM's CARD OF 'laws.FnExactGeneratedBy'. -/
def fnExactGeneratedByUptoCard : Claim7 := { stood := { row := fnExactGeneratedByUptoRow, standIns := [], harness := (true, "be6459e4289d30ec58502a4b435e7a871672cffc834a522f2a811e6b297ff8ff"), looks := false }, kinds := [], alts := [], laidByText := true, laidKinds := [.data], laidTests := true, laidLooks := .later }
def FnExactGeneratedByUptoCardSaid : Prop := Claim7.holds Tryd.pinned (.plain (OpenSpec.upto fnExactGeneratedBySpec)) fnExactGeneratedByUptoCard

/-- THE SECOND FORM's CARD OF 'laws.FnExactWordGirth'. -/
def fnExactWordGirthUptoCard : Claim7 := { stood := { row := fnExactWordGirthUptoRow, standIns := [], harness := (true, "be6459e4289d30ec58502a4b435e7a871672cffc834a522f2a811e6b297ff8ff"), looks := false }, kinds := [], alts := [], laidByText := true, laidKinds := [.data], laidTests := true, laidLooks := .later }
def FnExactWordGirthUptoCardSaid : Prop := Claim7.holds Tryd.pinned (.plain (OpenSpec.upto fnExactWordGirthSpec)) fnExactWordGirthUptoCard
end Rows
end Go.Proofs.YtklgimikdnokcaaDoor
