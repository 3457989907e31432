/-
  NARROWER THAN 'FOR EVERY INPUT', by the rows' own cells (each row's printed sentence says how): FnExactDistancesFrom: laid · FnExactIsCover: laid · FnExactCountClosedAt: laid · FnExactGraphAt: laid · FnExactDoubleGraph: laid · FnExactIsAntipodal: laid · FnExactFoldedGraph: laid.
  DERIVED. THE GIVEN ROWS OF THIS SEAT. 7 by the template 'for every input the law returns true; each argument reads behind the call as it read before'; 0 by the template 'total and deterministic' (their statements: YtlodaeoikkjbkaaDoorTotals.lean).
  GIVEN WITH THE SEED: the statements are not yours to turn. If you find one false, say at which input.
  Laid BY PROGRAM, IN A SANDBOX (cutbox-rows.mjs): the forced cells as the released guide's own fill.sh prints them over the translation 975892010581365e… (all of the seat's roots in one cut). By AI agents, Wed Nov 11 2026. No macro, syntax, notation, axiom, sorry.
-/
import Derived.Test.YtlodaeoikkjbkaaDoorChecked
import GoSem.Claim
import GoSem.ClaimJoined
import GoSem.ClaimMapViews
import Derived.JoinedTies
import Derived.KernelRfl
namespace Go.Proofs.YtlodaeoikkjbkaaDoor
/- THE CELL 'sum', in the pinned program and in every row, IS THE sha256 OF THE DUMP (.gsa) THAT YtlodaeoikkjbkaaDoorProg.lean LOADS. Nothing in Lean hashes anything: it is a label: what it is worth is what the hold of that sum in a sandbox is worth. -/
noncomputable def Tryd.pinned : Pinned := { name := "ytlodaeoikkjbkaadoor", sum := "975892010581365e2be48fbd51a7cadcb16af3ad24c2fad23bee7d0630dca542", checked := Tryd.checked }
namespace Rows
def none {H : Type} : Left H := { results := [], args := [] }

/- WHAT THE LISTED PACKAGE-LEVEL VARIABLES READ AS WHEN THE CALL BEGINS. Each datum BY PROGRAM (the guide's laid-datum.mjs) off the statement by which the dump's own 'gosem.cut.vars' lays the variable. In a bare row this is a premise. The card (YtlodaeoikkjbkaaDoorCards.lean) ties it to the program's text. -/
def laid_math_bits_deBruijn64tab {H : Type} : DataW H := .agg [.lit (.int .u8 0), .lit (.int .u8 1), .lit (.int .u8 56), .lit (.int .u8 2), .lit (.int .u8 57), .lit (.int .u8 49), .lit (.int .u8 28), .lit (.int .u8 3), .lit (.int .u8 61), .lit (.int .u8 58), .lit (.int .u8 42), .lit (.int .u8 50), .lit (.int .u8 38), .lit (.int .u8 29), .lit (.int .u8 17), .lit (.int .u8 4), .lit (.int .u8 62), .lit (.int .u8 47), .lit (.int .u8 59), .lit (.int .u8 36), .lit (.int .u8 45), .lit (.int .u8 43), .lit (.int .u8 51), .lit (.int .u8 22), .lit (.int .u8 53), .lit (.int .u8 39), .lit (.int .u8 33), .lit (.int .u8 30), .lit (.int .u8 24), .lit (.int .u8 18), .lit (.int .u8 12), .lit (.int .u8 5), .lit (.int .u8 63), .lit (.int .u8 55), .lit (.int .u8 48), .lit (.int .u8 27), .lit (.int .u8 60), .lit (.int .u8 41), .lit (.int .u8 37), .lit (.int .u8 16), .lit (.int .u8 46), .lit (.int .u8 35), .lit (.int .u8 44), .lit (.int .u8 21), .lit (.int .u8 52), .lit (.int .u8 32), .lit (.int .u8 23), .lit (.int .u8 11), .lit (.int .u8 54), .lit (.int .u8 26), .lit (.int .u8 40), .lit (.int .u8 15), .lit (.int .u8 34), .lit (.int .u8 20), .lit (.int .u8 31), .lit (.int .u8 10), .lit (.int .u8 25), .lit (.int .u8 14), .lit (.int .u8 19), .lit (.int .u8 9), .lit (.int .u8 13), .lit (.int .u8 8), .lit (.int .u8 7), .lit (.int .u8 6)]

/-- 'laws.FnExactDistancesFrom': WHATEVER THE INPUT: true; the input reads as it did. -/
def fnExactDistancesFromSpec : ChangeSpec := { name := "fnExactDistancesFrom", fn := fun _ => fun
  | [d1, d2] => { results := [.lit (.bool true)], args := [d1, d2] }
  | _ => none }
def fnExactDistancesFromRow : OpenClaim := { program := "ytlodaeoikkjbkaadoor", sum := "975892010581365e2be48fbd51a7cadcb16af3ad24c2fad23bee7d0630dca542", func := "loop.example/g01331/laws.FnExactDistancesFrom", spec := "fnExactDistancesFrom", unfollowed := true, recurses := true, named := ["math/bits.deBruijn64tab"], plainKeys := false, apart := false, laid := [("math/bits.deBruijn64tab", laid_math_bits_deBruijn64tab)] }
def FnExactDistancesFromSaid : Prop := fnExactDistancesFromRow.holds Tryd.pinned (OpenSpec.ofChange fnExactDistancesFromSpec)

/-- ITS FALSE NEIGHBOUR: 'it returns false'. Refute it at one input. -/
def fnExactDistancesFromWrong : ChangeSpec := { name := "fnExactDistancesFrom", fn := fun _ => fun
  | [d1, d2] => { results := [.lit (.bool false)], args := [d1, d2] }
  | _ => none }
def FnExactDistancesFromWrongFalsely : Prop := fnExactDistancesFromRow.holds Tryd.pinned (OpenSpec.ofChange fnExactDistancesFromWrong)

/-- 'laws.FnExactIsCover': WHATEVER THE INPUT: true; the input reads as it did. -/
def fnExactIsCoverSpec : ChangeSpec := { name := "fnExactIsCover", fn := fun _ => fun
  | [d1, d2, d3] => { results := [.lit (.bool true)], args := [d1, d2, d3] }
  | _ => none }
def fnExactIsCoverRow : OpenClaim := { program := "ytlodaeoikkjbkaadoor", sum := "975892010581365e2be48fbd51a7cadcb16af3ad24c2fad23bee7d0630dca542", func := "loop.example/g01331/laws.FnExactIsCover", spec := "fnExactIsCover", unfollowed := true, recurses := true, named := ["math/bits.deBruijn64tab"], plainKeys := false, apart := false, laid := [("math/bits.deBruijn64tab", laid_math_bits_deBruijn64tab)] }
def FnExactIsCoverSaid : Prop := fnExactIsCoverRow.holds Tryd.pinned (OpenSpec.ofChange fnExactIsCoverSpec)

/-- ITS FALSE NEIGHBOUR: 'it returns false'. Refute it at one input. -/
def fnExactIsCoverWrong : ChangeSpec := { name := "fnExactIsCover", fn := fun _ => fun
  | [d1, d2, d3] => { results := [.lit (.bool false)], args := [d1, d2, d3] }
  | _ => none }
def FnExactIsCoverWrongFalsely : Prop := fnExactIsCoverRow.holds Tryd.pinned (OpenSpec.ofChange fnExactIsCoverWrong)

/-- 'laws.FnExactCountClosedAt': WHATEVER THE INPUT: true; the input reads as it did. -/
def fnExactCountClosedAtSpec : ChangeSpec := { name := "fnExactCountClosedAt", fn := fun _ => fun
  | [d1, d2, d3] => { results := [.lit (.bool true)], args := [d1, d2, d3] }
  | _ => none }
def fnExactCountClosedAtRow : OpenClaim := { program := "ytlodaeoikkjbkaadoor", sum := "975892010581365e2be48fbd51a7cadcb16af3ad24c2fad23bee7d0630dca542", func := "loop.example/g01331/laws.FnExactCountClosedAt", spec := "fnExactCountClosedAt", unfollowed := true, recurses := true, named := ["math/bits.deBruijn64tab"], plainKeys := false, apart := false, laid := [("math/bits.deBruijn64tab", laid_math_bits_deBruijn64tab)] }
def FnExactCountClosedAtSaid : Prop := fnExactCountClosedAtRow.holds Tryd.pinned (OpenSpec.ofChange fnExactCountClosedAtSpec)

/-- ITS FALSE NEIGHBOUR: 'it returns false'. Refute it at one input. -/
def fnExactCountClosedAtWrong : ChangeSpec := { name := "fnExactCountClosedAt", fn := fun _ => fun
  | [d1, d2, d3] => { results := [.lit (.bool false)], args := [d1, d2, d3] }
  | _ => none }
def FnExactCountClosedAtWrongFalsely : Prop := fnExactCountClosedAtRow.holds Tryd.pinned (OpenSpec.ofChange fnExactCountClosedAtWrong)

/-- 'laws.FnExactGraphAt': WHATEVER THE INPUT: true; the input reads as it did. -/
def fnExactGraphAtSpec : ChangeSpec := { name := "fnExactGraphAt", fn := fun _ => fun
  | [d1, d2] => { results := [.lit (.bool true)], args := [d1, d2] }
  | _ => none }
def fnExactGraphAtRow : OpenClaim := { program := "ytlodaeoikkjbkaadoor", sum := "975892010581365e2be48fbd51a7cadcb16af3ad24c2fad23bee7d0630dca542", func := "loop.example/g01331/laws.FnExactGraphAt", spec := "fnExactGraphAt", unfollowed := true, recurses := true, named := ["math/bits.deBruijn64tab"], plainKeys := false, apart := false, laid := [("math/bits.deBruijn64tab", laid_math_bits_deBruijn64tab)] }
def FnExactGraphAtSaid : Prop := fnExactGraphAtRow.holds Tryd.pinned (OpenSpec.ofChange fnExactGraphAtSpec)

/-- ITS FALSE NEIGHBOUR: 'it returns false'. Refute it at one input. -/
def fnExactGraphAtWrong : ChangeSpec := { name := "fnExactGraphAt", fn := fun _ => fun
  | [d1, d2] => { results := [.lit (.bool false)], args := [d1, d2] }
  | _ => none }
def FnExactGraphAtWrongFalsely : Prop := fnExactGraphAtRow.holds Tryd.pinned (OpenSpec.ofChange fnExactGraphAtWrong)

/-- 'laws.FnExactDoubleGraph': WHATEVER THE INPUT: true; the input reads as it did. -/
def fnExactDoubleGraphSpec : ChangeSpec := { name := "fnExactDoubleGraph", fn := fun _ => fun
  | [d] => { results := [.lit (.bool true)], args := [d] }
  | _ => none }
def fnExactDoubleGraphRow : OpenClaim := { program := "ytlodaeoikkjbkaadoor", sum := "975892010581365e2be48fbd51a7cadcb16af3ad24c2fad23bee7d0630dca542", func := "loop.example/g01331/laws.FnExactDoubleGraph", spec := "fnExactDoubleGraph", unfollowed := true, recurses := true, named := ["math/bits.deBruijn64tab"], plainKeys := false, apart := false, laid := [("math/bits.deBruijn64tab", laid_math_bits_deBruijn64tab)] }
def FnExactDoubleGraphSaid : Prop := fnExactDoubleGraphRow.holds Tryd.pinned (OpenSpec.ofChange fnExactDoubleGraphSpec)

/-- ITS FALSE NEIGHBOUR: 'it returns false'. Refute it at one input. -/
def fnExactDoubleGraphWrong : ChangeSpec := { name := "fnExactDoubleGraph", fn := fun _ => fun
  | [d] => { results := [.lit (.bool false)], args := [d] }
  | _ => none }
def FnExactDoubleGraphWrongFalsely : Prop := fnExactDoubleGraphRow.holds Tryd.pinned (OpenSpec.ofChange fnExactDoubleGraphWrong)

/-- 'laws.FnExactIsAntipodal': WHATEVER THE INPUT: true; the input reads as it did. -/
def fnExactIsAntipodalSpec : ChangeSpec := { name := "fnExactIsAntipodal", fn := fun _ => fun
  | [d] => { results := [.lit (.bool true)], args := [d] }
  | _ => none }
def fnExactIsAntipodalRow : OpenClaim := { program := "ytlodaeoikkjbkaadoor", sum := "975892010581365e2be48fbd51a7cadcb16af3ad24c2fad23bee7d0630dca542", func := "loop.example/g01331/laws.FnExactIsAntipodal", spec := "fnExactIsAntipodal", unfollowed := true, recurses := true, named := ["math/bits.deBruijn64tab"], plainKeys := false, apart := false, laid := [("math/bits.deBruijn64tab", laid_math_bits_deBruijn64tab)] }
def FnExactIsAntipodalSaid : Prop := fnExactIsAntipodalRow.holds Tryd.pinned (OpenSpec.ofChange fnExactIsAntipodalSpec)

/-- ITS FALSE NEIGHBOUR: 'it returns false'. Refute it at one input. -/
def fnExactIsAntipodalWrong : ChangeSpec := { name := "fnExactIsAntipodal", fn := fun _ => fun
  | [d] => { results := [.lit (.bool false)], args := [d] }
  | _ => none }
def FnExactIsAntipodalWrongFalsely : Prop := fnExactIsAntipodalRow.holds Tryd.pinned (OpenSpec.ofChange fnExactIsAntipodalWrong)

/-- 'laws.FnExactFoldedGraph': WHATEVER THE INPUT: true; the input reads as it did. -/
def fnExactFoldedGraphSpec : ChangeSpec := { name := "fnExactFoldedGraph", fn := fun _ => fun
  | [d] => { results := [.lit (.bool true)], args := [d] }
  | _ => none }
def fnExactFoldedGraphRow : OpenClaim := { program := "ytlodaeoikkjbkaadoor", sum := "975892010581365e2be48fbd51a7cadcb16af3ad24c2fad23bee7d0630dca542", func := "loop.example/g01331/laws.FnExactFoldedGraph", spec := "fnExactFoldedGraph", unfollowed := true, recurses := true, named := ["math/bits.deBruijn64tab"], plainKeys := false, apart := false, laid := [("math/bits.deBruijn64tab", laid_math_bits_deBruijn64tab)] }
def FnExactFoldedGraphSaid : Prop := fnExactFoldedGraphRow.holds Tryd.pinned (OpenSpec.ofChange fnExactFoldedGraphSpec)

/-- ITS FALSE NEIGHBOUR: 'it returns false'. Refute it at one input. -/
def fnExactFoldedGraphWrong : ChangeSpec := { name := "fnExactFoldedGraph", fn := fun _ => fun
  | [d] => { results := [.lit (.bool false)], args := [d] }
  | _ => none }
def FnExactFoldedGraphWrongFalsely : Prop := fnExactFoldedGraphRow.holds Tryd.pinned (OpenSpec.ofChange fnExactFoldedGraphWrong)

/- THE SECOND FORM. 'bulk': how many values and letters a reading holds, each counted each time it is reached (what is shared counts as often as it is met; a slice's spare places count too). A statement '..UptoSaid' is the law's where the arguments, and the package variables that the reading takes, are together of bulk at most 1048576: NARROWER than '..Said'. Prove '..Said' where nothing that the law and all that it calls make is longer than what came in: it says more and counts as full. Else prove '..UptoSaid'. A law counts once. -/
mutual
def uptoBulk {H : Type} : DataW H → Nat
  | .lit (.string bytes) => bytes.length + 1
  | .lit _ => 1
  | .nil => 1
  | .ptr d => uptoBulk d + 1
  | .slice elems spare => uptoBulkAll elems + uptoBulkAll spare + 1
  | .agg parts => uptoBulkAll parts + 1
  | .iface _ d => uptoBulk d + 1
  | .map entries => uptoBulkEntries entries + 1
  | .held _ => 1
def uptoBulkAll {H : Type} : List (DataW H) → Nat
  | [] => 0
  | d :: r => uptoBulk d + uptoBulkAll r
def uptoBulkEntries {H : Type} : List (Lit × DataW H) → Nat
  | [] => 0
  | x :: r => uptoBulkEntry x + uptoBulkEntries r
def uptoBulkEntry {H : Type} : Lit × DataW H → Nat
  | (.string bytes, d) => bytes.length + uptoBulk d + 1
  | (_, d) => uptoBulk d + 1
 end
def uptoSmall : (H : Type) → List (DataW H) → Bool := fun _ ds => decide (uptoBulkAll ds ≤ 1048576)
def OpenSpec.upto (s : _root_.Go.ChangeSpec) : _root_.Go.OpenSpec := { _root_.Go.OpenSpec.ofChange s with cond := some uptoSmall }

/-- 'laws.FnExactDistancesFrom', WHERE WHAT IT READS IS OF BULK AT MOST 1048576: true; the input reads as it did. -/
def fnExactDistancesFromUptoRow : OpenClaim := { program := "ytlodaeoikkjbkaadoor", sum := "975892010581365e2be48fbd51a7cadcb16af3ad24c2fad23bee7d0630dca542", func := "loop.example/g01331/laws.FnExactDistancesFrom", spec := "fnExactDistancesFrom", unfollowed := true, recurses := true, named := ["math/bits.deBruijn64tab"], plainKeys := false, apart := false, laid := [("math/bits.deBruijn64tab", laid_math_bits_deBruijn64tab)], narrowed := true }
def FnExactDistancesFromUptoSaid : Prop := fnExactDistancesFromUptoRow.holds Tryd.pinned (OpenSpec.upto fnExactDistancesFromSpec)

/-- 'laws.FnExactIsCover', WHERE WHAT IT READS IS OF BULK AT MOST 1048576: true; the input reads as it did. -/
def fnExactIsCoverUptoRow : OpenClaim := { program := "ytlodaeoikkjbkaadoor", sum := "975892010581365e2be48fbd51a7cadcb16af3ad24c2fad23bee7d0630dca542", func := "loop.example/g01331/laws.FnExactIsCover", spec := "fnExactIsCover", unfollowed := true, recurses := true, named := ["math/bits.deBruijn64tab"], plainKeys := false, apart := false, laid := [("math/bits.deBruijn64tab", laid_math_bits_deBruijn64tab)], narrowed := true }
def FnExactIsCoverUptoSaid : Prop := fnExactIsCoverUptoRow.holds Tryd.pinned (OpenSpec.upto fnExactIsCoverSpec)

/-- 'laws.FnExactCountClosedAt', WHERE WHAT IT READS IS OF BULK AT MOST 1048576: true; the input reads as it did. -/
def fnExactCountClosedAtUptoRow : OpenClaim := { program := "ytlodaeoikkjbkaadoor", sum := "975892010581365e2be48fbd51a7cadcb16af3ad24c2fad23bee7d0630dca542", func := "loop.example/g01331/laws.FnExactCountClosedAt", spec := "fnExactCountClosedAt", unfollowed := true, recurses := true, named := ["math/bits.deBruijn64tab"], plainKeys := false, apart := false, laid := [("math/bits.deBruijn64tab", laid_math_bits_deBruijn64tab)], narrowed := true }
def FnExactCountClosedAtUptoSaid : Prop := fnExactCountClosedAtUptoRow.holds Tryd.pinned (OpenSpec.upto fnExactCountClosedAtSpec)

/-- 'laws.FnExactGraphAt', WHERE WHAT IT READS IS OF BULK AT MOST 1048576: true; the input reads as it did. -/
def fnExactGraphAtUptoRow : OpenClaim := { program := "ytlodaeoikkjbkaadoor", sum := "975892010581365e2be48fbd51a7cadcb16af3ad24c2fad23bee7d0630dca542", func := "loop.example/g01331/laws.FnExactGraphAt", spec := "fnExactGraphAt", unfollowed := true, recurses := true, named := ["math/bits.deBruijn64tab"], plainKeys := false, apart := false, laid := [("math/bits.deBruijn64tab", laid_math_bits_deBruijn64tab)], narrowed := true }
def FnExactGraphAtUptoSaid : Prop := fnExactGraphAtUptoRow.holds Tryd.pinned (OpenSpec.upto fnExactGraphAtSpec)

/-- 'laws.FnExactDoubleGraph', WHERE WHAT IT READS IS OF BULK AT MOST 1048576: true; the input reads as it did. -/
def fnExactDoubleGraphUptoRow : OpenClaim := { program := "ytlodaeoikkjbkaadoor", sum := "975892010581365e2be48fbd51a7cadcb16af3ad24c2fad23bee7d0630dca542", func := "loop.example/g01331/laws.FnExactDoubleGraph", spec := "fnExactDoubleGraph", unfollowed := true, recurses := true, named := ["math/bits.deBruijn64tab"], plainKeys := false, apart := false, laid := [("math/bits.deBruijn64tab", laid_math_bits_deBruijn64tab)], narrowed := true }
def FnExactDoubleGraphUptoSaid : Prop := fnExactDoubleGraphUptoRow.holds Tryd.pinned (OpenSpec.upto fnExactDoubleGraphSpec)

/-- 'laws.FnExactIsAntipodal', WHERE WHAT IT READS IS OF BULK AT MOST 1048576: true; the input reads as it did. -/
def fnExactIsAntipodalUptoRow : OpenClaim := { program := "ytlodaeoikkjbkaadoor", sum := "975892010581365e2be48fbd51a7cadcb16af3ad24c2fad23bee7d0630dca542", func := "loop.example/g01331/laws.FnExactIsAntipodal", spec := "fnExactIsAntipodal", unfollowed := true, recurses := true, named := ["math/bits.deBruijn64tab"], plainKeys := false, apart := false, laid := [("math/bits.deBruijn64tab", laid_math_bits_deBruijn64tab)], narrowed := true }
def FnExactIsAntipodalUptoSaid : Prop := fnExactIsAntipodalUptoRow.holds Tryd.pinned (OpenSpec.upto fnExactIsAntipodalSpec)

/-- 'laws.FnExactFoldedGraph', WHERE WHAT IT READS IS OF BULK AT MOST 1048576: true; the input reads as it did. -/
def fnExactFoldedGraphUptoRow : OpenClaim := { program := "ytlodaeoikkjbkaadoor", sum := "975892010581365e2be48fbd51a7cadcb16af3ad24c2fad23bee7d0630dca542", func := "loop.example/g01331/laws.FnExactFoldedGraph", spec := "fnExactFoldedGraph", unfollowed := true, recurses := true, named := ["math/bits.deBruijn64tab"], plainKeys := false, apart := false, laid := [("math/bits.deBruijn64tab", laid_math_bits_deBruijn64tab)], narrowed := true }
def FnExactFoldedGraphUptoSaid : Prop := fnExactFoldedGraphUptoRow.holds Tryd.pinned (OpenSpec.upto fnExactFoldedGraphSpec)

end Rows
end Go.Proofs.YtlodaeoikkjbkaaDoor
