/-
  NARROWER THAN 'FOR EVERY INPUT', by the rows' own cells (each row's printed sentence says how): FnExactExcessOf: laid · FnExactIsMooreGraph: laid · FnExactFirstRegular: laid · FnExactLeastVertices: laid.
  DERIVED. THE GIVEN ROWS OF THIS SEAT. 4 by the template 'for every input the law returns true; each argument reads behind the call as it read before'; 0 by the template 'total and deterministic' (their statements: YtibpnemeehkdbaaDoorTotals.lean).
  GIVEN WITH THE SEED: the statements are not yours to turn. If you find one false, say at which input.
  Laid BY PROGRAM, IN A SANDBOX (cutbox-rows.mjs): the forced cells as the released guide's own fill.sh prints them over the translation d6a0909e1a039b96… (all of the seat's roots in one cut). By AI agents, Wed Nov 11 2026. No macro, syntax, notation, axiom, sorry.
-/
import Derived.Test.YtibpnemeehkdbaaDoorChecked
import GoSem.Claim
import GoSem.ClaimJoined
import GoSem.ClaimMapViews
import Derived.JoinedTies
import Derived.KernelRfl
namespace Go.Proofs.YtibpnemeehkdbaaDoor
/- THE CELL 'sum', in the pinned program and in every row, IS THE sha256 OF THE DUMP (.gsa) THAT YtibpnemeehkdbaaDoorProg.lean LOADS. Nothing in Lean hashes anything: it is a label: what it is worth is what the hold of that sum in a sandbox is worth. -/
noncomputable def Tryd.pinned : Pinned := { name := "ytibpnemeehkdbaadoor", sum := "d6a0909e1a039b96189f258f7c538dcf03e1e9feae60df7a9c9da1ea85e76c24", checked := Tryd.checked }
namespace Rows
def none {H : Type} : Left H := { results := [], args := [] }

/- WHAT THE LISTED PACKAGE-LEVEL VARIABLES READ AS WHEN THE CALL BEGINS. Each datum BY PROGRAM (the guide's laid-datum.mjs) off the statement by which the dump's own 'gosem.cut.vars' lays the variable. In a bare row this is a premise. The card (YtibpnemeehkdbaaDoorCards.lean) ties it to the program's text. -/
def laid_math_bits_deBruijn64tab {H : Type} : DataW H := .agg [.lit (.int .u8 0), .lit (.int .u8 1), .lit (.int .u8 56), .lit (.int .u8 2), .lit (.int .u8 57), .lit (.int .u8 49), .lit (.int .u8 28), .lit (.int .u8 3), .lit (.int .u8 61), .lit (.int .u8 58), .lit (.int .u8 42), .lit (.int .u8 50), .lit (.int .u8 38), .lit (.int .u8 29), .lit (.int .u8 17), .lit (.int .u8 4), .lit (.int .u8 62), .lit (.int .u8 47), .lit (.int .u8 59), .lit (.int .u8 36), .lit (.int .u8 45), .lit (.int .u8 43), .lit (.int .u8 51), .lit (.int .u8 22), .lit (.int .u8 53), .lit (.int .u8 39), .lit (.int .u8 33), .lit (.int .u8 30), .lit (.int .u8 24), .lit (.int .u8 18), .lit (.int .u8 12), .lit (.int .u8 5), .lit (.int .u8 63), .lit (.int .u8 55), .lit (.int .u8 48), .lit (.int .u8 27), .lit (.int .u8 60), .lit (.int .u8 41), .lit (.int .u8 37), .lit (.int .u8 16), .lit (.int .u8 46), .lit (.int .u8 35), .lit (.int .u8 44), .lit (.int .u8 21), .lit (.int .u8 52), .lit (.int .u8 32), .lit (.int .u8 23), .lit (.int .u8 11), .lit (.int .u8 54), .lit (.int .u8 26), .lit (.int .u8 40), .lit (.int .u8 15), .lit (.int .u8 34), .lit (.int .u8 20), .lit (.int .u8 31), .lit (.int .u8 10), .lit (.int .u8 25), .lit (.int .u8 14), .lit (.int .u8 19), .lit (.int .u8 9), .lit (.int .u8 13), .lit (.int .u8 8), .lit (.int .u8 7), .lit (.int .u8 6)]

/-- 'laws.FnExactExcessOf': WHATEVER THE INPUT: true; the input reads as it did. -/
def fnExactExcessOfSpec : ChangeSpec := { name := "fnExactExcessOf", fn := fun _ => fun
  | [d] => { results := [.lit (.bool true)], args := [d] }
  | _ => none }
def fnExactExcessOfRow : OpenClaim := { program := "ytibpnemeehkdbaadoor", sum := "d6a0909e1a039b96189f258f7c538dcf03e1e9feae60df7a9c9da1ea85e76c24", func := "loop.example/g01331/laws.FnExactExcessOf", spec := "fnExactExcessOf", unfollowed := true, recurses := true, named := ["math/bits.deBruijn64tab"], apart := false, laid := [("math/bits.deBruijn64tab", laid_math_bits_deBruijn64tab)] }
def FnExactExcessOfSaid : Prop := fnExactExcessOfRow.holds Tryd.pinned (OpenSpec.ofChange fnExactExcessOfSpec)

/-- ITS FALSE NEIGHBOUR: 'it returns false'. Refute it at one input. -/
def fnExactExcessOfWrong : ChangeSpec := { name := "fnExactExcessOf", fn := fun _ => fun
  | [d] => { results := [.lit (.bool false)], args := [d] }
  | _ => none }
def FnExactExcessOfWrongFalsely : Prop := fnExactExcessOfRow.holds Tryd.pinned (OpenSpec.ofChange fnExactExcessOfWrong)

/-- 'laws.FnExactIsMooreGraph': WHATEVER THE INPUT: true; the input reads as it did. -/
def fnExactIsMooreGraphSpec : ChangeSpec := { name := "fnExactIsMooreGraph", fn := fun _ => fun
  | [d] => { results := [.lit (.bool true)], args := [d] }
  | _ => none }
def fnExactIsMooreGraphRow : OpenClaim := { program := "ytibpnemeehkdbaadoor", sum := "d6a0909e1a039b96189f258f7c538dcf03e1e9feae60df7a9c9da1ea85e76c24", func := "loop.example/g01331/laws.FnExactIsMooreGraph", spec := "fnExactIsMooreGraph", unfollowed := true, recurses := true, named := ["math/bits.deBruijn64tab"], apart := false, laid := [("math/bits.deBruijn64tab", laid_math_bits_deBruijn64tab)] }
def FnExactIsMooreGraphSaid : Prop := fnExactIsMooreGraphRow.holds Tryd.pinned (OpenSpec.ofChange fnExactIsMooreGraphSpec)

/-- ITS FALSE NEIGHBOUR: 'it returns false'. Refute it at one input. -/
def fnExactIsMooreGraphWrong : ChangeSpec := { name := "fnExactIsMooreGraph", fn := fun _ => fun
  | [d] => { results := [.lit (.bool false)], args := [d] }
  | _ => none }
def FnExactIsMooreGraphWrongFalsely : Prop := fnExactIsMooreGraphRow.holds Tryd.pinned (OpenSpec.ofChange fnExactIsMooreGraphWrong)

/-- 'laws.FnExactFirstRegular': WHATEVER THE INPUT: true; the input reads as it did. -/
def fnExactFirstRegularSpec : ChangeSpec := { name := "fnExactFirstRegular", fn := fun _ => fun
  | [d1, d2, d3] => { results := [.lit (.bool true)], args := [d1, d2, d3] }
  | _ => none }
def fnExactFirstRegularRow : OpenClaim := { program := "ytibpnemeehkdbaadoor", sum := "d6a0909e1a039b96189f258f7c538dcf03e1e9feae60df7a9c9da1ea85e76c24", func := "loop.example/g01331/laws.FnExactFirstRegular", spec := "fnExactFirstRegular", unfollowed := true, recurses := true, named := ["math/bits.deBruijn64tab"], apart := false, laid := [("math/bits.deBruijn64tab", laid_math_bits_deBruijn64tab)] }
def FnExactFirstRegularSaid : Prop := fnExactFirstRegularRow.holds Tryd.pinned (OpenSpec.ofChange fnExactFirstRegularSpec)

/-- ITS FALSE NEIGHBOUR: 'it returns false'. Refute it at one input. -/
def fnExactFirstRegularWrong : ChangeSpec := { name := "fnExactFirstRegular", fn := fun _ => fun
  | [d1, d2, d3] => { results := [.lit (.bool false)], args := [d1, d2, d3] }
  | _ => none }
def FnExactFirstRegularWrongFalsely : Prop := fnExactFirstRegularRow.holds Tryd.pinned (OpenSpec.ofChange fnExactFirstRegularWrong)

/-- 'laws.FnExactLeastVertices': WHATEVER THE INPUT: true; the input reads as it did. -/
def fnExactLeastVerticesSpec : ChangeSpec := { name := "fnExactLeastVertices", fn := fun _ => fun
  | [d1, d2] => { results := [.lit (.bool true)], args := [d1, d2] }
  | _ => none }
def fnExactLeastVerticesRow : OpenClaim := { program := "ytibpnemeehkdbaadoor", sum := "d6a0909e1a039b96189f258f7c538dcf03e1e9feae60df7a9c9da1ea85e76c24", func := "loop.example/g01331/laws.FnExactLeastVertices", spec := "fnExactLeastVertices", unfollowed := true, recurses := true, named := ["math/bits.deBruijn64tab"], apart := false, laid := [("math/bits.deBruijn64tab", laid_math_bits_deBruijn64tab)] }
def FnExactLeastVerticesSaid : Prop := fnExactLeastVerticesRow.holds Tryd.pinned (OpenSpec.ofChange fnExactLeastVerticesSpec)

/-- ITS FALSE NEIGHBOUR: 'it returns false'. Refute it at one input. -/
def fnExactLeastVerticesWrong : ChangeSpec := { name := "fnExactLeastVertices", fn := fun _ => fun
  | [d1, d2] => { results := [.lit (.bool false)], args := [d1, d2] }
  | _ => none }
def FnExactLeastVerticesWrongFalsely : Prop := fnExactLeastVerticesRow.holds Tryd.pinned (OpenSpec.ofChange fnExactLeastVerticesWrong)

/- THE SECOND FORM. 'bulk': how many values and letters a reading holds, each counted each time it is reached (what is shared counts as often as it is met; a slice's spare places count too). A statement '..UptoSaid' is the law's where the arguments, and the package variables that the reading takes, are together of bulk at most 1048576: NARROWER than '..Said'. Prove '..Said' where nothing that the law and all that it calls make is longer than what came in: it says more and counts as full. Else prove '..UptoSaid'. A law counts once. -/
mutual
def uptoBulk {H : Type} : DataW H → Nat
  | .lit (.string bytes) => bytes.length + 1
  | .lit _ => 1
  | .nil => 1
  | .ptr d => uptoBulk d + 1
  | .slice elems spare => uptoBulkAll elems + uptoBulkAll spare + 1
  | .agg parts => uptoBulkAll parts + 1
  | .iface _ d => uptoBulk d + 1
  | .map entries => uptoBulkEntries entries + 1
  | .held _ => 1
def uptoBulkAll {H : Type} : List (DataW H) → Nat
  | [] => 0
  | d :: r => uptoBulk d + uptoBulkAll r
def uptoBulkEntries {H : Type} : List (Lit × DataW H) → Nat
  | [] => 0
  | x :: r => uptoBulkEntry x + uptoBulkEntries r
def uptoBulkEntry {H : Type} : Lit × DataW H → Nat
  | (.string bytes, d) => bytes.length + uptoBulk d + 1
  | (_, d) => uptoBulk d + 1
 end
def uptoSmall : (H : Type) → List (DataW H) → Bool := fun _ ds => decide (uptoBulkAll ds ≤ 1048576)
def OpenSpec.upto (s : _root_.Go.ChangeSpec) : _root_.Go.OpenSpec := { _root_.Go.OpenSpec.ofChange s with cond := some uptoSmall }

/-- 'laws.FnExactExcessOf', WHERE WHAT IT READS IS OF BULK AT MOST 1048576: true; the input reads as it did. -/
def fnExactExcessOfUptoRow : OpenClaim := { program := "ytibpnemeehkdbaadoor", sum := "d6a0909e1a039b96189f258f7c538dcf03e1e9feae60df7a9c9da1ea85e76c24", func := "loop.example/g01331/laws.FnExactExcessOf", spec := "fnExactExcessOf", unfollowed := true, recurses := true, named := ["math/bits.deBruijn64tab"], apart := false, laid := [("math/bits.deBruijn64tab", laid_math_bits_deBruijn64tab)], narrowed := true }
def FnExactExcessOfUptoSaid : Prop := fnExactExcessOfUptoRow.holds Tryd.pinned (OpenSpec.upto fnExactExcessOfSpec)

/-- 'laws.FnExactIsMooreGraph', WHERE WHAT IT READS IS OF BULK AT MOST 1048576: true; the input reads as it did. -/
def fnExactIsMooreGraphUptoRow : OpenClaim := { program := "ytibpnemeehkdbaadoor", sum := "d6a0909e1a039b96189f258f7c538dcf03e1e9feae60df7a9c9da1ea85e76c24", func := "loop.example/g01331/laws.FnExactIsMooreGraph", spec := "fnExactIsMooreGraph", unfollowed := true, recurses := true, named := ["math/bits.deBruijn64tab"], apart := false, laid := [("math/bits.deBruijn64tab", laid_math_bits_deBruijn64tab)], narrowed := true }
def FnExactIsMooreGraphUptoSaid : Prop := fnExactIsMooreGraphUptoRow.holds Tryd.pinned (OpenSpec.upto fnExactIsMooreGraphSpec)

/-- 'laws.FnExactFirstRegular', WHERE WHAT IT READS IS OF BULK AT MOST 1048576: true; the input reads as it did. -/
def fnExactFirstRegularUptoRow : OpenClaim := { program := "ytibpnemeehkdbaadoor", sum := "d6a0909e1a039b96189f258f7c538dcf03e1e9feae60df7a9c9da1ea85e76c24", func := "loop.example/g01331/laws.FnExactFirstRegular", spec := "fnExactFirstRegular", unfollowed := true, recurses := true, named := ["math/bits.deBruijn64tab"], apart := false, laid := [("math/bits.deBruijn64tab", laid_math_bits_deBruijn64tab)], narrowed := true }
def FnExactFirstRegularUptoSaid : Prop := fnExactFirstRegularUptoRow.holds Tryd.pinned (OpenSpec.upto fnExactFirstRegularSpec)

/-- 'laws.FnExactLeastVertices', WHERE WHAT IT READS IS OF BULK AT MOST 1048576: true; the input reads as it did. -/
def fnExactLeastVerticesUptoRow : OpenClaim := { program := "ytibpnemeehkdbaadoor", sum := "d6a0909e1a039b96189f258f7c538dcf03e1e9feae60df7a9c9da1ea85e76c24", func := "loop.example/g01331/laws.FnExactLeastVertices", spec := "fnExactLeastVertices", unfollowed := true, recurses := true, named := ["math/bits.deBruijn64tab"], apart := false, laid := [("math/bits.deBruijn64tab", laid_math_bits_deBruijn64tab)], narrowed := true }
def FnExactLeastVerticesUptoSaid : Prop := fnExactLeastVerticesUptoRow.holds Tryd.pinned (OpenSpec.upto fnExactLeastVerticesSpec)

end Rows
end Go.Proofs.YtibpnemeehkdbaaDoor
