/-
  NARROWER THAN 'FOR EVERY INPUT', by the rows' own cells (each row's printed sentence says how): FnExactTakeVertex: laid · FnExactConeOf: laid · FnExactExchangeEdges: laid · FnExactInflateGraph: ifaces, laid · FnExactRenumberGraph: laid · FnExactShortestThrough: laid · FnExactCountShortest: laid · FnExactPutEdge: laid · FnExactTakeEdge: laid · FnExactFillGraph: laid · FnExactGreedyGraph: laid · FnExactDigraphOf: laid.
  DERIVED. THE GIVEN ROWS OF THIS SEAT. 12 by the template 'for every input the law returns true; each argument reads behind the call as it read before'; 0 by the template 'total and deterministic' (their statements: YtabkfihhfkmioaaDoorTotals.lean).
  GIVEN WITH THE SEED: the statements are not yours to turn. If you find one false, say at which input.
  Laid BY PROGRAM, IN A SANDBOX (cutbox-rows.mjs): the forced cells as the released guide's own fill.sh prints them over the translation 8238ad70431f8940… (all of the seat's roots in one cut). By AI agents, Wed Nov 11 2026. No macro, syntax, notation, axiom, sorry.
-/
import Derived.Test.YtabkfihhfkmioaaDoorChecked
import GoSem.Claim
import GoSem.ClaimJoined
import GoSem.ClaimMapViews
import Derived.JoinedTies
import Derived.KernelRfl
namespace Go.Proofs.YtabkfihhfkmioaaDoor
/- THE CELL 'sum', in the pinned program and in every row, IS THE sha256 OF THE DUMP (.gsa) THAT YtabkfihhfkmioaaDoorProg.lean LOADS. Nothing in Lean hashes anything: it is a label: what it is worth is what the hold of that sum in a sandbox is worth. -/
noncomputable def Tryd.pinned : Pinned := { name := "ytabkfihhfkmioaadoor", sum := "8238ad70431f8940974f54c0ab9da768152b1743791606e628c72cb35bc8b6d9", checked := Tryd.checked }
namespace Rows
def none {H : Type} : Left H := { results := [], args := [] }

/- WHAT THE LISTED PACKAGE-LEVEL VARIABLES READ AS WHEN THE CALL BEGINS. Each datum BY PROGRAM (the guide's laid-datum.mjs) off the statement by which the dump's own 'gosem.cut.vars' lays the variable. In a bare row this is a premise. The card (YtabkfihhfkmioaaDoorCards.lean) ties it to the program's text. -/
def laid_math_bits_deBruijn64tab {H : Type} : DataW H := .agg [.lit (.int .u8 0), .lit (.int .u8 1), .lit (.int .u8 56), .lit (.int .u8 2), .lit (.int .u8 57), .lit (.int .u8 49), .lit (.int .u8 28), .lit (.int .u8 3), .lit (.int .u8 61), .lit (.int .u8 58), .lit (.int .u8 42), .lit (.int .u8 50), .lit (.int .u8 38), .lit (.int .u8 29), .lit (.int .u8 17), .lit (.int .u8 4), .lit (.int .u8 62), .lit (.int .u8 47), .lit (.int .u8 59), .lit (.int .u8 36), .lit (.int .u8 45), .lit (.int .u8 43), .lit (.int .u8 51), .lit (.int .u8 22), .lit (.int .u8 53), .lit (.int .u8 39), .lit (.int .u8 33), .lit (.int .u8 30), .lit (.int .u8 24), .lit (.int .u8 18), .lit (.int .u8 12), .lit (.int .u8 5), .lit (.int .u8 63), .lit (.int .u8 55), .lit (.int .u8 48), .lit (.int .u8 27), .lit (.int .u8 60), .lit (.int .u8 41), .lit (.int .u8 37), .lit (.int .u8 16), .lit (.int .u8 46), .lit (.int .u8 35), .lit (.int .u8 44), .lit (.int .u8 21), .lit (.int .u8 52), .lit (.int .u8 32), .lit (.int .u8 23), .lit (.int .u8 11), .lit (.int .u8 54), .lit (.int .u8 26), .lit (.int .u8 40), .lit (.int .u8 15), .lit (.int .u8 34), .lit (.int .u8 20), .lit (.int .u8 31), .lit (.int .u8 10), .lit (.int .u8 25), .lit (.int .u8 14), .lit (.int .u8 19), .lit (.int .u8 9), .lit (.int .u8 13), .lit (.int .u8 8), .lit (.int .u8 7), .lit (.int .u8 6)]
def laid_loop_example_g01331_impl_errNoDigraph {H : Type} : DataW H := .iface "*errors.errorString" (.ptr (.agg [.lit (.string [116, 104, 101, 32, 114, 111, 119, 115, 32, 97, 114, 101, 32, 110, 111, 116, 32, 116, 104, 111, 115, 101, 32, 111, 102, 32, 97, 32, 100, 105, 103, 114, 97, 112, 104])]))

/-- 'laws.FnExactTakeVertex': WHATEVER THE INPUT: true; the input reads as it did. -/
def fnExactTakeVertexSpec : ChangeSpec := { name := "fnExactTakeVertex", fn := fun _ => fun
  | [d1, d2] => { results := [.lit (.bool true)], args := [d1, d2] }
  | _ => none }
def fnExactTakeVertexRow : OpenClaim := { program := "ytabkfihhfkmioaadoor", sum := "8238ad70431f8940974f54c0ab9da768152b1743791606e628c72cb35bc8b6d9", func := "loop.example/g01331/laws.FnExactTakeVertex", spec := "fnExactTakeVertex", unfollowed := true, recurses := true, named := ["math/bits.deBruijn64tab"], plainKeys := false, apart := false, laid := [("math/bits.deBruijn64tab", laid_math_bits_deBruijn64tab)] }
def FnExactTakeVertexSaid : Prop := fnExactTakeVertexRow.holds Tryd.pinned (OpenSpec.ofChange fnExactTakeVertexSpec)

/-- ITS FALSE NEIGHBOUR: 'it returns false'. Refute it at one input. -/
def fnExactTakeVertexWrong : ChangeSpec := { name := "fnExactTakeVertex", fn := fun _ => fun
  | [d1, d2] => { results := [.lit (.bool false)], args := [d1, d2] }
  | _ => none }
def FnExactTakeVertexWrongFalsely : Prop := fnExactTakeVertexRow.holds Tryd.pinned (OpenSpec.ofChange fnExactTakeVertexWrong)

/-- 'laws.FnExactConeOf': WHATEVER THE INPUT: true; the input reads as it did. -/
def fnExactConeOfSpec : ChangeSpec := { name := "fnExactConeOf", fn := fun _ => fun
  | [d] => { results := [.lit (.bool true)], args := [d] }
  | _ => none }
def fnExactConeOfRow : OpenClaim := { program := "ytabkfihhfkmioaadoor", sum := "8238ad70431f8940974f54c0ab9da768152b1743791606e628c72cb35bc8b6d9", func := "loop.example/g01331/laws.FnExactConeOf", spec := "fnExactConeOf", unfollowed := true, recurses := true, named := ["math/bits.deBruijn64tab"], plainKeys := false, apart := false, laid := [("math/bits.deBruijn64tab", laid_math_bits_deBruijn64tab)] }
def FnExactConeOfSaid : Prop := fnExactConeOfRow.holds Tryd.pinned (OpenSpec.ofChange fnExactConeOfSpec)

/-- ITS FALSE NEIGHBOUR: 'it returns false'. Refute it at one input. -/
def fnExactConeOfWrong : ChangeSpec := { name := "fnExactConeOf", fn := fun _ => fun
  | [d] => { results := [.lit (.bool false)], args := [d] }
  | _ => none }
def FnExactConeOfWrongFalsely : Prop := fnExactConeOfRow.holds Tryd.pinned (OpenSpec.ofChange fnExactConeOfWrong)

/-- 'laws.FnExactExchangeEdges': WHATEVER THE INPUT: true; the input reads as it did. -/
def fnExactExchangeEdgesSpec : ChangeSpec := { name := "fnExactExchangeEdges", fn := fun _ => fun
  | [d1, d2, d3, d4, d5] => { results := [.lit (.bool true)], args := [d1, d2, d3, d4, d5] }
  | _ => none }
def fnExactExchangeEdgesRow : OpenClaim := { program := "ytabkfihhfkmioaadoor", sum := "8238ad70431f8940974f54c0ab9da768152b1743791606e628c72cb35bc8b6d9", func := "loop.example/g01331/laws.FnExactExchangeEdges", spec := "fnExactExchangeEdges", unfollowed := true, recurses := true, named := ["math/bits.deBruijn64tab"], plainKeys := false, apart := false, laid := [("math/bits.deBruijn64tab", laid_math_bits_deBruijn64tab)] }
def FnExactExchangeEdgesSaid : Prop := fnExactExchangeEdgesRow.holds Tryd.pinned (OpenSpec.ofChange fnExactExchangeEdgesSpec)

/-- ITS FALSE NEIGHBOUR: 'it returns false'. Refute it at one input. -/
def fnExactExchangeEdgesWrong : ChangeSpec := { name := "fnExactExchangeEdges", fn := fun _ => fun
  | [d1, d2, d3, d4, d5] => { results := [.lit (.bool false)], args := [d1, d2, d3, d4, d5] }
  | _ => none }
def FnExactExchangeEdgesWrongFalsely : Prop := fnExactExchangeEdgesRow.holds Tryd.pinned (OpenSpec.ofChange fnExactExchangeEdgesWrong)

/-- 'laws.FnExactInflateGraph': WHATEVER THE INPUT: true; the input reads as it did. -/
def fnExactInflateGraphSpec : ChangeSpec := { name := "fnExactInflateGraph", vars := ["loop.example/g01331/impl.errNoDigraph"], fn := fun _ => fun
  | [d, g1] => { results := [.lit (.bool true)], args := [d], vars := [g1] }
  | _ => none }
def fnExactInflateGraphRow : OpenClaim := { program := "ytabkfihhfkmioaadoor", sum := "8238ad70431f8940974f54c0ab9da768152b1743791606e628c72cb35bc8b6d9", func := "loop.example/g01331/laws.FnExactInflateGraph", spec := "fnExactInflateGraph", unfollowed := true, recurses := true, named := ["math/bits.deBruijn64tab", "loop.example/g01331/impl.errNoDigraph"], ifaces := true, plainKeys := false, apart := false, laid := [("math/bits.deBruijn64tab", laid_math_bits_deBruijn64tab), ("loop.example/g01331/impl.errNoDigraph", laid_loop_example_g01331_impl_errNoDigraph)] }
def FnExactInflateGraphSaid : Prop := fnExactInflateGraphRow.holds Tryd.pinned (OpenSpec.ofChange fnExactInflateGraphSpec)

/-- ITS FALSE NEIGHBOUR: 'it returns false'. Refute it at one input. -/
def fnExactInflateGraphWrong : ChangeSpec := { name := "fnExactInflateGraph", vars := ["loop.example/g01331/impl.errNoDigraph"], fn := fun _ => fun
  | [d, g1] => { results := [.lit (.bool false)], args := [d], vars := [g1] }
  | _ => none }
def FnExactInflateGraphWrongFalsely : Prop := fnExactInflateGraphRow.holds Tryd.pinned (OpenSpec.ofChange fnExactInflateGraphWrong)

/-- 'laws.FnExactRenumberGraph': WHATEVER THE INPUT: true; the input reads as it did. -/
def fnExactRenumberGraphSpec : ChangeSpec := { name := "fnExactRenumberGraph", fn := fun _ => fun
  | [d1, d2] => { results := [.lit (.bool true)], args := [d1, d2] }
  | _ => none }
def fnExactRenumberGraphRow : OpenClaim := { program := "ytabkfihhfkmioaadoor", sum := "8238ad70431f8940974f54c0ab9da768152b1743791606e628c72cb35bc8b6d9", func := "loop.example/g01331/laws.FnExactRenumberGraph", spec := "fnExactRenumberGraph", unfollowed := true, recurses := true, named := ["math/bits.deBruijn64tab"], plainKeys := false, apart := false, laid := [("math/bits.deBruijn64tab", laid_math_bits_deBruijn64tab)] }
def FnExactRenumberGraphSaid : Prop := fnExactRenumberGraphRow.holds Tryd.pinned (OpenSpec.ofChange fnExactRenumberGraphSpec)

/-- ITS FALSE NEIGHBOUR: 'it returns false'. Refute it at one input. -/
def fnExactRenumberGraphWrong : ChangeSpec := { name := "fnExactRenumberGraph", fn := fun _ => fun
  | [d1, d2] => { results := [.lit (.bool false)], args := [d1, d2] }
  | _ => none }
def FnExactRenumberGraphWrongFalsely : Prop := fnExactRenumberGraphRow.holds Tryd.pinned (OpenSpec.ofChange fnExactRenumberGraphWrong)

/-- 'laws.FnExactShortestThrough': WHATEVER THE INPUT: true; the input reads as it did. -/
def fnExactShortestThroughSpec : ChangeSpec := { name := "fnExactShortestThrough", fn := fun _ => fun
  | [d1, d2, d3] => { results := [.lit (.bool true)], args := [d1, d2, d3] }
  | _ => none }
def fnExactShortestThroughRow : OpenClaim := { program := "ytabkfihhfkmioaadoor", sum := "8238ad70431f8940974f54c0ab9da768152b1743791606e628c72cb35bc8b6d9", func := "loop.example/g01331/laws.FnExactShortestThrough", spec := "fnExactShortestThrough", unfollowed := true, recurses := true, named := ["math/bits.deBruijn64tab"], plainKeys := false, apart := false, laid := [("math/bits.deBruijn64tab", laid_math_bits_deBruijn64tab)] }
def FnExactShortestThroughSaid : Prop := fnExactShortestThroughRow.holds Tryd.pinned (OpenSpec.ofChange fnExactShortestThroughSpec)

/-- ITS FALSE NEIGHBOUR: 'it returns false'. Refute it at one input. -/
def fnExactShortestThroughWrong : ChangeSpec := { name := "fnExactShortestThrough", fn := fun _ => fun
  | [d1, d2, d3] => { results := [.lit (.bool false)], args := [d1, d2, d3] }
  | _ => none }
def FnExactShortestThroughWrongFalsely : Prop := fnExactShortestThroughRow.holds Tryd.pinned (OpenSpec.ofChange fnExactShortestThroughWrong)

/-- 'laws.FnExactCountShortest': WHATEVER THE INPUT: true; the input reads as it did. -/
def fnExactCountShortestSpec : ChangeSpec := { name := "fnExactCountShortest", fn := fun _ => fun
  | [d] => { results := [.lit (.bool true)], args := [d] }
  | _ => none }
def fnExactCountShortestRow : OpenClaim := { program := "ytabkfihhfkmioaadoor", sum := "8238ad70431f8940974f54c0ab9da768152b1743791606e628c72cb35bc8b6d9", func := "loop.example/g01331/laws.FnExactCountShortest", spec := "fnExactCountShortest", unfollowed := true, recurses := true, named := ["math/bits.deBruijn64tab"], plainKeys := false, apart := false, laid := [("math/bits.deBruijn64tab", laid_math_bits_deBruijn64tab)] }
def FnExactCountShortestSaid : Prop := fnExactCountShortestRow.holds Tryd.pinned (OpenSpec.ofChange fnExactCountShortestSpec)

/-- ITS FALSE NEIGHBOUR: 'it returns false'. Refute it at one input. -/
def fnExactCountShortestWrong : ChangeSpec := { name := "fnExactCountShortest", fn := fun _ => fun
  | [d] => { results := [.lit (.bool false)], args := [d] }
  | _ => none }
def FnExactCountShortestWrongFalsely : Prop := fnExactCountShortestRow.holds Tryd.pinned (OpenSpec.ofChange fnExactCountShortestWrong)

/-- 'laws.FnExactPutEdge': WHATEVER THE INPUT: true; the input reads as it did. -/
def fnExactPutEdgeSpec : ChangeSpec := { name := "fnExactPutEdge", fn := fun _ => fun
  | [d1, d2, d3] => { results := [.lit (.bool true)], args := [d1, d2, d3] }
  | _ => none }
def fnExactPutEdgeRow : OpenClaim := { program := "ytabkfihhfkmioaadoor", sum := "8238ad70431f8940974f54c0ab9da768152b1743791606e628c72cb35bc8b6d9", func := "loop.example/g01331/laws.FnExactPutEdge", spec := "fnExactPutEdge", unfollowed := true, recurses := true, named := ["math/bits.deBruijn64tab"], plainKeys := false, apart := false, laid := [("math/bits.deBruijn64tab", laid_math_bits_deBruijn64tab)] }
def FnExactPutEdgeSaid : Prop := fnExactPutEdgeRow.holds Tryd.pinned (OpenSpec.ofChange fnExactPutEdgeSpec)

/-- ITS FALSE NEIGHBOUR: 'it returns false'. Refute it at one input. -/
def fnExactPutEdgeWrong : ChangeSpec := { name := "fnExactPutEdge", fn := fun _ => fun
  | [d1, d2, d3] => { results := [.lit (.bool false)], args := [d1, d2, d3] }
  | _ => none }
def FnExactPutEdgeWrongFalsely : Prop := fnExactPutEdgeRow.holds Tryd.pinned (OpenSpec.ofChange fnExactPutEdgeWrong)

/-- 'laws.FnExactTakeEdge': WHATEVER THE INPUT: true; the input reads as it did. -/
def fnExactTakeEdgeSpec : ChangeSpec := { name := "fnExactTakeEdge", fn := fun _ => fun
  | [d1, d2, d3] => { results := [.lit (.bool true)], args := [d1, d2, d3] }
  | _ => none }
def fnExactTakeEdgeRow : OpenClaim := { program := "ytabkfihhfkmioaadoor", sum := "8238ad70431f8940974f54c0ab9da768152b1743791606e628c72cb35bc8b6d9", func := "loop.example/g01331/laws.FnExactTakeEdge", spec := "fnExactTakeEdge", unfollowed := true, recurses := true, named := ["math/bits.deBruijn64tab"], plainKeys := false, apart := false, laid := [("math/bits.deBruijn64tab", laid_math_bits_deBruijn64tab)] }
def FnExactTakeEdgeSaid : Prop := fnExactTakeEdgeRow.holds Tryd.pinned (OpenSpec.ofChange fnExactTakeEdgeSpec)

/-- ITS FALSE NEIGHBOUR: 'it returns false'. Refute it at one input. -/
def fnExactTakeEdgeWrong : ChangeSpec := { name := "fnExactTakeEdge", fn := fun _ => fun
  | [d1, d2, d3] => { results := [.lit (.bool false)], args := [d1, d2, d3] }
  | _ => none }
def FnExactTakeEdgeWrongFalsely : Prop := fnExactTakeEdgeRow.holds Tryd.pinned (OpenSpec.ofChange fnExactTakeEdgeWrong)

/-- 'laws.FnExactFillGraph': WHATEVER THE INPUT: true; the input reads as it did. -/
def fnExactFillGraphSpec : ChangeSpec := { name := "fnExactFillGraph", fn := fun _ => fun
  | [d1, d2, d3] => { results := [.lit (.bool true)], args := [d1, d2, d3] }
  | _ => none }
def fnExactFillGraphRow : OpenClaim := { program := "ytabkfihhfkmioaadoor", sum := "8238ad70431f8940974f54c0ab9da768152b1743791606e628c72cb35bc8b6d9", func := "loop.example/g01331/laws.FnExactFillGraph", spec := "fnExactFillGraph", unfollowed := true, recurses := true, named := ["math/bits.deBruijn64tab"], plainKeys := false, apart := false, laid := [("math/bits.deBruijn64tab", laid_math_bits_deBruijn64tab)] }
def FnExactFillGraphSaid : Prop := fnExactFillGraphRow.holds Tryd.pinned (OpenSpec.ofChange fnExactFillGraphSpec)

/-- ITS FALSE NEIGHBOUR: 'it returns false'. Refute it at one input. -/
def fnExactFillGraphWrong : ChangeSpec := { name := "fnExactFillGraph", fn := fun _ => fun
  | [d1, d2, d3] => { results := [.lit (.bool false)], args := [d1, d2, d3] }
  | _ => none }
def FnExactFillGraphWrongFalsely : Prop := fnExactFillGraphRow.holds Tryd.pinned (OpenSpec.ofChange fnExactFillGraphWrong)

/-- 'laws.FnExactGreedyGraph': WHATEVER THE INPUT: true; the input reads as it did. -/
def fnExactGreedyGraphSpec : ChangeSpec := { name := "fnExactGreedyGraph", fn := fun _ => fun
  | [d1, d2, d3] => { results := [.lit (.bool true)], args := [d1, d2, d3] }
  | _ => none }
def fnExactGreedyGraphRow : OpenClaim := { program := "ytabkfihhfkmioaadoor", sum := "8238ad70431f8940974f54c0ab9da768152b1743791606e628c72cb35bc8b6d9", func := "loop.example/g01331/laws.FnExactGreedyGraph", spec := "fnExactGreedyGraph", unfollowed := true, recurses := true, named := ["math/bits.deBruijn64tab"], plainKeys := false, apart := false, laid := [("math/bits.deBruijn64tab", laid_math_bits_deBruijn64tab)] }
def FnExactGreedyGraphSaid : Prop := fnExactGreedyGraphRow.holds Tryd.pinned (OpenSpec.ofChange fnExactGreedyGraphSpec)

/-- ITS FALSE NEIGHBOUR: 'it returns false'. Refute it at one input. -/
def fnExactGreedyGraphWrong : ChangeSpec := { name := "fnExactGreedyGraph", fn := fun _ => fun
  | [d1, d2, d3] => { results := [.lit (.bool false)], args := [d1, d2, d3] }
  | _ => none }
def FnExactGreedyGraphWrongFalsely : Prop := fnExactGreedyGraphRow.holds Tryd.pinned (OpenSpec.ofChange fnExactGreedyGraphWrong)

/-- 'laws.FnExactDigraphOf': WHATEVER THE INPUT: true; the input reads as it did. -/
def fnExactDigraphOfSpec : ChangeSpec := { name := "fnExactDigraphOf", fn := fun _ => fun
  | [d] => { results := [.lit (.bool true)], args := [d] }
  | _ => none }
def fnExactDigraphOfRow : OpenClaim := { program := "ytabkfihhfkmioaadoor", sum := "8238ad70431f8940974f54c0ab9da768152b1743791606e628c72cb35bc8b6d9", func := "loop.example/g01331/laws.FnExactDigraphOf", spec := "fnExactDigraphOf", unfollowed := true, recurses := true, named := ["math/bits.deBruijn64tab"], plainKeys := false, apart := false, laid := [("math/bits.deBruijn64tab", laid_math_bits_deBruijn64tab)] }
def FnExactDigraphOfSaid : Prop := fnExactDigraphOfRow.holds Tryd.pinned (OpenSpec.ofChange fnExactDigraphOfSpec)

/-- ITS FALSE NEIGHBOUR: 'it returns false'. Refute it at one input. -/
def fnExactDigraphOfWrong : ChangeSpec := { name := "fnExactDigraphOf", fn := fun _ => fun
  | [d] => { results := [.lit (.bool false)], args := [d] }
  | _ => none }
def FnExactDigraphOfWrongFalsely : Prop := fnExactDigraphOfRow.holds Tryd.pinned (OpenSpec.ofChange fnExactDigraphOfWrong)

/- THE SECOND FORM. 'bulk': how many values and letters a reading holds, each counted each time it is reached (what is shared counts as often as it is met; a slice's spare places count too). A statement '..UptoSaid' is the law's where the arguments, and the package variables that the reading takes, are together of bulk at most 1048576: NARROWER than '..Said'. Prove '..Said' where nothing that the law and all that it calls make is longer than what came in: it says more and counts as full. Else prove '..UptoSaid'. A law counts once. -/
mutual
def uptoBulk {H : Type} : DataW H → Nat
  | .lit (.string bytes) => bytes.length + 1
  | .lit _ => 1
  | .nil => 1
  | .ptr d => uptoBulk d + 1
  | .slice elems spare => uptoBulkAll elems + uptoBulkAll spare + 1
  | .agg parts => uptoBulkAll parts + 1
  | .iface _ d => uptoBulk d + 1
  | .map entries => uptoBulkEntries entries + 1
  | .held _ => 1
def uptoBulkAll {H : Type} : List (DataW H) → Nat
  | [] => 0
  | d :: r => uptoBulk d + uptoBulkAll r
def uptoBulkEntries {H : Type} : List (Lit × DataW H) → Nat
  | [] => 0
  | x :: r => uptoBulkEntry x + uptoBulkEntries r
def uptoBulkEntry {H : Type} : Lit × DataW H → Nat
  | (.string bytes, d) => bytes.length + uptoBulk d + 1
  | (_, d) => uptoBulk d + 1
 end
def uptoSmall : (H : Type) → List (DataW H) → Bool := fun _ ds => decide (uptoBulkAll ds ≤ 1048576)
def OpenSpec.upto (s : _root_.Go.ChangeSpec) : _root_.Go.OpenSpec := { _root_.Go.OpenSpec.ofChange s with cond := some uptoSmall }

/-- 'laws.FnExactTakeVertex', WHERE WHAT IT READS IS OF BULK AT MOST 1048576: true; the input reads as it did. -/
def fnExactTakeVertexUptoRow : OpenClaim := { program := "ytabkfihhfkmioaadoor", sum := "8238ad70431f8940974f54c0ab9da768152b1743791606e628c72cb35bc8b6d9", func := "loop.example/g01331/laws.FnExactTakeVertex", spec := "fnExactTakeVertex", unfollowed := true, recurses := true, named := ["math/bits.deBruijn64tab"], plainKeys := false, apart := false, laid := [("math/bits.deBruijn64tab", laid_math_bits_deBruijn64tab)], narrowed := true }
def FnExactTakeVertexUptoSaid : Prop := fnExactTakeVertexUptoRow.holds Tryd.pinned (OpenSpec.upto fnExactTakeVertexSpec)

/-- 'laws.FnExactConeOf', WHERE WHAT IT READS IS OF BULK AT MOST 1048576: true; the input reads as it did. -/
def fnExactConeOfUptoRow : OpenClaim := { program := "ytabkfihhfkmioaadoor", sum := "8238ad70431f8940974f54c0ab9da768152b1743791606e628c72cb35bc8b6d9", func := "loop.example/g01331/laws.FnExactConeOf", spec := "fnExactConeOf", unfollowed := true, recurses := true, named := ["math/bits.deBruijn64tab"], plainKeys := false, apart := false, laid := [("math/bits.deBruijn64tab", laid_math_bits_deBruijn64tab)], narrowed := true }
def FnExactConeOfUptoSaid : Prop := fnExactConeOfUptoRow.holds Tryd.pinned (OpenSpec.upto fnExactConeOfSpec)

/-- 'laws.FnExactExchangeEdges', WHERE WHAT IT READS IS OF BULK AT MOST 1048576: true; the input reads as it did. -/
def fnExactExchangeEdgesUptoRow : OpenClaim := { program := "ytabkfihhfkmioaadoor", sum := "8238ad70431f8940974f54c0ab9da768152b1743791606e628c72cb35bc8b6d9", func := "loop.example/g01331/laws.FnExactExchangeEdges", spec := "fnExactExchangeEdges", unfollowed := true, recurses := true, named := ["math/bits.deBruijn64tab"], plainKeys := false, apart := false, laid := [("math/bits.deBruijn64tab", laid_math_bits_deBruijn64tab)], narrowed := true }
def FnExactExchangeEdgesUptoSaid : Prop := fnExactExchangeEdgesUptoRow.holds Tryd.pinned (OpenSpec.upto fnExactExchangeEdgesSpec)

/-- 'laws.FnExactInflateGraph', WHERE WHAT IT READS IS OF BULK AT MOST 1048576: true; the input reads as it did. -/
def fnExactInflateGraphUptoRow : OpenClaim := { program := "ytabkfihhfkmioaadoor", sum := "8238ad70431f8940974f54c0ab9da768152b1743791606e628c72cb35bc8b6d9", func := "loop.example/g01331/laws.FnExactInflateGraph", spec := "fnExactInflateGraph", unfollowed := true, recurses := true, named := ["math/bits.deBruijn64tab", "loop.example/g01331/impl.errNoDigraph"], ifaces := true, plainKeys := false, apart := false, laid := [("math/bits.deBruijn64tab", laid_math_bits_deBruijn64tab), ("loop.example/g01331/impl.errNoDigraph", laid_loop_example_g01331_impl_errNoDigraph)], narrowed := true }
def FnExactInflateGraphUptoSaid : Prop := fnExactInflateGraphUptoRow.holds Tryd.pinned (OpenSpec.upto fnExactInflateGraphSpec)

/-- 'laws.FnExactRenumberGraph', WHERE WHAT IT READS IS OF BULK AT MOST 1048576: true; the input reads as it did. -/
def fnExactRenumberGraphUptoRow : OpenClaim := { program := "ytabkfihhfkmioaadoor", sum := "8238ad70431f8940974f54c0ab9da768152b1743791606e628c72cb35bc8b6d9", func := "loop.example/g01331/laws.FnExactRenumberGraph", spec := "fnExactRenumberGraph", unfollowed := true, recurses := true, named := ["math/bits.deBruijn64tab"], plainKeys := false, apart := false, laid := [("math/bits.deBruijn64tab", laid_math_bits_deBruijn64tab)], narrowed := true }
def FnExactRenumberGraphUptoSaid : Prop := fnExactRenumberGraphUptoRow.holds Tryd.pinned (OpenSpec.upto fnExactRenumberGraphSpec)

/-- 'laws.FnExactShortestThrough', WHERE WHAT IT READS IS OF BULK AT MOST 1048576: true; the input reads as it did. -/
def fnExactShortestThroughUptoRow : OpenClaim := { program := "ytabkfihhfkmioaadoor", sum := "8238ad70431f8940974f54c0ab9da768152b1743791606e628c72cb35bc8b6d9", func := "loop.example/g01331/laws.FnExactShortestThrough", spec := "fnExactShortestThrough", unfollowed := true, recurses := true, named := ["math/bits.deBruijn64tab"], plainKeys := false, apart := false, laid := [("math/bits.deBruijn64tab", laid_math_bits_deBruijn64tab)], narrowed := true }
def FnExactShortestThroughUptoSaid : Prop := fnExactShortestThroughUptoRow.holds Tryd.pinned (OpenSpec.upto fnExactShortestThroughSpec)

/-- 'laws.FnExactCountShortest', WHERE WHAT IT READS IS OF BULK AT MOST 1048576: true; the input reads as it did. -/
def fnExactCountShortestUptoRow : OpenClaim := { program := "ytabkfihhfkmioaadoor", sum := "8238ad70431f8940974f54c0ab9da768152b1743791606e628c72cb35bc8b6d9", func := "loop.example/g01331/laws.FnExactCountShortest", spec := "fnExactCountShortest", unfollowed := true, recurses := true, named := ["math/bits.deBruijn64tab"], plainKeys := false, apart := false, laid := [("math/bits.deBruijn64tab", laid_math_bits_deBruijn64tab)], narrowed := true }
def FnExactCountShortestUptoSaid : Prop := fnExactCountShortestUptoRow.holds Tryd.pinned (OpenSpec.upto fnExactCountShortestSpec)

/-- 'laws.FnExactPutEdge', WHERE WHAT IT READS IS OF BULK AT MOST 1048576: true; the input reads as it did. -/
def fnExactPutEdgeUptoRow : OpenClaim := { program := "ytabkfihhfkmioaadoor", sum := "8238ad70431f8940974f54c0ab9da768152b1743791606e628c72cb35bc8b6d9", func := "loop.example/g01331/laws.FnExactPutEdge", spec := "fnExactPutEdge", unfollowed := true, recurses := true, named := ["math/bits.deBruijn64tab"], plainKeys := false, apart := false, laid := [("math/bits.deBruijn64tab", laid_math_bits_deBruijn64tab)], narrowed := true }
def FnExactPutEdgeUptoSaid : Prop := fnExactPutEdgeUptoRow.holds Tryd.pinned (OpenSpec.upto fnExactPutEdgeSpec)

/-- 'laws.FnExactTakeEdge', WHERE WHAT IT READS IS OF BULK AT MOST 1048576: true; the input reads as it did. -/
def fnExactTakeEdgeUptoRow : OpenClaim := { program := "ytabkfihhfkmioaadoor", sum := "8238ad70431f8940974f54c0ab9da768152b1743791606e628c72cb35bc8b6d9", func := "loop.example/g01331/laws.FnExactTakeEdge", spec := "fnExactTakeEdge", unfollowed := true, recurses := true, named := ["math/bits.deBruijn64tab"], plainKeys := false, apart := false, laid := [("math/bits.deBruijn64tab", laid_math_bits_deBruijn64tab)], narrowed := true }
def FnExactTakeEdgeUptoSaid : Prop := fnExactTakeEdgeUptoRow.holds Tryd.pinned (OpenSpec.upto fnExactTakeEdgeSpec)

/-- 'laws.FnExactFillGraph', WHERE WHAT IT READS IS OF BULK AT MOST 1048576: true; the input reads as it did. -/
def fnExactFillGraphUptoRow : OpenClaim := { program := "ytabkfihhfkmioaadoor", sum := "8238ad70431f8940974f54c0ab9da768152b1743791606e628c72cb35bc8b6d9", func := "loop.example/g01331/laws.FnExactFillGraph", spec := "fnExactFillGraph", unfollowed := true, recurses := true, named := ["math/bits.deBruijn64tab"], plainKeys := false, apart := false, laid := [("math/bits.deBruijn64tab", laid_math_bits_deBruijn64tab)], narrowed := true }
def FnExactFillGraphUptoSaid : Prop := fnExactFillGraphUptoRow.holds Tryd.pinned (OpenSpec.upto fnExactFillGraphSpec)

/-- 'laws.FnExactGreedyGraph', WHERE WHAT IT READS IS OF BULK AT MOST 1048576: true; the input reads as it did. -/
def fnExactGreedyGraphUptoRow : OpenClaim := { program := "ytabkfihhfkmioaadoor", sum := "8238ad70431f8940974f54c0ab9da768152b1743791606e628c72cb35bc8b6d9", func := "loop.example/g01331/laws.FnExactGreedyGraph", spec := "fnExactGreedyGraph", unfollowed := true, recurses := true, named := ["math/bits.deBruijn64tab"], plainKeys := false, apart := false, laid := [("math/bits.deBruijn64tab", laid_math_bits_deBruijn64tab)], narrowed := true }
def FnExactGreedyGraphUptoSaid : Prop := fnExactGreedyGraphUptoRow.holds Tryd.pinned (OpenSpec.upto fnExactGreedyGraphSpec)

/-- 'laws.FnExactDigraphOf', WHERE WHAT IT READS IS OF BULK AT MOST 1048576: true; the input reads as it did. -/
def fnExactDigraphOfUptoRow : OpenClaim := { program := "ytabkfihhfkmioaadoor", sum := "8238ad70431f8940974f54c0ab9da768152b1743791606e628c72cb35bc8b6d9", func := "loop.example/g01331/laws.FnExactDigraphOf", spec := "fnExactDigraphOf", unfollowed := true, recurses := true, named := ["math/bits.deBruijn64tab"], plainKeys := false, apart := false, laid := [("math/bits.deBruijn64tab", laid_math_bits_deBruijn64tab)], narrowed := true }
def FnExactDigraphOfUptoSaid : Prop := fnExactDigraphOfUptoRow.holds Tryd.pinned (OpenSpec.upto fnExactDigraphOfSpec)

end Rows
end Go.Proofs.YtabkfihhfkmioaaDoor
