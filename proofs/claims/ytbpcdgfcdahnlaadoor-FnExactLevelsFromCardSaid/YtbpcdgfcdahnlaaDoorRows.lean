/-
  NARROWER THAN 'FOR EVERY INPUT', by the rows' own cells (each row's printed sentence says how): FnExactDegreesOf: laid · FnExactRegularDegree: laid · FnExactPartsOf: laid · FnExactIsConnected: laid · FnExactIsBipartite: laid · FnExactComplementOf: laid · FnExactPartOn: laid · FnExactPutBeside: laid · FnExactDistanceOf: laid · FnExactLevelsFrom: laid · FnExactReachesOf: laid · FnExactDiameterOf: laid.
  DERIVED. THE GIVEN ROWS OF THIS SEAT. 12 by the template 'for every input the law returns true; each argument reads behind the call as it read before'; 0 by the template 'total and deterministic' (their statements: YtbpcdgfcdahnlaaDoorTotals.lean).
  GIVEN WITH THE SEED: the statements are not yours to turn. If you find one false, say at which input.
  Laid BY PROGRAM, IN A SANDBOX (cutbox-rows.mjs): the forced cells as the released guide's own fill.sh prints them over the translation 2030c51fb86e84c1… (all of the seat's roots in one cut). By AI agents, Wed Nov 11 2026. No macro, syntax, notation, axiom, sorry.
-/
import Derived.Test.YtbpcdgfcdahnlaaDoorChecked
import GoSem.Claim
import GoSem.ClaimJoined
import GoSem.ClaimMapViews
import Derived.JoinedTies
import Derived.KernelRfl
namespace Go.Proofs.YtbpcdgfcdahnlaaDoor
/- THE CELL 'sum', in the pinned program and in every row, IS THE sha256 OF THE DUMP (.gsa) THAT YtbpcdgfcdahnlaaDoorProg.lean LOADS. Nothing in Lean hashes anything: it is a label: what it is worth is what the hold of that sum in a sandbox is worth. -/
noncomputable def Tryd.pinned : Pinned := { name := "ytbpcdgfcdahnlaadoor", sum := "2030c51fb86e84c1686bcae1b33b8cb48444a9e639ed381046584dde6a92959d", checked := Tryd.checked }
namespace Rows
def none {H : Type} : Left H := { results := [], args := [] }

/- WHAT THE LISTED PACKAGE-LEVEL VARIABLES READ AS WHEN THE CALL BEGINS. Each datum BY PROGRAM (the guide's laid-datum.mjs) off the statement by which the dump's own 'gosem.cut.vars' lays the variable. In a bare row this is a premise. The card (YtbpcdgfcdahnlaaDoorCards.lean) ties it to the program's text. -/
def laid_math_bits_deBruijn64tab {H : Type} : DataW H := .agg [.lit (.int .u8 0), .lit (.int .u8 1), .lit (.int .u8 56), .lit (.int .u8 2), .lit (.int .u8 57), .lit (.int .u8 49), .lit (.int .u8 28), .lit (.int .u8 3), .lit (.int .u8 61), .lit (.int .u8 58), .lit (.int .u8 42), .lit (.int .u8 50), .lit (.int .u8 38), .lit (.int .u8 29), .lit (.int .u8 17), .lit (.int .u8 4), .lit (.int .u8 62), .lit (.int .u8 47), .lit (.int .u8 59), .lit (.int .u8 36), .lit (.int .u8 45), .lit (.int .u8 43), .lit (.int .u8 51), .lit (.int .u8 22), .lit (.int .u8 53), .lit (.int .u8 39), .lit (.int .u8 33), .lit (.int .u8 30), .lit (.int .u8 24), .lit (.int .u8 18), .lit (.int .u8 12), .lit (.int .u8 5), .lit (.int .u8 63), .lit (.int .u8 55), .lit (.int .u8 48), .lit (.int .u8 27), .lit (.int .u8 60), .lit (.int .u8 41), .lit (.int .u8 37), .lit (.int .u8 16), .lit (.int .u8 46), .lit (.int .u8 35), .lit (.int .u8 44), .lit (.int .u8 21), .lit (.int .u8 52), .lit (.int .u8 32), .lit (.int .u8 23), .lit (.int .u8 11), .lit (.int .u8 54), .lit (.int .u8 26), .lit (.int .u8 40), .lit (.int .u8 15), .lit (.int .u8 34), .lit (.int .u8 20), .lit (.int .u8 31), .lit (.int .u8 10), .lit (.int .u8 25), .lit (.int .u8 14), .lit (.int .u8 19), .lit (.int .u8 9), .lit (.int .u8 13), .lit (.int .u8 8), .lit (.int .u8 7), .lit (.int .u8 6)]

/-- 'laws.FnExactDegreesOf': WHATEVER THE INPUT: true; the input reads as it did. -/
def fnExactDegreesOfSpec : ChangeSpec := { name := "fnExactDegreesOf", fn := fun _ => fun
  | [d] => { results := [.lit (.bool true)], args := [d] }
  | _ => none }
def fnExactDegreesOfRow : OpenClaim := { program := "ytbpcdgfcdahnlaadoor", sum := "2030c51fb86e84c1686bcae1b33b8cb48444a9e639ed381046584dde6a92959d", func := "loop.example/g01331/laws.FnExactDegreesOf", spec := "fnExactDegreesOf", unfollowed := true, recurses := true, named := ["math/bits.deBruijn64tab"], apart := false, laid := [("math/bits.deBruijn64tab", laid_math_bits_deBruijn64tab)] }
def FnExactDegreesOfSaid : Prop := fnExactDegreesOfRow.holds Tryd.pinned (OpenSpec.ofChange fnExactDegreesOfSpec)

/-- ITS FALSE NEIGHBOUR: 'it returns false'. Refute it at one input. -/
def fnExactDegreesOfWrong : ChangeSpec := { name := "fnExactDegreesOf", fn := fun _ => fun
  | [d] => { results := [.lit (.bool false)], args := [d] }
  | _ => none }
def FnExactDegreesOfWrongFalsely : Prop := fnExactDegreesOfRow.holds Tryd.pinned (OpenSpec.ofChange fnExactDegreesOfWrong)

/-- 'laws.FnExactRegularDegree': WHATEVER THE INPUT: true; the input reads as it did. -/
def fnExactRegularDegreeSpec : ChangeSpec := { name := "fnExactRegularDegree", fn := fun _ => fun
  | [d] => { results := [.lit (.bool true)], args := [d] }
  | _ => none }
def fnExactRegularDegreeRow : OpenClaim := { program := "ytbpcdgfcdahnlaadoor", sum := "2030c51fb86e84c1686bcae1b33b8cb48444a9e639ed381046584dde6a92959d", func := "loop.example/g01331/laws.FnExactRegularDegree", spec := "fnExactRegularDegree", unfollowed := true, recurses := true, named := ["math/bits.deBruijn64tab"], apart := false, laid := [("math/bits.deBruijn64tab", laid_math_bits_deBruijn64tab)] }
def FnExactRegularDegreeSaid : Prop := fnExactRegularDegreeRow.holds Tryd.pinned (OpenSpec.ofChange fnExactRegularDegreeSpec)

/-- ITS FALSE NEIGHBOUR: 'it returns false'. Refute it at one input. -/
def fnExactRegularDegreeWrong : ChangeSpec := { name := "fnExactRegularDegree", fn := fun _ => fun
  | [d] => { results := [.lit (.bool false)], args := [d] }
  | _ => none }
def FnExactRegularDegreeWrongFalsely : Prop := fnExactRegularDegreeRow.holds Tryd.pinned (OpenSpec.ofChange fnExactRegularDegreeWrong)

/-- 'laws.FnExactPartsOf': WHATEVER THE INPUT: true; the input reads as it did. -/
def fnExactPartsOfSpec : ChangeSpec := { name := "fnExactPartsOf", fn := fun _ => fun
  | [d] => { results := [.lit (.bool true)], args := [d] }
  | _ => none }
def fnExactPartsOfRow : OpenClaim := { program := "ytbpcdgfcdahnlaadoor", sum := "2030c51fb86e84c1686bcae1b33b8cb48444a9e639ed381046584dde6a92959d", func := "loop.example/g01331/laws.FnExactPartsOf", spec := "fnExactPartsOf", unfollowed := true, recurses := true, named := ["math/bits.deBruijn64tab"], apart := false, laid := [("math/bits.deBruijn64tab", laid_math_bits_deBruijn64tab)] }
def FnExactPartsOfSaid : Prop := fnExactPartsOfRow.holds Tryd.pinned (OpenSpec.ofChange fnExactPartsOfSpec)

/-- ITS FALSE NEIGHBOUR: 'it returns false'. Refute it at one input. -/
def fnExactPartsOfWrong : ChangeSpec := { name := "fnExactPartsOf", fn := fun _ => fun
  | [d] => { results := [.lit (.bool false)], args := [d] }
  | _ => none }
def FnExactPartsOfWrongFalsely : Prop := fnExactPartsOfRow.holds Tryd.pinned (OpenSpec.ofChange fnExactPartsOfWrong)

/-- 'laws.FnExactIsConnected': WHATEVER THE INPUT: true; the input reads as it did. -/
def fnExactIsConnectedSpec : ChangeSpec := { name := "fnExactIsConnected", fn := fun _ => fun
  | [d] => { results := [.lit (.bool true)], args := [d] }
  | _ => none }
def fnExactIsConnectedRow : OpenClaim := { program := "ytbpcdgfcdahnlaadoor", sum := "2030c51fb86e84c1686bcae1b33b8cb48444a9e639ed381046584dde6a92959d", func := "loop.example/g01331/laws.FnExactIsConnected", spec := "fnExactIsConnected", unfollowed := true, recurses := true, named := ["math/bits.deBruijn64tab"], apart := false, laid := [("math/bits.deBruijn64tab", laid_math_bits_deBruijn64tab)] }
def FnExactIsConnectedSaid : Prop := fnExactIsConnectedRow.holds Tryd.pinned (OpenSpec.ofChange fnExactIsConnectedSpec)

/-- ITS FALSE NEIGHBOUR: 'it returns false'. Refute it at one input. -/
def fnExactIsConnectedWrong : ChangeSpec := { name := "fnExactIsConnected", fn := fun _ => fun
  | [d] => { results := [.lit (.bool false)], args := [d] }
  | _ => none }
def FnExactIsConnectedWrongFalsely : Prop := fnExactIsConnectedRow.holds Tryd.pinned (OpenSpec.ofChange fnExactIsConnectedWrong)

/-- 'laws.FnExactIsBipartite': WHATEVER THE INPUT: true; the input reads as it did. -/
def fnExactIsBipartiteSpec : ChangeSpec := { name := "fnExactIsBipartite", fn := fun _ => fun
  | [d] => { results := [.lit (.bool true)], args := [d] }
  | _ => none }
def fnExactIsBipartiteRow : OpenClaim := { program := "ytbpcdgfcdahnlaadoor", sum := "2030c51fb86e84c1686bcae1b33b8cb48444a9e639ed381046584dde6a92959d", func := "loop.example/g01331/laws.FnExactIsBipartite", spec := "fnExactIsBipartite", unfollowed := true, recurses := true, named := ["math/bits.deBruijn64tab"], apart := false, laid := [("math/bits.deBruijn64tab", laid_math_bits_deBruijn64tab)] }
def FnExactIsBipartiteSaid : Prop := fnExactIsBipartiteRow.holds Tryd.pinned (OpenSpec.ofChange fnExactIsBipartiteSpec)

/-- ITS FALSE NEIGHBOUR: 'it returns false'. Refute it at one input. -/
def fnExactIsBipartiteWrong : ChangeSpec := { name := "fnExactIsBipartite", fn := fun _ => fun
  | [d] => { results := [.lit (.bool false)], args := [d] }
  | _ => none }
def FnExactIsBipartiteWrongFalsely : Prop := fnExactIsBipartiteRow.holds Tryd.pinned (OpenSpec.ofChange fnExactIsBipartiteWrong)

/-- 'laws.FnExactComplementOf': WHATEVER THE INPUT: true; the input reads as it did. -/
def fnExactComplementOfSpec : ChangeSpec := { name := "fnExactComplementOf", fn := fun _ => fun
  | [d] => { results := [.lit (.bool true)], args := [d] }
  | _ => none }
def fnExactComplementOfRow : OpenClaim := { program := "ytbpcdgfcdahnlaadoor", sum := "2030c51fb86e84c1686bcae1b33b8cb48444a9e639ed381046584dde6a92959d", func := "loop.example/g01331/laws.FnExactComplementOf", spec := "fnExactComplementOf", unfollowed := true, recurses := true, named := ["math/bits.deBruijn64tab"], apart := false, laid := [("math/bits.deBruijn64tab", laid_math_bits_deBruijn64tab)] }
def FnExactComplementOfSaid : Prop := fnExactComplementOfRow.holds Tryd.pinned (OpenSpec.ofChange fnExactComplementOfSpec)

/-- ITS FALSE NEIGHBOUR: 'it returns false'. Refute it at one input. -/
def fnExactComplementOfWrong : ChangeSpec := { name := "fnExactComplementOf", fn := fun _ => fun
  | [d] => { results := [.lit (.bool false)], args := [d] }
  | _ => none }
def FnExactComplementOfWrongFalsely : Prop := fnExactComplementOfRow.holds Tryd.pinned (OpenSpec.ofChange fnExactComplementOfWrong)

/-- 'laws.FnExactPartOn': WHATEVER THE INPUT: true; the input reads as it did. -/
def fnExactPartOnSpec : ChangeSpec := { name := "fnExactPartOn", fn := fun _ => fun
  | [d1, d2] => { results := [.lit (.bool true)], args := [d1, d2] }
  | _ => none }
def fnExactPartOnRow : OpenClaim := { program := "ytbpcdgfcdahnlaadoor", sum := "2030c51fb86e84c1686bcae1b33b8cb48444a9e639ed381046584dde6a92959d", func := "loop.example/g01331/laws.FnExactPartOn", spec := "fnExactPartOn", unfollowed := true, recurses := true, named := ["math/bits.deBruijn64tab"], apart := false, laid := [("math/bits.deBruijn64tab", laid_math_bits_deBruijn64tab)] }
def FnExactPartOnSaid : Prop := fnExactPartOnRow.holds Tryd.pinned (OpenSpec.ofChange fnExactPartOnSpec)

/-- ITS FALSE NEIGHBOUR: 'it returns false'. Refute it at one input. -/
def fnExactPartOnWrong : ChangeSpec := { name := "fnExactPartOn", fn := fun _ => fun
  | [d1, d2] => { results := [.lit (.bool false)], args := [d1, d2] }
  | _ => none }
def FnExactPartOnWrongFalsely : Prop := fnExactPartOnRow.holds Tryd.pinned (OpenSpec.ofChange fnExactPartOnWrong)

/-- 'laws.FnExactPutBeside': WHATEVER THE INPUT: true; the input reads as it did. -/
def fnExactPutBesideSpec : ChangeSpec := { name := "fnExactPutBeside", fn := fun _ => fun
  | [d1, d2] => { results := [.lit (.bool true)], args := [d1, d2] }
  | _ => none }
def fnExactPutBesideRow : OpenClaim := { program := "ytbpcdgfcdahnlaadoor", sum := "2030c51fb86e84c1686bcae1b33b8cb48444a9e639ed381046584dde6a92959d", func := "loop.example/g01331/laws.FnExactPutBeside", spec := "fnExactPutBeside", unfollowed := true, recurses := true, named := ["math/bits.deBruijn64tab"], apart := false, laid := [("math/bits.deBruijn64tab", laid_math_bits_deBruijn64tab)] }
def FnExactPutBesideSaid : Prop := fnExactPutBesideRow.holds Tryd.pinned (OpenSpec.ofChange fnExactPutBesideSpec)

/-- ITS FALSE NEIGHBOUR: 'it returns false'. Refute it at one input. -/
def fnExactPutBesideWrong : ChangeSpec := { name := "fnExactPutBeside", fn := fun _ => fun
  | [d1, d2] => { results := [.lit (.bool false)], args := [d1, d2] }
  | _ => none }
def FnExactPutBesideWrongFalsely : Prop := fnExactPutBesideRow.holds Tryd.pinned (OpenSpec.ofChange fnExactPutBesideWrong)

/-- 'laws.FnExactDistanceOf': WHATEVER THE INPUT: true; the input reads as it did. -/
def fnExactDistanceOfSpec : ChangeSpec := { name := "fnExactDistanceOf", fn := fun _ => fun
  | [d1, d2, d3] => { results := [.lit (.bool true)], args := [d1, d2, d3] }
  | _ => none }
def fnExactDistanceOfRow : OpenClaim := { program := "ytbpcdgfcdahnlaadoor", sum := "2030c51fb86e84c1686bcae1b33b8cb48444a9e639ed381046584dde6a92959d", func := "loop.example/g01331/laws.FnExactDistanceOf", spec := "fnExactDistanceOf", unfollowed := true, recurses := true, named := ["math/bits.deBruijn64tab"], apart := false, laid := [("math/bits.deBruijn64tab", laid_math_bits_deBruijn64tab)] }
def FnExactDistanceOfSaid : Prop := fnExactDistanceOfRow.holds Tryd.pinned (OpenSpec.ofChange fnExactDistanceOfSpec)

/-- ITS FALSE NEIGHBOUR: 'it returns false'. Refute it at one input. -/
def fnExactDistanceOfWrong : ChangeSpec := { name := "fnExactDistanceOf", fn := fun _ => fun
  | [d1, d2, d3] => { results := [.lit (.bool false)], args := [d1, d2, d3] }
  | _ => none }
def FnExactDistanceOfWrongFalsely : Prop := fnExactDistanceOfRow.holds Tryd.pinned (OpenSpec.ofChange fnExactDistanceOfWrong)

/-- 'laws.FnExactLevelsFrom': WHATEVER THE INPUT: true; the input reads as it did. -/
def fnExactLevelsFromSpec : ChangeSpec := { name := "fnExactLevelsFrom", fn := fun _ => fun
  | [d1, d2] => { results := [.lit (.bool true)], args := [d1, d2] }
  | _ => none }
def fnExactLevelsFromRow : OpenClaim := { program := "ytbpcdgfcdahnlaadoor", sum := "2030c51fb86e84c1686bcae1b33b8cb48444a9e639ed381046584dde6a92959d", func := "loop.example/g01331/laws.FnExactLevelsFrom", spec := "fnExactLevelsFrom", unfollowed := true, recurses := true, named := ["math/bits.deBruijn64tab"], apart := false, laid := [("math/bits.deBruijn64tab", laid_math_bits_deBruijn64tab)] }
def FnExactLevelsFromSaid : Prop := fnExactLevelsFromRow.holds Tryd.pinned (OpenSpec.ofChange fnExactLevelsFromSpec)

/-- ITS FALSE NEIGHBOUR: 'it returns false'. Refute it at one input. -/
def fnExactLevelsFromWrong : ChangeSpec := { name := "fnExactLevelsFrom", fn := fun _ => fun
  | [d1, d2] => { results := [.lit (.bool false)], args := [d1, d2] }
  | _ => none }
def FnExactLevelsFromWrongFalsely : Prop := fnExactLevelsFromRow.holds Tryd.pinned (OpenSpec.ofChange fnExactLevelsFromWrong)

/-- 'laws.FnExactReachesOf': WHATEVER THE INPUT: true; the input reads as it did. -/
def fnExactReachesOfSpec : ChangeSpec := { name := "fnExactReachesOf", fn := fun _ => fun
  | [d] => { results := [.lit (.bool true)], args := [d] }
  | _ => none }
def fnExactReachesOfRow : OpenClaim := { program := "ytbpcdgfcdahnlaadoor", sum := "2030c51fb86e84c1686bcae1b33b8cb48444a9e639ed381046584dde6a92959d", func := "loop.example/g01331/laws.FnExactReachesOf", spec := "fnExactReachesOf", unfollowed := true, recurses := true, named := ["math/bits.deBruijn64tab"], apart := false, laid := [("math/bits.deBruijn64tab", laid_math_bits_deBruijn64tab)] }
def FnExactReachesOfSaid : Prop := fnExactReachesOfRow.holds Tryd.pinned (OpenSpec.ofChange fnExactReachesOfSpec)

/-- ITS FALSE NEIGHBOUR: 'it returns false'. Refute it at one input. -/
def fnExactReachesOfWrong : ChangeSpec := { name := "fnExactReachesOf", fn := fun _ => fun
  | [d] => { results := [.lit (.bool false)], args := [d] }
  | _ => none }
def FnExactReachesOfWrongFalsely : Prop := fnExactReachesOfRow.holds Tryd.pinned (OpenSpec.ofChange fnExactReachesOfWrong)

/-- 'laws.FnExactDiameterOf': WHATEVER THE INPUT: true; the input reads as it did. -/
def fnExactDiameterOfSpec : ChangeSpec := { name := "fnExactDiameterOf", fn := fun _ => fun
  | [d] => { results := [.lit (.bool true)], args := [d] }
  | _ => none }
def fnExactDiameterOfRow : OpenClaim := { program := "ytbpcdgfcdahnlaadoor", sum := "2030c51fb86e84c1686bcae1b33b8cb48444a9e639ed381046584dde6a92959d", func := "loop.example/g01331/laws.FnExactDiameterOf", spec := "fnExactDiameterOf", unfollowed := true, recurses := true, named := ["math/bits.deBruijn64tab"], apart := false, laid := [("math/bits.deBruijn64tab", laid_math_bits_deBruijn64tab)] }
def FnExactDiameterOfSaid : Prop := fnExactDiameterOfRow.holds Tryd.pinned (OpenSpec.ofChange fnExactDiameterOfSpec)

/-- ITS FALSE NEIGHBOUR: 'it returns false'. Refute it at one input. -/
def fnExactDiameterOfWrong : ChangeSpec := { name := "fnExactDiameterOf", fn := fun _ => fun
  | [d] => { results := [.lit (.bool false)], args := [d] }
  | _ => none }
def FnExactDiameterOfWrongFalsely : Prop := fnExactDiameterOfRow.holds Tryd.pinned (OpenSpec.ofChange fnExactDiameterOfWrong)

/- THE SECOND FORM. 'bulk': how many values and letters a reading holds, each counted each time it is reached (what is shared counts as often as it is met; a slice's spare places count too). A statement '..UptoSaid' is the law's where the arguments, and the package variables that the reading takes, are together of bulk at most 1048576: NARROWER than '..Said'. Prove '..Said' where nothing that the law and all that it calls make is longer than what came in: it says more and counts as full. Else prove '..UptoSaid'. A law counts once. -/
mutual
def uptoBulk {H : Type} : DataW H → Nat
  | .lit (.string bytes) => bytes.length + 1
  | .lit _ => 1
  | .nil => 1
  | .ptr d => uptoBulk d + 1
  | .slice elems spare => uptoBulkAll elems + uptoBulkAll spare + 1
  | .agg parts => uptoBulkAll parts + 1
  | .iface _ d => uptoBulk d + 1
  | .map entries => uptoBulkEntries entries + 1
  | .held _ => 1
def uptoBulkAll {H : Type} : List (DataW H) → Nat
  | [] => 0
  | d :: r => uptoBulk d + uptoBulkAll r
def uptoBulkEntries {H : Type} : List (Lit × DataW H) → Nat
  | [] => 0
  | x :: r => uptoBulkEntry x + uptoBulkEntries r
def uptoBulkEntry {H : Type} : Lit × DataW H → Nat
  | (.string bytes, d) => bytes.length + uptoBulk d + 1
  | (_, d) => uptoBulk d + 1
 end
def uptoSmall : (H : Type) → List (DataW H) → Bool := fun _ ds => decide (uptoBulkAll ds ≤ 1048576)
def OpenSpec.upto (s : _root_.Go.ChangeSpec) : _root_.Go.OpenSpec := { _root_.Go.OpenSpec.ofChange s with cond := some uptoSmall }

/-- 'laws.FnExactDegreesOf', WHERE WHAT IT READS IS OF BULK AT MOST 1048576: true; the input reads as it did. -/
def fnExactDegreesOfUptoRow : OpenClaim := { program := "ytbpcdgfcdahnlaadoor", sum := "2030c51fb86e84c1686bcae1b33b8cb48444a9e639ed381046584dde6a92959d", func := "loop.example/g01331/laws.FnExactDegreesOf", spec := "fnExactDegreesOf", unfollowed := true, recurses := true, named := ["math/bits.deBruijn64tab"], apart := false, laid := [("math/bits.deBruijn64tab", laid_math_bits_deBruijn64tab)], narrowed := true }
def FnExactDegreesOfUptoSaid : Prop := fnExactDegreesOfUptoRow.holds Tryd.pinned (OpenSpec.upto fnExactDegreesOfSpec)

/-- 'laws.FnExactRegularDegree', WHERE WHAT IT READS IS OF BULK AT MOST 1048576: true; the input reads as it did. -/
def fnExactRegularDegreeUptoRow : OpenClaim := { program := "ytbpcdgfcdahnlaadoor", sum := "2030c51fb86e84c1686bcae1b33b8cb48444a9e639ed381046584dde6a92959d", func := "loop.example/g01331/laws.FnExactRegularDegree", spec := "fnExactRegularDegree", unfollowed := true, recurses := true, named := ["math/bits.deBruijn64tab"], apart := false, laid := [("math/bits.deBruijn64tab", laid_math_bits_deBruijn64tab)], narrowed := true }
def FnExactRegularDegreeUptoSaid : Prop := fnExactRegularDegreeUptoRow.holds Tryd.pinned (OpenSpec.upto fnExactRegularDegreeSpec)

/-- 'laws.FnExactPartsOf', WHERE WHAT IT READS IS OF BULK AT MOST 1048576: true; the input reads as it did. -/
def fnExactPartsOfUptoRow : OpenClaim := { program := "ytbpcdgfcdahnlaadoor", sum := "2030c51fb86e84c1686bcae1b33b8cb48444a9e639ed381046584dde6a92959d", func := "loop.example/g01331/laws.FnExactPartsOf", spec := "fnExactPartsOf", unfollowed := true, recurses := true, named := ["math/bits.deBruijn64tab"], apart := false, laid := [("math/bits.deBruijn64tab", laid_math_bits_deBruijn64tab)], narrowed := true }
def FnExactPartsOfUptoSaid : Prop := fnExactPartsOfUptoRow.holds Tryd.pinned (OpenSpec.upto fnExactPartsOfSpec)

/-- 'laws.FnExactIsConnected', WHERE WHAT IT READS IS OF BULK AT MOST 1048576: true; the input reads as it did. -/
def fnExactIsConnectedUptoRow : OpenClaim := { program := "ytbpcdgfcdahnlaadoor", sum := "2030c51fb86e84c1686bcae1b33b8cb48444a9e639ed381046584dde6a92959d", func := "loop.example/g01331/laws.FnExactIsConnected", spec := "fnExactIsConnected", unfollowed := true, recurses := true, named := ["math/bits.deBruijn64tab"], apart := false, laid := [("math/bits.deBruijn64tab", laid_math_bits_deBruijn64tab)], narrowed := true }
def FnExactIsConnectedUptoSaid : Prop := fnExactIsConnectedUptoRow.holds Tryd.pinned (OpenSpec.upto fnExactIsConnectedSpec)

/-- 'laws.FnExactIsBipartite', WHERE WHAT IT READS IS OF BULK AT MOST 1048576: true; the input reads as it did. -/
def fnExactIsBipartiteUptoRow : OpenClaim := { program := "ytbpcdgfcdahnlaadoor", sum := "2030c51fb86e84c1686bcae1b33b8cb48444a9e639ed381046584dde6a92959d", func := "loop.example/g01331/laws.FnExactIsBipartite", spec := "fnExactIsBipartite", unfollowed := true, recurses := true, named := ["math/bits.deBruijn64tab"], apart := false, laid := [("math/bits.deBruijn64tab", laid_math_bits_deBruijn64tab)], narrowed := true }
def FnExactIsBipartiteUptoSaid : Prop := fnExactIsBipartiteUptoRow.holds Tryd.pinned (OpenSpec.upto fnExactIsBipartiteSpec)

/-- 'laws.FnExactComplementOf', WHERE WHAT IT READS IS OF BULK AT MOST 1048576: true; the input reads as it did. -/
def fnExactComplementOfUptoRow : OpenClaim := { program := "ytbpcdgfcdahnlaadoor", sum := "2030c51fb86e84c1686bcae1b33b8cb48444a9e639ed381046584dde6a92959d", func := "loop.example/g01331/laws.FnExactComplementOf", spec := "fnExactComplementOf", unfollowed := true, recurses := true, named := ["math/bits.deBruijn64tab"], apart := false, laid := [("math/bits.deBruijn64tab", laid_math_bits_deBruijn64tab)], narrowed := true }
def FnExactComplementOfUptoSaid : Prop := fnExactComplementOfUptoRow.holds Tryd.pinned (OpenSpec.upto fnExactComplementOfSpec)

/-- 'laws.FnExactPartOn', WHERE WHAT IT READS IS OF BULK AT MOST 1048576: true; the input reads as it did. -/
def fnExactPartOnUptoRow : OpenClaim := { program := "ytbpcdgfcdahnlaadoor", sum := "2030c51fb86e84c1686bcae1b33b8cb48444a9e639ed381046584dde6a92959d", func := "loop.example/g01331/laws.FnExactPartOn", spec := "fnExactPartOn", unfollowed := true, recurses := true, named := ["math/bits.deBruijn64tab"], apart := false, laid := [("math/bits.deBruijn64tab", laid_math_bits_deBruijn64tab)], narrowed := true }
def FnExactPartOnUptoSaid : Prop := fnExactPartOnUptoRow.holds Tryd.pinned (OpenSpec.upto fnExactPartOnSpec)

/-- 'laws.FnExactPutBeside', WHERE WHAT IT READS IS OF BULK AT MOST 1048576: true; the input reads as it did. -/
def fnExactPutBesideUptoRow : OpenClaim := { program := "ytbpcdgfcdahnlaadoor", sum := "2030c51fb86e84c1686bcae1b33b8cb48444a9e639ed381046584dde6a92959d", func := "loop.example/g01331/laws.FnExactPutBeside", spec := "fnExactPutBeside", unfollowed := true, recurses := true, named := ["math/bits.deBruijn64tab"], apart := false, laid := [("math/bits.deBruijn64tab", laid_math_bits_deBruijn64tab)], narrowed := true }
def FnExactPutBesideUptoSaid : Prop := fnExactPutBesideUptoRow.holds Tryd.pinned (OpenSpec.upto fnExactPutBesideSpec)

/-- 'laws.FnExactDistanceOf', WHERE WHAT IT READS IS OF BULK AT MOST 1048576: true; the input reads as it did. -/
def fnExactDistanceOfUptoRow : OpenClaim := { program := "ytbpcdgfcdahnlaadoor", sum := "2030c51fb86e84c1686bcae1b33b8cb48444a9e639ed381046584dde6a92959d", func := "loop.example/g01331/laws.FnExactDistanceOf", spec := "fnExactDistanceOf", unfollowed := true, recurses := true, named := ["math/bits.deBruijn64tab"], apart := false, laid := [("math/bits.deBruijn64tab", laid_math_bits_deBruijn64tab)], narrowed := true }
def FnExactDistanceOfUptoSaid : Prop := fnExactDistanceOfUptoRow.holds Tryd.pinned (OpenSpec.upto fnExactDistanceOfSpec)

/-- 'laws.FnExactLevelsFrom', WHERE WHAT IT READS IS OF BULK AT MOST 1048576: true; the input reads as it did. -/
def fnExactLevelsFromUptoRow : OpenClaim := { program := "ytbpcdgfcdahnlaadoor", sum := "2030c51fb86e84c1686bcae1b33b8cb48444a9e639ed381046584dde6a92959d", func := "loop.example/g01331/laws.FnExactLevelsFrom", spec := "fnExactLevelsFrom", unfollowed := true, recurses := true, named := ["math/bits.deBruijn64tab"], apart := false, laid := [("math/bits.deBruijn64tab", laid_math_bits_deBruijn64tab)], narrowed := true }
def FnExactLevelsFromUptoSaid : Prop := fnExactLevelsFromUptoRow.holds Tryd.pinned (OpenSpec.upto fnExactLevelsFromSpec)

/-- 'laws.FnExactReachesOf', WHERE WHAT IT READS IS OF BULK AT MOST 1048576: true; the input reads as it did. -/
def fnExactReachesOfUptoRow : OpenClaim := { program := "ytbpcdgfcdahnlaadoor", sum := "2030c51fb86e84c1686bcae1b33b8cb48444a9e639ed381046584dde6a92959d", func := "loop.example/g01331/laws.FnExactReachesOf", spec := "fnExactReachesOf", unfollowed := true, recurses := true, named := ["math/bits.deBruijn64tab"], apart := false, laid := [("math/bits.deBruijn64tab", laid_math_bits_deBruijn64tab)], narrowed := true }
def FnExactReachesOfUptoSaid : Prop := fnExactReachesOfUptoRow.holds Tryd.pinned (OpenSpec.upto fnExactReachesOfSpec)

/-- 'laws.FnExactDiameterOf', WHERE WHAT IT READS IS OF BULK AT MOST 1048576: true; the input reads as it did. -/
def fnExactDiameterOfUptoRow : OpenClaim := { program := "ytbpcdgfcdahnlaadoor", sum := "2030c51fb86e84c1686bcae1b33b8cb48444a9e639ed381046584dde6a92959d", func := "loop.example/g01331/laws.FnExactDiameterOf", spec := "fnExactDiameterOf", unfollowed := true, recurses := true, named := ["math/bits.deBruijn64tab"], apart := false, laid := [("math/bits.deBruijn64tab", laid_math_bits_deBruijn64tab)], narrowed := true }
def FnExactDiameterOfUptoSaid : Prop := fnExactDiameterOfUptoRow.holds Tryd.pinned (OpenSpec.upto fnExactDiameterOfSpec)

end Rows
end Go.Proofs.YtbpcdgfcdahnlaaDoor
