/-
  NARROWER THAN 'FOR EVERY INPUT', by the rows' own cells (each row's printed sentence says how): FnExactArcsOf: ifaces, laid · FnExactLineDigraph: ifaces, laid · FnExactReverseDigraph: ifaces, laid · FnExactDegreeOfDigraph: ifaces, laid · FnExactIsStrong: ifaces, laid · FnExactDiameterOfDigraph: ifaces, laid · FnExactCountWalks: ifaces, laid · FnExactIsMooreDigraph: ifaces, laid · FnExactIsDesk: ifaces, laid.
  DERIVED. THE GIVEN ROWS OF THIS SEAT. 9 by the template 'for every input the law returns true; each argument reads behind the call as it read before'; 0 by the template 'total and deterministic' (their statements: YtbncfhmpkoaffaaDoorTotals.lean).
  GIVEN WITH THE SEED: the statements are not yours to turn. If you find one false, say at which input.
  Laid BY PROGRAM, IN A SANDBOX (cutbox-rows.mjs): the forced cells as the released guide's own fill.sh prints them over the translation 42599f3465b9cbbd… (all of the seat's roots in one cut). By AI agents, Wed Nov 11 2026. No macro, syntax, notation, axiom, sorry.
-/
import Derived.Test.YtbncfhmpkoaffaaDoorChecked
import GoSem.Claim
import GoSem.ClaimJoined
import GoSem.ClaimMapViews
import Derived.JoinedTies
import Derived.KernelRfl
namespace Go.Proofs.YtbncfhmpkoaffaaDoor
/- THE CELL 'sum', in the pinned program and in every row, IS THE sha256 OF THE DUMP (.gsa) THAT YtbncfhmpkoaffaaDoorProg.lean LOADS. Nothing in Lean hashes anything: it is a label: what it is worth is what the hold of that sum in a sandbox is worth. -/
noncomputable def Tryd.pinned : Pinned := { name := "ytbncfhmpkoaffaadoor", sum := "42599f3465b9cbbd035b7f4315c00a97433961045dbf8ebdf8f9447584a7d121", checked := Tryd.checked }
namespace Rows
def none {H : Type} : Left H := { results := [], args := [] }

/- WHAT THE LISTED PACKAGE-LEVEL VARIABLES READ AS WHEN THE CALL BEGINS. Each datum BY PROGRAM (the guide's laid-datum.mjs) off the statement by which the dump's own 'gosem.cut.vars' lays the variable. In a bare row this is a premise. The card (YtbncfhmpkoaffaaDoorCards.lean) ties it to the program's text. -/
def laid_math_bits_deBruijn64tab {H : Type} : DataW H := .agg [.lit (.int .u8 0), .lit (.int .u8 1), .lit (.int .u8 56), .lit (.int .u8 2), .lit (.int .u8 57), .lit (.int .u8 49), .lit (.int .u8 28), .lit (.int .u8 3), .lit (.int .u8 61), .lit (.int .u8 58), .lit (.int .u8 42), .lit (.int .u8 50), .lit (.int .u8 38), .lit (.int .u8 29), .lit (.int .u8 17), .lit (.int .u8 4), .lit (.int .u8 62), .lit (.int .u8 47), .lit (.int .u8 59), .lit (.int .u8 36), .lit (.int .u8 45), .lit (.int .u8 43), .lit (.int .u8 51), .lit (.int .u8 22), .lit (.int .u8 53), .lit (.int .u8 39), .lit (.int .u8 33), .lit (.int .u8 30), .lit (.int .u8 24), .lit (.int .u8 18), .lit (.int .u8 12), .lit (.int .u8 5), .lit (.int .u8 63), .lit (.int .u8 55), .lit (.int .u8 48), .lit (.int .u8 27), .lit (.int .u8 60), .lit (.int .u8 41), .lit (.int .u8 37), .lit (.int .u8 16), .lit (.int .u8 46), .lit (.int .u8 35), .lit (.int .u8 44), .lit (.int .u8 21), .lit (.int .u8 52), .lit (.int .u8 32), .lit (.int .u8 23), .lit (.int .u8 11), .lit (.int .u8 54), .lit (.int .u8 26), .lit (.int .u8 40), .lit (.int .u8 15), .lit (.int .u8 34), .lit (.int .u8 20), .lit (.int .u8 31), .lit (.int .u8 10), .lit (.int .u8 25), .lit (.int .u8 14), .lit (.int .u8 19), .lit (.int .u8 9), .lit (.int .u8 13), .lit (.int .u8 8), .lit (.int .u8 7), .lit (.int .u8 6)]
def laid_loop_example_g01331_impl_errNoDigraph {H : Type} : DataW H := .iface "*errors.errorString" (.ptr (.agg [.lit (.string [116, 104, 101, 32, 114, 111, 119, 115, 32, 97, 114, 101, 32, 110, 111, 116, 32, 116, 104, 111, 115, 101, 32, 111, 102, 32, 97, 32, 100, 105, 103, 114, 97, 112, 104])]))

/-- 'laws.FnExactArcsOf': WHATEVER THE INPUT: true; the input reads as it did. -/
def fnExactArcsOfSpec : ChangeSpec := { name := "fnExactArcsOf", vars := ["loop.example/g01331/impl.errNoDigraph"], fn := fun _ => fun
  | [d, g1] => { results := [.lit (.bool true)], args := [d], vars := [g1] }
  | _ => none }
def fnExactArcsOfRow : OpenClaim := { program := "ytbncfhmpkoaffaadoor", sum := "42599f3465b9cbbd035b7f4315c00a97433961045dbf8ebdf8f9447584a7d121", func := "loop.example/g01331/laws.FnExactArcsOf", spec := "fnExactArcsOf", unfollowed := true, recurses := true, named := ["loop.example/g01331/impl.errNoDigraph", "math/bits.deBruijn64tab"], ifaces := true, apart := false, laid := [("math/bits.deBruijn64tab", laid_math_bits_deBruijn64tab), ("loop.example/g01331/impl.errNoDigraph", laid_loop_example_g01331_impl_errNoDigraph)] }
def FnExactArcsOfSaid : Prop := fnExactArcsOfRow.holds Tryd.pinned (OpenSpec.ofChange fnExactArcsOfSpec)

/-- ITS FALSE NEIGHBOUR: 'it returns false'. Refute it at one input. -/
def fnExactArcsOfWrong : ChangeSpec := { name := "fnExactArcsOf", vars := ["loop.example/g01331/impl.errNoDigraph"], fn := fun _ => fun
  | [d, g1] => { results := [.lit (.bool false)], args := [d], vars := [g1] }
  | _ => none }
def FnExactArcsOfWrongFalsely : Prop := fnExactArcsOfRow.holds Tryd.pinned (OpenSpec.ofChange fnExactArcsOfWrong)

/-- 'laws.FnExactLineDigraph': WHATEVER THE INPUT: true; the input reads as it did. -/
def fnExactLineDigraphSpec : ChangeSpec := { name := "fnExactLineDigraph", vars := ["loop.example/g01331/impl.errNoDigraph"], fn := fun _ => fun
  | [d, g1] => { results := [.lit (.bool true)], args := [d], vars := [g1] }
  | _ => none }
def fnExactLineDigraphRow : OpenClaim := { program := "ytbncfhmpkoaffaadoor", sum := "42599f3465b9cbbd035b7f4315c00a97433961045dbf8ebdf8f9447584a7d121", func := "loop.example/g01331/laws.FnExactLineDigraph", spec := "fnExactLineDigraph", unfollowed := true, recurses := true, named := ["loop.example/g01331/impl.errNoDigraph", "math/bits.deBruijn64tab"], ifaces := true, apart := false, laid := [("math/bits.deBruijn64tab", laid_math_bits_deBruijn64tab), ("loop.example/g01331/impl.errNoDigraph", laid_loop_example_g01331_impl_errNoDigraph)] }
def FnExactLineDigraphSaid : Prop := fnExactLineDigraphRow.holds Tryd.pinned (OpenSpec.ofChange fnExactLineDigraphSpec)

/-- ITS FALSE NEIGHBOUR: 'it returns false'. Refute it at one input. -/
def fnExactLineDigraphWrong : ChangeSpec := { name := "fnExactLineDigraph", vars := ["loop.example/g01331/impl.errNoDigraph"], fn := fun _ => fun
  | [d, g1] => { results := [.lit (.bool false)], args := [d], vars := [g1] }
  | _ => none }
def FnExactLineDigraphWrongFalsely : Prop := fnExactLineDigraphRow.holds Tryd.pinned (OpenSpec.ofChange fnExactLineDigraphWrong)

/-- 'laws.FnExactReverseDigraph': WHATEVER THE INPUT: true; the input reads as it did. -/
def fnExactReverseDigraphSpec : ChangeSpec := { name := "fnExactReverseDigraph", vars := ["loop.example/g01331/impl.errNoDigraph"], fn := fun _ => fun
  | [d, g1] => { results := [.lit (.bool true)], args := [d], vars := [g1] }
  | _ => none }
def fnExactReverseDigraphRow : OpenClaim := { program := "ytbncfhmpkoaffaadoor", sum := "42599f3465b9cbbd035b7f4315c00a97433961045dbf8ebdf8f9447584a7d121", func := "loop.example/g01331/laws.FnExactReverseDigraph", spec := "fnExactReverseDigraph", unfollowed := true, recurses := true, named := ["loop.example/g01331/impl.errNoDigraph", "math/bits.deBruijn64tab"], ifaces := true, apart := false, laid := [("math/bits.deBruijn64tab", laid_math_bits_deBruijn64tab), ("loop.example/g01331/impl.errNoDigraph", laid_loop_example_g01331_impl_errNoDigraph)] }
def FnExactReverseDigraphSaid : Prop := fnExactReverseDigraphRow.holds Tryd.pinned (OpenSpec.ofChange fnExactReverseDigraphSpec)

/-- ITS FALSE NEIGHBOUR: 'it returns false'. Refute it at one input. -/
def fnExactReverseDigraphWrong : ChangeSpec := { name := "fnExactReverseDigraph", vars := ["loop.example/g01331/impl.errNoDigraph"], fn := fun _ => fun
  | [d, g1] => { results := [.lit (.bool false)], args := [d], vars := [g1] }
  | _ => none }
def FnExactReverseDigraphWrongFalsely : Prop := fnExactReverseDigraphRow.holds Tryd.pinned (OpenSpec.ofChange fnExactReverseDigraphWrong)

/-- 'laws.FnExactDegreeOfDigraph': WHATEVER THE INPUT: true; the input reads as it did. -/
def fnExactDegreeOfDigraphSpec : ChangeSpec := { name := "fnExactDegreeOfDigraph", vars := ["loop.example/g01331/impl.errNoDigraph"], fn := fun _ => fun
  | [d, g1] => { results := [.lit (.bool true)], args := [d], vars := [g1] }
  | _ => none }
def fnExactDegreeOfDigraphRow : OpenClaim := { program := "ytbncfhmpkoaffaadoor", sum := "42599f3465b9cbbd035b7f4315c00a97433961045dbf8ebdf8f9447584a7d121", func := "loop.example/g01331/laws.FnExactDegreeOfDigraph", spec := "fnExactDegreeOfDigraph", unfollowed := true, recurses := true, named := ["loop.example/g01331/impl.errNoDigraph", "math/bits.deBruijn64tab"], ifaces := true, apart := false, laid := [("math/bits.deBruijn64tab", laid_math_bits_deBruijn64tab), ("loop.example/g01331/impl.errNoDigraph", laid_loop_example_g01331_impl_errNoDigraph)] }
def FnExactDegreeOfDigraphSaid : Prop := fnExactDegreeOfDigraphRow.holds Tryd.pinned (OpenSpec.ofChange fnExactDegreeOfDigraphSpec)

/-- ITS FALSE NEIGHBOUR: 'it returns false'. Refute it at one input. -/
def fnExactDegreeOfDigraphWrong : ChangeSpec := { name := "fnExactDegreeOfDigraph", vars := ["loop.example/g01331/impl.errNoDigraph"], fn := fun _ => fun
  | [d, g1] => { results := [.lit (.bool false)], args := [d], vars := [g1] }
  | _ => none }
def FnExactDegreeOfDigraphWrongFalsely : Prop := fnExactDegreeOfDigraphRow.holds Tryd.pinned (OpenSpec.ofChange fnExactDegreeOfDigraphWrong)

/-- 'laws.FnExactIsStrong': WHATEVER THE INPUT: true; the input reads as it did. -/
def fnExactIsStrongSpec : ChangeSpec := { name := "fnExactIsStrong", vars := ["loop.example/g01331/impl.errNoDigraph"], fn := fun _ => fun
  | [d, g1] => { results := [.lit (.bool true)], args := [d], vars := [g1] }
  | _ => none }
def fnExactIsStrongRow : OpenClaim := { program := "ytbncfhmpkoaffaadoor", sum := "42599f3465b9cbbd035b7f4315c00a97433961045dbf8ebdf8f9447584a7d121", func := "loop.example/g01331/laws.FnExactIsStrong", spec := "fnExactIsStrong", unfollowed := true, recurses := true, named := ["loop.example/g01331/impl.errNoDigraph", "math/bits.deBruijn64tab"], ifaces := true, apart := false, laid := [("math/bits.deBruijn64tab", laid_math_bits_deBruijn64tab), ("loop.example/g01331/impl.errNoDigraph", laid_loop_example_g01331_impl_errNoDigraph)] }
def FnExactIsStrongSaid : Prop := fnExactIsStrongRow.holds Tryd.pinned (OpenSpec.ofChange fnExactIsStrongSpec)

/-- ITS FALSE NEIGHBOUR: 'it returns false'. Refute it at one input. -/
def fnExactIsStrongWrong : ChangeSpec := { name := "fnExactIsStrong", vars := ["loop.example/g01331/impl.errNoDigraph"], fn := fun _ => fun
  | [d, g1] => { results := [.lit (.bool false)], args := [d], vars := [g1] }
  | _ => none }
def FnExactIsStrongWrongFalsely : Prop := fnExactIsStrongRow.holds Tryd.pinned (OpenSpec.ofChange fnExactIsStrongWrong)

/-- 'laws.FnExactDiameterOfDigraph': WHATEVER THE INPUT: true; the input reads as it did. -/
def fnExactDiameterOfDigraphSpec : ChangeSpec := { name := "fnExactDiameterOfDigraph", vars := ["loop.example/g01331/impl.errNoDigraph"], fn := fun _ => fun
  | [d, g1] => { results := [.lit (.bool true)], args := [d], vars := [g1] }
  | _ => none }
def fnExactDiameterOfDigraphRow : OpenClaim := { program := "ytbncfhmpkoaffaadoor", sum := "42599f3465b9cbbd035b7f4315c00a97433961045dbf8ebdf8f9447584a7d121", func := "loop.example/g01331/laws.FnExactDiameterOfDigraph", spec := "fnExactDiameterOfDigraph", unfollowed := true, recurses := true, named := ["loop.example/g01331/impl.errNoDigraph", "math/bits.deBruijn64tab"], ifaces := true, apart := false, laid := [("math/bits.deBruijn64tab", laid_math_bits_deBruijn64tab), ("loop.example/g01331/impl.errNoDigraph", laid_loop_example_g01331_impl_errNoDigraph)] }
def FnExactDiameterOfDigraphSaid : Prop := fnExactDiameterOfDigraphRow.holds Tryd.pinned (OpenSpec.ofChange fnExactDiameterOfDigraphSpec)

/-- ITS FALSE NEIGHBOUR: 'it returns false'. Refute it at one input. -/
def fnExactDiameterOfDigraphWrong : ChangeSpec := { name := "fnExactDiameterOfDigraph", vars := ["loop.example/g01331/impl.errNoDigraph"], fn := fun _ => fun
  | [d, g1] => { results := [.lit (.bool false)], args := [d], vars := [g1] }
  | _ => none }
def FnExactDiameterOfDigraphWrongFalsely : Prop := fnExactDiameterOfDigraphRow.holds Tryd.pinned (OpenSpec.ofChange fnExactDiameterOfDigraphWrong)

/-- 'laws.FnExactCountWalks': WHATEVER THE INPUT: true; the input reads as it did. -/
def fnExactCountWalksSpec : ChangeSpec := { name := "fnExactCountWalks", vars := ["loop.example/g01331/impl.errNoDigraph"], fn := fun _ => fun
  | [d1, d2, d3, d4, g1] => { results := [.lit (.bool true)], args := [d1, d2, d3, d4], vars := [g1] }
  | _ => none }
def fnExactCountWalksRow : OpenClaim := { program := "ytbncfhmpkoaffaadoor", sum := "42599f3465b9cbbd035b7f4315c00a97433961045dbf8ebdf8f9447584a7d121", func := "loop.example/g01331/laws.FnExactCountWalks", spec := "fnExactCountWalks", unfollowed := true, recurses := true, named := ["loop.example/g01331/impl.errNoDigraph", "math/bits.deBruijn64tab"], ifaces := true, apart := false, laid := [("math/bits.deBruijn64tab", laid_math_bits_deBruijn64tab), ("loop.example/g01331/impl.errNoDigraph", laid_loop_example_g01331_impl_errNoDigraph)] }
def FnExactCountWalksSaid : Prop := fnExactCountWalksRow.holds Tryd.pinned (OpenSpec.ofChange fnExactCountWalksSpec)

/-- ITS FALSE NEIGHBOUR: 'it returns false'. Refute it at one input. -/
def fnExactCountWalksWrong : ChangeSpec := { name := "fnExactCountWalks", vars := ["loop.example/g01331/impl.errNoDigraph"], fn := fun _ => fun
  | [d1, d2, d3, d4, g1] => { results := [.lit (.bool false)], args := [d1, d2, d3, d4], vars := [g1] }
  | _ => none }
def FnExactCountWalksWrongFalsely : Prop := fnExactCountWalksRow.holds Tryd.pinned (OpenSpec.ofChange fnExactCountWalksWrong)

/-- 'laws.FnExactIsMooreDigraph': WHATEVER THE INPUT: true; the input reads as it did. -/
def fnExactIsMooreDigraphSpec : ChangeSpec := { name := "fnExactIsMooreDigraph", vars := ["loop.example/g01331/impl.errNoDigraph"], fn := fun _ => fun
  | [d, g1] => { results := [.lit (.bool true)], args := [d], vars := [g1] }
  | _ => none }
def fnExactIsMooreDigraphRow : OpenClaim := { program := "ytbncfhmpkoaffaadoor", sum := "42599f3465b9cbbd035b7f4315c00a97433961045dbf8ebdf8f9447584a7d121", func := "loop.example/g01331/laws.FnExactIsMooreDigraph", spec := "fnExactIsMooreDigraph", unfollowed := true, recurses := true, named := ["loop.example/g01331/impl.errNoDigraph", "math/bits.deBruijn64tab"], ifaces := true, apart := false, laid := [("math/bits.deBruijn64tab", laid_math_bits_deBruijn64tab), ("loop.example/g01331/impl.errNoDigraph", laid_loop_example_g01331_impl_errNoDigraph)] }
def FnExactIsMooreDigraphSaid : Prop := fnExactIsMooreDigraphRow.holds Tryd.pinned (OpenSpec.ofChange fnExactIsMooreDigraphSpec)

/-- ITS FALSE NEIGHBOUR: 'it returns false'. Refute it at one input. -/
def fnExactIsMooreDigraphWrong : ChangeSpec := { name := "fnExactIsMooreDigraph", vars := ["loop.example/g01331/impl.errNoDigraph"], fn := fun _ => fun
  | [d, g1] => { results := [.lit (.bool false)], args := [d], vars := [g1] }
  | _ => none }
def FnExactIsMooreDigraphWrongFalsely : Prop := fnExactIsMooreDigraphRow.holds Tryd.pinned (OpenSpec.ofChange fnExactIsMooreDigraphWrong)

/-- 'laws.FnExactIsDesk': WHATEVER THE INPUT: true; the input reads as it did. -/
def fnExactIsDeskSpec : ChangeSpec := { name := "fnExactIsDesk", vars := ["loop.example/g01331/impl.errNoDigraph"], fn := fun _ => fun
  | [d, g1] => { results := [.lit (.bool true)], args := [d], vars := [g1] }
  | _ => none }
def fnExactIsDeskRow : OpenClaim := { program := "ytbncfhmpkoaffaadoor", sum := "42599f3465b9cbbd035b7f4315c00a97433961045dbf8ebdf8f9447584a7d121", func := "loop.example/g01331/laws.FnExactIsDesk", spec := "fnExactIsDesk", unfollowed := true, recurses := true, named := ["math/bits.deBruijn64tab", "loop.example/g01331/impl.errNoDigraph"], ifaces := true, apart := false, laid := [("math/bits.deBruijn64tab", laid_math_bits_deBruijn64tab), ("loop.example/g01331/impl.errNoDigraph", laid_loop_example_g01331_impl_errNoDigraph)] }
def FnExactIsDeskSaid : Prop := fnExactIsDeskRow.holds Tryd.pinned (OpenSpec.ofChange fnExactIsDeskSpec)

/-- ITS FALSE NEIGHBOUR: 'it returns false'. Refute it at one input. -/
def fnExactIsDeskWrong : ChangeSpec := { name := "fnExactIsDesk", vars := ["loop.example/g01331/impl.errNoDigraph"], fn := fun _ => fun
  | [d, g1] => { results := [.lit (.bool false)], args := [d], vars := [g1] }
  | _ => none }
def FnExactIsDeskWrongFalsely : Prop := fnExactIsDeskRow.holds Tryd.pinned (OpenSpec.ofChange fnExactIsDeskWrong)

/- THE SECOND FORM. 'bulk': how many values and letters a reading holds, each counted each time it is reached (what is shared counts as often as it is met; a slice's spare places count too). A statement '..UptoSaid' is the law's where the arguments, and the package variables that the reading takes, are together of bulk at most 1048576: NARROWER than '..Said'. Prove '..Said' where nothing that the law and all that it calls make is longer than what came in: it says more and counts as full. Else prove '..UptoSaid'. A law counts once. -/
mutual
def uptoBulk {H : Type} : DataW H → Nat
  | .lit (.string bytes) => bytes.length + 1
  | .lit _ => 1
  | .nil => 1
  | .ptr d => uptoBulk d + 1
  | .slice elems spare => uptoBulkAll elems + uptoBulkAll spare + 1
  | .agg parts => uptoBulkAll parts + 1
  | .iface _ d => uptoBulk d + 1
  | .map entries => uptoBulkEntries entries + 1
  | .held _ => 1
def uptoBulkAll {H : Type} : List (DataW H) → Nat
  | [] => 0
  | d :: r => uptoBulk d + uptoBulkAll r
def uptoBulkEntries {H : Type} : List (Lit × DataW H) → Nat
  | [] => 0
  | x :: r => uptoBulkEntry x + uptoBulkEntries r
def uptoBulkEntry {H : Type} : Lit × DataW H → Nat
  | (.string bytes, d) => bytes.length + uptoBulk d + 1
  | (_, d) => uptoBulk d + 1
 end
def uptoSmall : (H : Type) → List (DataW H) → Bool := fun _ ds => decide (uptoBulkAll ds ≤ 1048576)
def OpenSpec.upto (s : _root_.Go.ChangeSpec) : _root_.Go.OpenSpec := { _root_.Go.OpenSpec.ofChange s with cond := some uptoSmall }

/-- 'laws.FnExactArcsOf', WHERE WHAT IT READS IS OF BULK AT MOST 1048576: true; the input reads as it did. -/
def fnExactArcsOfUptoRow : OpenClaim := { program := "ytbncfhmpkoaffaadoor", sum := "42599f3465b9cbbd035b7f4315c00a97433961045dbf8ebdf8f9447584a7d121", func := "loop.example/g01331/laws.FnExactArcsOf", spec := "fnExactArcsOf", unfollowed := true, recurses := true, named := ["loop.example/g01331/impl.errNoDigraph", "math/bits.deBruijn64tab"], ifaces := true, apart := false, laid := [("math/bits.deBruijn64tab", laid_math_bits_deBruijn64tab), ("loop.example/g01331/impl.errNoDigraph", laid_loop_example_g01331_impl_errNoDigraph)], narrowed := true }
def FnExactArcsOfUptoSaid : Prop := fnExactArcsOfUptoRow.holds Tryd.pinned (OpenSpec.upto fnExactArcsOfSpec)

/-- 'laws.FnExactLineDigraph', WHERE WHAT IT READS IS OF BULK AT MOST 1048576: true; the input reads as it did. -/
def fnExactLineDigraphUptoRow : OpenClaim := { program := "ytbncfhmpkoaffaadoor", sum := "42599f3465b9cbbd035b7f4315c00a97433961045dbf8ebdf8f9447584a7d121", func := "loop.example/g01331/laws.FnExactLineDigraph", spec := "fnExactLineDigraph", unfollowed := true, recurses := true, named := ["loop.example/g01331/impl.errNoDigraph", "math/bits.deBruijn64tab"], ifaces := true, apart := false, laid := [("math/bits.deBruijn64tab", laid_math_bits_deBruijn64tab), ("loop.example/g01331/impl.errNoDigraph", laid_loop_example_g01331_impl_errNoDigraph)], narrowed := true }
def FnExactLineDigraphUptoSaid : Prop := fnExactLineDigraphUptoRow.holds Tryd.pinned (OpenSpec.upto fnExactLineDigraphSpec)

/-- 'laws.FnExactReverseDigraph', WHERE WHAT IT READS IS OF BULK AT MOST 1048576: true; the input reads as it did. -/
def fnExactReverseDigraphUptoRow : OpenClaim := { program := "ytbncfhmpkoaffaadoor", sum := "42599f3465b9cbbd035b7f4315c00a97433961045dbf8ebdf8f9447584a7d121", func := "loop.example/g01331/laws.FnExactReverseDigraph", spec := "fnExactReverseDigraph", unfollowed := true, recurses := true, named := ["loop.example/g01331/impl.errNoDigraph", "math/bits.deBruijn64tab"], ifaces := true, apart := false, laid := [("math/bits.deBruijn64tab", laid_math_bits_deBruijn64tab), ("loop.example/g01331/impl.errNoDigraph", laid_loop_example_g01331_impl_errNoDigraph)], narrowed := true }
def FnExactReverseDigraphUptoSaid : Prop := fnExactReverseDigraphUptoRow.holds Tryd.pinned (OpenSpec.upto fnExactReverseDigraphSpec)

/-- 'laws.FnExactDegreeOfDigraph', WHERE WHAT IT READS IS OF BULK AT MOST 1048576: true; the input reads as it did. -/
def fnExactDegreeOfDigraphUptoRow : OpenClaim := { program := "ytbncfhmpkoaffaadoor", sum := "42599f3465b9cbbd035b7f4315c00a97433961045dbf8ebdf8f9447584a7d121", func := "loop.example/g01331/laws.FnExactDegreeOfDigraph", spec := "fnExactDegreeOfDigraph", unfollowed := true, recurses := true, named := ["loop.example/g01331/impl.errNoDigraph", "math/bits.deBruijn64tab"], ifaces := true, apart := false, laid := [("math/bits.deBruijn64tab", laid_math_bits_deBruijn64tab), ("loop.example/g01331/impl.errNoDigraph", laid_loop_example_g01331_impl_errNoDigraph)], narrowed := true }
def FnExactDegreeOfDigraphUptoSaid : Prop := fnExactDegreeOfDigraphUptoRow.holds Tryd.pinned (OpenSpec.upto fnExactDegreeOfDigraphSpec)

/-- 'laws.FnExactIsStrong', WHERE WHAT IT READS IS OF BULK AT MOST 1048576: true; the input reads as it did. -/
def fnExactIsStrongUptoRow : OpenClaim := { program := "ytbncfhmpkoaffaadoor", sum := "42599f3465b9cbbd035b7f4315c00a97433961045dbf8ebdf8f9447584a7d121", func := "loop.example/g01331/laws.FnExactIsStrong", spec := "fnExactIsStrong", unfollowed := true, recurses := true, named := ["loop.example/g01331/impl.errNoDigraph", "math/bits.deBruijn64tab"], ifaces := true, apart := false, laid := [("math/bits.deBruijn64tab", laid_math_bits_deBruijn64tab), ("loop.example/g01331/impl.errNoDigraph", laid_loop_example_g01331_impl_errNoDigraph)], narrowed := true }
def FnExactIsStrongUptoSaid : Prop := fnExactIsStrongUptoRow.holds Tryd.pinned (OpenSpec.upto fnExactIsStrongSpec)

/-- 'laws.FnExactDiameterOfDigraph', WHERE WHAT IT READS IS OF BULK AT MOST 1048576: true; the input reads as it did. -/
def fnExactDiameterOfDigraphUptoRow : OpenClaim := { program := "ytbncfhmpkoaffaadoor", sum := "42599f3465b9cbbd035b7f4315c00a97433961045dbf8ebdf8f9447584a7d121", func := "loop.example/g01331/laws.FnExactDiameterOfDigraph", spec := "fnExactDiameterOfDigraph", unfollowed := true, recurses := true, named := ["loop.example/g01331/impl.errNoDigraph", "math/bits.deBruijn64tab"], ifaces := true, apart := false, laid := [("math/bits.deBruijn64tab", laid_math_bits_deBruijn64tab), ("loop.example/g01331/impl.errNoDigraph", laid_loop_example_g01331_impl_errNoDigraph)], narrowed := true }
def FnExactDiameterOfDigraphUptoSaid : Prop := fnExactDiameterOfDigraphUptoRow.holds Tryd.pinned (OpenSpec.upto fnExactDiameterOfDigraphSpec)

/-- 'laws.FnExactCountWalks', WHERE WHAT IT READS IS OF BULK AT MOST 1048576: true; the input reads as it did. -/
def fnExactCountWalksUptoRow : OpenClaim := { program := "ytbncfhmpkoaffaadoor", sum := "42599f3465b9cbbd035b7f4315c00a97433961045dbf8ebdf8f9447584a7d121", func := "loop.example/g01331/laws.FnExactCountWalks", spec := "fnExactCountWalks", unfollowed := true, recurses := true, named := ["loop.example/g01331/impl.errNoDigraph", "math/bits.deBruijn64tab"], ifaces := true, apart := false, laid := [("math/bits.deBruijn64tab", laid_math_bits_deBruijn64tab), ("loop.example/g01331/impl.errNoDigraph", laid_loop_example_g01331_impl_errNoDigraph)], narrowed := true }
def FnExactCountWalksUptoSaid : Prop := fnExactCountWalksUptoRow.holds Tryd.pinned (OpenSpec.upto fnExactCountWalksSpec)

/-- 'laws.FnExactIsMooreDigraph', WHERE WHAT IT READS IS OF BULK AT MOST 1048576: true; the input reads as it did. -/
def fnExactIsMooreDigraphUptoRow : OpenClaim := { program := "ytbncfhmpkoaffaadoor", sum := "42599f3465b9cbbd035b7f4315c00a97433961045dbf8ebdf8f9447584a7d121", func := "loop.example/g01331/laws.FnExactIsMooreDigraph", spec := "fnExactIsMooreDigraph", unfollowed := true, recurses := true, named := ["loop.example/g01331/impl.errNoDigraph", "math/bits.deBruijn64tab"], ifaces := true, apart := false, laid := [("math/bits.deBruijn64tab", laid_math_bits_deBruijn64tab), ("loop.example/g01331/impl.errNoDigraph", laid_loop_example_g01331_impl_errNoDigraph)], narrowed := true }
def FnExactIsMooreDigraphUptoSaid : Prop := fnExactIsMooreDigraphUptoRow.holds Tryd.pinned (OpenSpec.upto fnExactIsMooreDigraphSpec)

/-- 'laws.FnExactIsDesk', WHERE WHAT IT READS IS OF BULK AT MOST 1048576: true; the input reads as it did. -/
def fnExactIsDeskUptoRow : OpenClaim := { program := "ytbncfhmpkoaffaadoor", sum := "42599f3465b9cbbd035b7f4315c00a97433961045dbf8ebdf8f9447584a7d121", func := "loop.example/g01331/laws.FnExactIsDesk", spec := "fnExactIsDesk", unfollowed := true, recurses := true, named := ["math/bits.deBruijn64tab", "loop.example/g01331/impl.errNoDigraph"], ifaces := true, apart := false, laid := [("math/bits.deBruijn64tab", laid_math_bits_deBruijn64tab), ("loop.example/g01331/impl.errNoDigraph", laid_loop_example_g01331_impl_errNoDigraph)], narrowed := true }
def FnExactIsDeskUptoSaid : Prop := fnExactIsDeskUptoRow.holds Tryd.pinned (OpenSpec.upto fnExactIsDeskSpec)

end Rows
end Go.Proofs.YtbncfhmpkoaffaaDoor
