/-
  NARROWER THAN 'FOR EVERY INPUT', by the rows' own cells (each row's printed sentence says how): FnExactWalkSum: ifaces, laid · FnExactIsReducedWalk: ifaces, laid · FnExactLiftedWalk: ifaces, laid.
  DERIVED. THE GIVEN ROWS OF THIS SEAT. 3 by the template 'for every input the law returns true; each argument reads behind the call as it read before'; 0 by the template 'total and deterministic' (their statements: YthonkphjahomeaaDoorTotals.lean).
  GIVEN WITH THE SEED: the statements are not yours to turn. If you find one false, say at which input.
  Laid BY PROGRAM, IN A SANDBOX (cutbox-rows.mjs): the forced cells as the released guide's own fill.sh prints them over the translation 37c9c918bf7b76f4… (all of the seat's roots in one cut). By AI agents, Wed Nov 11 2026. No macro, syntax, notation, axiom, sorry.
-/
import Derived.Test.YthonkphjahomeaaDoorChecked
import GoSem.Claim
import GoSem.ClaimJoined
import GoSem.ClaimMapViews
import Derived.JoinedTies
import Derived.KernelRfl
namespace Go.Proofs.YthonkphjahomeaaDoor
/- THE CELL 'sum', in the pinned program and in every row, IS THE sha256 OF THE DUMP (.gsa) THAT YthonkphjahomeaaDoorProg.lean LOADS. Nothing in Lean hashes anything: it is a label: what it is worth is what the hold of that sum in a sandbox is worth. -/
noncomputable def Tryd.pinned : Pinned := { name := "ythonkphjahomeaadoor", sum := "37c9c918bf7b76f4f7aef895289917aba9c5116821918ade6e2774ce67538a5f", checked := Tryd.checked }
namespace Rows
def none {H : Type} : Left H := { results := [], args := [] }

/- WHAT THE LISTED PACKAGE-LEVEL VARIABLES READ AS WHEN THE CALL BEGINS. Each datum BY PROGRAM (the guide's laid-datum.mjs) off the statement by which the dump's own 'gosem.cut.vars' lays the variable. In a bare row this is a premise. The card (YthonkphjahomeaaDoorCards.lean) ties it to the program's text. -/
def laid_loop_example_g01331_impl_errNoWalk {H : Type} : DataW H := .iface "*errors.errorString" (.ptr (.agg [.lit (.string [97, 32, 115, 116, 101, 112, 32, 100, 111, 101, 115, 32, 110, 111, 116, 32, 98, 101, 103, 105, 110, 32, 119, 104, 101, 114, 101, 32, 116, 104, 101, 32, 111, 110, 101, 32, 98, 101, 102, 111, 114, 101, 32, 101, 110, 100, 115])]))

/-- 'laws.FnExactWalkSum': WHATEVER THE INPUT: true; the input reads as it did. -/
def fnExactWalkSumSpec : ChangeSpec := { name := "fnExactWalkSum", vars := ["loop.example/g01331/impl.errNoWalk"], fn := fun _ => fun
  | [d1, d2, g1] => { results := [.lit (.bool true)], args := [d1, d2], vars := [g1] }
  | _ => none }
def fnExactWalkSumRow : OpenClaim := { program := "ythonkphjahomeaadoor", sum := "37c9c918bf7b76f4f7aef895289917aba9c5116821918ade6e2774ce67538a5f", func := "loop.example/g01331/laws.FnExactWalkSum", spec := "fnExactWalkSum", unfollowed := true, recurses := true, named := ["loop.example/g01331/impl.errNoWalk"], ifaces := true, apart := false, laid := [("loop.example/g01331/impl.errNoWalk", laid_loop_example_g01331_impl_errNoWalk)] }
def FnExactWalkSumSaid : Prop := fnExactWalkSumRow.holds Tryd.pinned (OpenSpec.ofChange fnExactWalkSumSpec)

/-- ITS FALSE NEIGHBOUR: 'it returns false'. Refute it at one input. -/
def fnExactWalkSumWrong : ChangeSpec := { name := "fnExactWalkSum", vars := ["loop.example/g01331/impl.errNoWalk"], fn := fun _ => fun
  | [d1, d2, g1] => { results := [.lit (.bool false)], args := [d1, d2], vars := [g1] }
  | _ => none }
def FnExactWalkSumWrongFalsely : Prop := fnExactWalkSumRow.holds Tryd.pinned (OpenSpec.ofChange fnExactWalkSumWrong)

/-- 'laws.FnExactIsReducedWalk': WHATEVER THE INPUT: true; the input reads as it did. -/
def fnExactIsReducedWalkSpec : ChangeSpec := { name := "fnExactIsReducedWalk", vars := ["loop.example/g01331/impl.errNoWalk"], fn := fun _ => fun
  | [d1, d2, g1] => { results := [.lit (.bool true)], args := [d1, d2], vars := [g1] }
  | _ => none }
def fnExactIsReducedWalkRow : OpenClaim := { program := "ythonkphjahomeaadoor", sum := "37c9c918bf7b76f4f7aef895289917aba9c5116821918ade6e2774ce67538a5f", func := "loop.example/g01331/laws.FnExactIsReducedWalk", spec := "fnExactIsReducedWalk", unfollowed := true, recurses := true, named := ["loop.example/g01331/impl.errNoWalk"], ifaces := true, apart := false, laid := [("loop.example/g01331/impl.errNoWalk", laid_loop_example_g01331_impl_errNoWalk)] }
def FnExactIsReducedWalkSaid : Prop := fnExactIsReducedWalkRow.holds Tryd.pinned (OpenSpec.ofChange fnExactIsReducedWalkSpec)

/-- ITS FALSE NEIGHBOUR: 'it returns false'. Refute it at one input. -/
def fnExactIsReducedWalkWrong : ChangeSpec := { name := "fnExactIsReducedWalk", vars := ["loop.example/g01331/impl.errNoWalk"], fn := fun _ => fun
  | [d1, d2, g1] => { results := [.lit (.bool false)], args := [d1, d2], vars := [g1] }
  | _ => none }
def FnExactIsReducedWalkWrongFalsely : Prop := fnExactIsReducedWalkRow.holds Tryd.pinned (OpenSpec.ofChange fnExactIsReducedWalkWrong)

/-- 'laws.FnExactLiftedWalk': WHATEVER THE INPUT: true; the input reads as it did. -/
def fnExactLiftedWalkSpec : ChangeSpec := { name := "fnExactLiftedWalk", vars := ["loop.example/g01331/impl.errNoWalk"], fn := fun _ => fun
  | [d1, d2, d3, g1] => { results := [.lit (.bool true)], args := [d1, d2, d3], vars := [g1] }
  | _ => none }
def fnExactLiftedWalkRow : OpenClaim := { program := "ythonkphjahomeaadoor", sum := "37c9c918bf7b76f4f7aef895289917aba9c5116821918ade6e2774ce67538a5f", func := "loop.example/g01331/laws.FnExactLiftedWalk", spec := "fnExactLiftedWalk", unfollowed := true, recurses := true, named := ["loop.example/g01331/impl.errNoWalk"], ifaces := true, apart := false, laid := [("loop.example/g01331/impl.errNoWalk", laid_loop_example_g01331_impl_errNoWalk)] }
def FnExactLiftedWalkSaid : Prop := fnExactLiftedWalkRow.holds Tryd.pinned (OpenSpec.ofChange fnExactLiftedWalkSpec)

/-- ITS FALSE NEIGHBOUR: 'it returns false'. Refute it at one input. -/
def fnExactLiftedWalkWrong : ChangeSpec := { name := "fnExactLiftedWalk", vars := ["loop.example/g01331/impl.errNoWalk"], fn := fun _ => fun
  | [d1, d2, d3, g1] => { results := [.lit (.bool false)], args := [d1, d2, d3], vars := [g1] }
  | _ => none }
def FnExactLiftedWalkWrongFalsely : Prop := fnExactLiftedWalkRow.holds Tryd.pinned (OpenSpec.ofChange fnExactLiftedWalkWrong)

/- THE SECOND FORM. 'bulk': how many values and letters a reading holds, each counted each time it is reached (what is shared counts as often as it is met; a slice's spare places count too). A statement '..UptoSaid' is the law's where the arguments, and the package variables that the reading takes, are together of bulk at most 1048576: NARROWER than '..Said'. Prove '..Said' where nothing that the law and all that it calls make is longer than what came in: it says more and counts as full. Else prove '..UptoSaid'. A law counts once. -/
mutual
def uptoBulk {H : Type} : DataW H → Nat
  | .lit (.string bytes) => bytes.length + 1
  | .lit _ => 1
  | .nil => 1
  | .ptr d => uptoBulk d + 1
  | .slice elems spare => uptoBulkAll elems + uptoBulkAll spare + 1
  | .agg parts => uptoBulkAll parts + 1
  | .iface _ d => uptoBulk d + 1
  | .map entries => uptoBulkEntries entries + 1
  | .held _ => 1
def uptoBulkAll {H : Type} : List (DataW H) → Nat
  | [] => 0
  | d :: r => uptoBulk d + uptoBulkAll r
def uptoBulkEntries {H : Type} : List (Lit × DataW H) → Nat
  | [] => 0
  | x :: r => uptoBulkEntry x + uptoBulkEntries r
def uptoBulkEntry {H : Type} : Lit × DataW H → Nat
  | (.string bytes, d) => bytes.length + uptoBulk d + 1
  | (_, d) => uptoBulk d + 1
 end
def uptoSmall : (H : Type) → List (DataW H) → Bool := fun _ ds => decide (uptoBulkAll ds ≤ 1048576)
def OpenSpec.upto (s : _root_.Go.ChangeSpec) : _root_.Go.OpenSpec := { _root_.Go.OpenSpec.ofChange s with cond := some uptoSmall }

/-- 'laws.FnExactWalkSum', WHERE WHAT IT READS IS OF BULK AT MOST 1048576: true; the input reads as it did. -/
def fnExactWalkSumUptoRow : OpenClaim := { program := "ythonkphjahomeaadoor", sum := "37c9c918bf7b76f4f7aef895289917aba9c5116821918ade6e2774ce67538a5f", func := "loop.example/g01331/laws.FnExactWalkSum", spec := "fnExactWalkSum", unfollowed := true, recurses := true, named := ["loop.example/g01331/impl.errNoWalk"], ifaces := true, apart := false, laid := [("loop.example/g01331/impl.errNoWalk", laid_loop_example_g01331_impl_errNoWalk)], narrowed := true }
def FnExactWalkSumUptoSaid : Prop := fnExactWalkSumUptoRow.holds Tryd.pinned (OpenSpec.upto fnExactWalkSumSpec)

/-- 'laws.FnExactIsReducedWalk', WHERE WHAT IT READS IS OF BULK AT MOST 1048576: true; the input reads as it did. -/
def fnExactIsReducedWalkUptoRow : OpenClaim := { program := "ythonkphjahomeaadoor", sum := "37c9c918bf7b76f4f7aef895289917aba9c5116821918ade6e2774ce67538a5f", func := "loop.example/g01331/laws.FnExactIsReducedWalk", spec := "fnExactIsReducedWalk", unfollowed := true, recurses := true, named := ["loop.example/g01331/impl.errNoWalk"], ifaces := true, apart := false, laid := [("loop.example/g01331/impl.errNoWalk", laid_loop_example_g01331_impl_errNoWalk)], narrowed := true }
def FnExactIsReducedWalkUptoSaid : Prop := fnExactIsReducedWalkUptoRow.holds Tryd.pinned (OpenSpec.upto fnExactIsReducedWalkSpec)

/-- 'laws.FnExactLiftedWalk', WHERE WHAT IT READS IS OF BULK AT MOST 1048576: true; the input reads as it did. -/
def fnExactLiftedWalkUptoRow : OpenClaim := { program := "ythonkphjahomeaadoor", sum := "37c9c918bf7b76f4f7aef895289917aba9c5116821918ade6e2774ce67538a5f", func := "loop.example/g01331/laws.FnExactLiftedWalk", spec := "fnExactLiftedWalk", unfollowed := true, recurses := true, named := ["loop.example/g01331/impl.errNoWalk"], ifaces := true, apart := false, laid := [("loop.example/g01331/impl.errNoWalk", laid_loop_example_g01331_impl_errNoWalk)], narrowed := true }
def FnExactLiftedWalkUptoSaid : Prop := fnExactLiftedWalkUptoRow.holds Tryd.pinned (OpenSpec.upto fnExactLiftedWalkSpec)

end Rows
end Go.Proofs.YthonkphjahomeaaDoor
