/-
  No cell of these rows narrows 'for every input' (looked for: loops, veiled, ifaces, maps, wideKeys, modest, calm, conditions, laid).
  DERIVED. THE GIVEN ROWS OF THIS SEAT. 6 by the template 'for every input the law returns true; each argument reads behind the call as it read before'; 0 by the template 'total and deterministic' (their statements: YtaekecccpgcgiaaTotals.lean).
  GIVEN WITH THE SEED: the statements are not yours to turn. If you find one false, say at which input.
  Laid BY PROGRAM, IN A SANDBOX (cutbox-rows.mjs): the forced cells as the released guide's own fill.sh prints them over the translation 60358af3eb75cd0e… (all of the seat's roots in one cut). By AI agents, Wed Nov 11 2026. No macro, syntax, notation, axiom, sorry.
-/
import Derived.Test.YtaekecccpgcgiaaChecked
import GoSem.Claim
import GoSem.ClaimJoined
import GoSem.ClaimMapViews
import Derived.JoinedTies
import Derived.KernelRfl
namespace Go.Proofs.Ytaekecccpgcgiaa
/- THE CELL 'sum', in the pinned program and in every row, IS THE sha256 OF THE DUMP (.gsa) THAT YtaekecccpgcgiaaProg.lean LOADS. Nothing in Lean hashes anything: it is a label: what it is worth is what the hold of that sum in a sandbox is worth. -/
noncomputable def Try.pinned : Pinned := { name := "ytaekecccpgcgiaa", sum := "60358af3eb75cd0e6a0127cf4053ff93526303a1d05216a518cf082a41db8812", checked := Try.checked }
namespace Rows
def none {H : Type} : Left H := { results := [], args := [] }

/-- 'laws.FnExactDigraphBound': WHATEVER THE INPUT: true; the input reads as it did. -/
def fnExactDigraphBoundSpec : ChangeSpec := { name := "fnExactDigraphBound", fn := fun _ => fun
  | [d1, d2] => { results := [.lit (.bool true)], args := [d1, d2] }
  | _ => none }
def fnExactDigraphBoundRow : OpenClaim := { program := "ytaekecccpgcgiaa", sum := "60358af3eb75cd0e6a0127cf4053ff93526303a1d05216a518cf082a41db8812", func := "loop.example/g01331/laws.FnExactDigraphBound", spec := "fnExactDigraphBound", plainKeys := false, apart := false }
def FnExactDigraphBoundSaid : Prop := fnExactDigraphBoundRow.holds Try.pinned (OpenSpec.ofChange fnExactDigraphBoundSpec)

/-- ITS FALSE NEIGHBOUR: 'it returns false'. Refute it at one input. -/
def fnExactDigraphBoundWrong : ChangeSpec := { name := "fnExactDigraphBound", fn := fun _ => fun
  | [d1, d2] => { results := [.lit (.bool false)], args := [d1, d2] }
  | _ => none }
def FnExactDigraphBoundWrongFalsely : Prop := fnExactDigraphBoundRow.holds Try.pinned (OpenSpec.ofChange fnExactDigraphBoundWrong)

/-- 'laws.FnExactWordSequence': WHATEVER THE INPUT: true; the input reads as it did. -/
def fnExactWordSequenceSpec : ChangeSpec := { name := "fnExactWordSequence", fn := fun _ => fun
  | [d1, d2] => { results := [.lit (.bool true)], args := [d1, d2] }
  | _ => none }
def fnExactWordSequenceRow : OpenClaim := { program := "ytaekecccpgcgiaa", sum := "60358af3eb75cd0e6a0127cf4053ff93526303a1d05216a518cf082a41db8812", func := "loop.example/g01331/laws.FnExactWordSequence", spec := "fnExactWordSequence", plainKeys := false, apart := false }
def FnExactWordSequenceSaid : Prop := fnExactWordSequenceRow.holds Try.pinned (OpenSpec.ofChange fnExactWordSequenceSpec)

/-- ITS FALSE NEIGHBOUR: 'it returns false'. Refute it at one input. -/
def fnExactWordSequenceWrong : ChangeSpec := { name := "fnExactWordSequence", fn := fun _ => fun
  | [d1, d2] => { results := [.lit (.bool false)], args := [d1, d2] }
  | _ => none }
def FnExactWordSequenceWrongFalsely : Prop := fnExactWordSequenceRow.holds Try.pinned (OpenSpec.ofChange fnExactWordSequenceWrong)

/-- 'laws.FnExactNumbersAt': WHATEVER THE INPUT: true; the input reads as it did. -/
def fnExactNumbersAtSpec : ChangeSpec := { name := "fnExactNumbersAt", fn := fun _ => fun
  | [d1, d2] => { results := [.lit (.bool true)], args := [d1, d2] }
  | _ => none }
def fnExactNumbersAtRow : OpenClaim := { program := "ytaekecccpgcgiaa", sum := "60358af3eb75cd0e6a0127cf4053ff93526303a1d05216a518cf082a41db8812", func := "loop.example/g01331/laws.FnExactNumbersAt", spec := "fnExactNumbersAt", plainKeys := false, apart := false }
def FnExactNumbersAtSaid : Prop := fnExactNumbersAtRow.holds Try.pinned (OpenSpec.ofChange fnExactNumbersAtSpec)

/-- ITS FALSE NEIGHBOUR: 'it returns false'. Refute it at one input. -/
def fnExactNumbersAtWrong : ChangeSpec := { name := "fnExactNumbersAt", fn := fun _ => fun
  | [d1, d2] => { results := [.lit (.bool false)], args := [d1, d2] }
  | _ => none }
def FnExactNumbersAtWrongFalsely : Prop := fnExactNumbersAtRow.holds Try.pinned (OpenSpec.ofChange fnExactNumbersAtWrong)

/-- 'laws.FnExactAreFeasible': WHATEVER THE INPUT: true; the input reads as it did. -/
def fnExactAreFeasibleSpec : ChangeSpec := { name := "fnExactAreFeasible", fn := fun _ => fun
  | [d1, d2] => { results := [.lit (.bool true)], args := [d1, d2] }
  | _ => none }
def fnExactAreFeasibleRow : OpenClaim := { program := "ytaekecccpgcgiaa", sum := "60358af3eb75cd0e6a0127cf4053ff93526303a1d05216a518cf082a41db8812", func := "loop.example/g01331/laws.FnExactAreFeasible", spec := "fnExactAreFeasible", plainKeys := false, apart := false }
def FnExactAreFeasibleSaid : Prop := fnExactAreFeasibleRow.holds Try.pinned (OpenSpec.ofChange fnExactAreFeasibleSpec)

/-- ITS FALSE NEIGHBOUR: 'it returns false'. Refute it at one input. -/
def fnExactAreFeasibleWrong : ChangeSpec := { name := "fnExactAreFeasible", fn := fun _ => fun
  | [d1, d2] => { results := [.lit (.bool false)], args := [d1, d2] }
  | _ => none }
def FnExactAreFeasibleWrongFalsely : Prop := fnExactAreFeasibleRow.holds Try.pinned (OpenSpec.ofChange fnExactAreFeasibleWrong)

/-- 'laws.FnExactJumpGraph': WHATEVER THE INPUT: true; the input reads as it did. -/
def fnExactJumpGraphSpec : ChangeSpec := { name := "fnExactJumpGraph", fn := fun _ => fun
  | [d1, d2] => { results := [.lit (.bool true)], args := [d1, d2] }
  | _ => none }
def fnExactJumpGraphRow : OpenClaim := { program := "ytaekecccpgcgiaa", sum := "60358af3eb75cd0e6a0127cf4053ff93526303a1d05216a518cf082a41db8812", func := "loop.example/g01331/laws.FnExactJumpGraph", spec := "fnExactJumpGraph", plainKeys := false, apart := false }
def FnExactJumpGraphSaid : Prop := fnExactJumpGraphRow.holds Try.pinned (OpenSpec.ofChange fnExactJumpGraphSpec)

/-- ITS FALSE NEIGHBOUR: 'it returns false'. Refute it at one input. -/
def fnExactJumpGraphWrong : ChangeSpec := { name := "fnExactJumpGraph", fn := fun _ => fun
  | [d1, d2] => { results := [.lit (.bool false)], args := [d1, d2] }
  | _ => none }
def FnExactJumpGraphWrongFalsely : Prop := fnExactJumpGraphRow.holds Try.pinned (OpenSpec.ofChange fnExactJumpGraphWrong)

/-- 'laws.FnExactCirculantGraph': WHATEVER THE INPUT: true; the input reads as it did. -/
def fnExactCirculantGraphSpec : ChangeSpec := { name := "fnExactCirculantGraph", fn := fun _ => fun
  | [d1, d2] => { results := [.lit (.bool true)], args := [d1, d2] }
  | _ => none }
def fnExactCirculantGraphRow : OpenClaim := { program := "ytaekecccpgcgiaa", sum := "60358af3eb75cd0e6a0127cf4053ff93526303a1d05216a518cf082a41db8812", func := "loop.example/g01331/laws.FnExactCirculantGraph", spec := "fnExactCirculantGraph", unfollowed := true, recurses := true, plainKeys := false, apart := false }
def FnExactCirculantGraphSaid : Prop := fnExactCirculantGraphRow.holds Try.pinned (OpenSpec.ofChange fnExactCirculantGraphSpec)

/-- ITS FALSE NEIGHBOUR: 'it returns false'. Refute it at one input. -/
def fnExactCirculantGraphWrong : ChangeSpec := { name := "fnExactCirculantGraph", fn := fun _ => fun
  | [d1, d2] => { results := [.lit (.bool false)], args := [d1, d2] }
  | _ => none }
def FnExactCirculantGraphWrongFalsely : Prop := fnExactCirculantGraphRow.holds Try.pinned (OpenSpec.ofChange fnExactCirculantGraphWrong)

/- THE SECOND FORM. 'bulk': how many values and letters a reading holds, each counted each time it is reached (what is shared counts as often as it is met; a slice's spare places count too). A statement '..UptoSaid' is the law's where the arguments, and the package variables that the reading takes, are together of bulk at most 1048576: NARROWER than '..Said'. Prove '..Said' where nothing that the law and all that it calls make is longer than what came in: it says more and counts as full. Else prove '..UptoSaid'. A law counts once. -/
mutual
def uptoBulk {H : Type} : DataW H → Nat
  | .lit (.string bytes) => bytes.length + 1
  | .lit _ => 1
  | .nil => 1
  | .ptr d => uptoBulk d + 1
  | .slice elems spare => uptoBulkAll elems + uptoBulkAll spare + 1
  | .agg parts => uptoBulkAll parts + 1
  | .iface _ d => uptoBulk d + 1
  | .map entries => uptoBulkEntries entries + 1
  | .held _ => 1
def uptoBulkAll {H : Type} : List (DataW H) → Nat
  | [] => 0
  | d :: r => uptoBulk d + uptoBulkAll r
def uptoBulkEntries {H : Type} : List (Lit × DataW H) → Nat
  | [] => 0
  | x :: r => uptoBulkEntry x + uptoBulkEntries r
def uptoBulkEntry {H : Type} : Lit × DataW H → Nat
  | (.string bytes, d) => bytes.length + uptoBulk d + 1
  | (_, d) => uptoBulk d + 1
 end
def uptoSmall : (H : Type) → List (DataW H) → Bool := fun _ ds => decide (uptoBulkAll ds ≤ 1048576)
def OpenSpec.upto (s : _root_.Go.ChangeSpec) : _root_.Go.OpenSpec := { _root_.Go.OpenSpec.ofChange s with cond := some uptoSmall }

/-- 'laws.FnExactDigraphBound', WHERE WHAT IT READS IS OF BULK AT MOST 1048576: true; the input reads as it did. -/
def fnExactDigraphBoundUptoRow : OpenClaim := { program := "ytaekecccpgcgiaa", sum := "60358af3eb75cd0e6a0127cf4053ff93526303a1d05216a518cf082a41db8812", func := "loop.example/g01331/laws.FnExactDigraphBound", spec := "fnExactDigraphBound", plainKeys := false, apart := false, narrowed := true }
def FnExactDigraphBoundUptoSaid : Prop := fnExactDigraphBoundUptoRow.holds Try.pinned (OpenSpec.upto fnExactDigraphBoundSpec)

/-- 'laws.FnExactWordSequence', WHERE WHAT IT READS IS OF BULK AT MOST 1048576: true; the input reads as it did. -/
def fnExactWordSequenceUptoRow : OpenClaim := { program := "ytaekecccpgcgiaa", sum := "60358af3eb75cd0e6a0127cf4053ff93526303a1d05216a518cf082a41db8812", func := "loop.example/g01331/laws.FnExactWordSequence", spec := "fnExactWordSequence", plainKeys := false, apart := false, narrowed := true }
def FnExactWordSequenceUptoSaid : Prop := fnExactWordSequenceUptoRow.holds Try.pinned (OpenSpec.upto fnExactWordSequenceSpec)

/-- 'laws.FnExactNumbersAt', WHERE WHAT IT READS IS OF BULK AT MOST 1048576: true; the input reads as it did. -/
def fnExactNumbersAtUptoRow : OpenClaim := { program := "ytaekecccpgcgiaa", sum := "60358af3eb75cd0e6a0127cf4053ff93526303a1d05216a518cf082a41db8812", func := "loop.example/g01331/laws.FnExactNumbersAt", spec := "fnExactNumbersAt", plainKeys := false, apart := false, narrowed := true }
def FnExactNumbersAtUptoSaid : Prop := fnExactNumbersAtUptoRow.holds Try.pinned (OpenSpec.upto fnExactNumbersAtSpec)

/-- 'laws.FnExactAreFeasible', WHERE WHAT IT READS IS OF BULK AT MOST 1048576: true; the input reads as it did. -/
def fnExactAreFeasibleUptoRow : OpenClaim := { program := "ytaekecccpgcgiaa", sum := "60358af3eb75cd0e6a0127cf4053ff93526303a1d05216a518cf082a41db8812", func := "loop.example/g01331/laws.FnExactAreFeasible", spec := "fnExactAreFeasible", plainKeys := false, apart := false, narrowed := true }
def FnExactAreFeasibleUptoSaid : Prop := fnExactAreFeasibleUptoRow.holds Try.pinned (OpenSpec.upto fnExactAreFeasibleSpec)

/-- 'laws.FnExactJumpGraph', WHERE WHAT IT READS IS OF BULK AT MOST 1048576: true; the input reads as it did. -/
def fnExactJumpGraphUptoRow : OpenClaim := { program := "ytaekecccpgcgiaa", sum := "60358af3eb75cd0e6a0127cf4053ff93526303a1d05216a518cf082a41db8812", func := "loop.example/g01331/laws.FnExactJumpGraph", spec := "fnExactJumpGraph", plainKeys := false, apart := false, narrowed := true }
def FnExactJumpGraphUptoSaid : Prop := fnExactJumpGraphUptoRow.holds Try.pinned (OpenSpec.upto fnExactJumpGraphSpec)

/-- 'laws.FnExactCirculantGraph', WHERE WHAT IT READS IS OF BULK AT MOST 1048576: true; the input reads as it did. -/
def fnExactCirculantGraphUptoRow : OpenClaim := { program := "ytaekecccpgcgiaa", sum := "60358af3eb75cd0e6a0127cf4053ff93526303a1d05216a518cf082a41db8812", func := "loop.example/g01331/laws.FnExactCirculantGraph", spec := "fnExactCirculantGraph", unfollowed := true, recurses := true, plainKeys := false, apart := false, narrowed := true }
def FnExactCirculantGraphUptoSaid : Prop := fnExactCirculantGraphUptoRow.holds Try.pinned (OpenSpec.upto fnExactCirculantGraphSpec)

end Rows
end Go.Proofs.Ytaekecccpgcgiaa
