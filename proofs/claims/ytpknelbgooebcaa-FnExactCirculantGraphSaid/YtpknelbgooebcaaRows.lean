/-
  No cell of these rows narrows 'for every input' (looked for: loops, veiled, ifaces, maps, wideKeys, modest, calm, conditions, laid).
  DERIVED. THE GIVEN ROWS OF THIS SEAT. 8 by the template 'for every input the law returns true; each argument reads behind the call as it read before'; 0 by the template 'total and deterministic' (their statements: YtpknelbgooebcaaTotals.lean).
  GIVEN WITH THE SEED: the statements are not yours to turn. If you find one false, say at which input.
  Laid BY PROGRAM, IN A SANDBOX (cutbox-rows.mjs): the forced cells as the released guide's own fill.sh prints them over the translation 8eee4cdb5dcd3d1a… (all of the seat's roots in one cut). By AI agents, Wed Nov 11 2026. No macro, syntax, notation, axiom, sorry.
-/
import Derived.Test.YtpknelbgooebcaaChecked
import GoSem.Claim
import GoSem.ClaimJoined
import GoSem.ClaimMapViews
import Derived.JoinedTies
import Derived.KernelRfl
namespace Go.Proofs.Ytpknelbgooebcaa
/- THE CELL 'sum', in the pinned program and in every row, IS THE sha256 OF THE DUMP (.gsa) THAT YtpknelbgooebcaaProg.lean LOADS. Nothing in Lean hashes anything: it is a label: what it is worth is what the hold of that sum in a sandbox is worth. -/
noncomputable def Try.pinned : Pinned := { name := "ytpknelbgooebcaa", sum := "8eee4cdb5dcd3d1a9fa3feabe61baefe62d049985bae0af82d248d9ac3898390", checked := Try.checked }
namespace Rows
def none {H : Type} : Left H := { results := [], args := [] }

/-- 'laws.FnExactIsGroup': WHATEVER THE INPUT: true; the input reads as it did. -/
def fnExactIsGroupSpec : ChangeSpec := { name := "fnExactIsGroup", fn := fun _ => fun
  | [d] => { results := [.lit (.bool true)], args := [d] }
  | _ => none }
def fnExactIsGroupRow : OpenClaim := { program := "ytpknelbgooebcaa", sum := "8eee4cdb5dcd3d1a9fa3feabe61baefe62d049985bae0af82d248d9ac3898390", func := "loop.example/g01331/laws.FnExactIsGroup", spec := "fnExactIsGroup", plainKeys := false, apart := false }
def FnExactIsGroupSaid : Prop := fnExactIsGroupRow.holds Try.pinned (OpenSpec.ofChange fnExactIsGroupSpec)

/-- ITS FALSE NEIGHBOUR: 'it returns false'. Refute it at one input. -/
def fnExactIsGroupWrong : ChangeSpec := { name := "fnExactIsGroup", fn := fun _ => fun
  | [d] => { results := [.lit (.bool false)], args := [d] }
  | _ => none }
def FnExactIsGroupWrongFalsely : Prop := fnExactIsGroupRow.holds Try.pinned (OpenSpec.ofChange fnExactIsGroupWrong)

/-- 'laws.FnExactOrderOfGroup': WHATEVER THE INPUT: true; the input reads as it did. -/
def fnExactOrderOfGroupSpec : ChangeSpec := { name := "fnExactOrderOfGroup", fn := fun _ => fun
  | [d] => { results := [.lit (.bool true)], args := [d] }
  | _ => none }
def fnExactOrderOfGroupRow : OpenClaim := { program := "ytpknelbgooebcaa", sum := "8eee4cdb5dcd3d1a9fa3feabe61baefe62d049985bae0af82d248d9ac3898390", func := "loop.example/g01331/laws.FnExactOrderOfGroup", spec := "fnExactOrderOfGroup", unfollowed := true, recurses := true, plainKeys := false, apart := false }
def FnExactOrderOfGroupSaid : Prop := fnExactOrderOfGroupRow.holds Try.pinned (OpenSpec.ofChange fnExactOrderOfGroupSpec)

/-- ITS FALSE NEIGHBOUR: 'it returns false'. Refute it at one input. -/
def fnExactOrderOfGroupWrong : ChangeSpec := { name := "fnExactOrderOfGroup", fn := fun _ => fun
  | [d] => { results := [.lit (.bool false)], args := [d] }
  | _ => none }
def FnExactOrderOfGroupWrongFalsely : Prop := fnExactOrderOfGroupRow.holds Try.pinned (OpenSpec.ofChange fnExactOrderOfGroupWrong)

/-- 'laws.FnExactProductIn': WHATEVER THE INPUT: true; the input reads as it did. -/
def fnExactProductInSpec : ChangeSpec := { name := "fnExactProductIn", fn := fun _ => fun
  | [d1, d2, d3] => { results := [.lit (.bool true)], args := [d1, d2, d3] }
  | _ => none }
def fnExactProductInRow : OpenClaim := { program := "ytpknelbgooebcaa", sum := "8eee4cdb5dcd3d1a9fa3feabe61baefe62d049985bae0af82d248d9ac3898390", func := "loop.example/g01331/laws.FnExactProductIn", spec := "fnExactProductIn", unfollowed := true, recurses := true, plainKeys := false, apart := false }
def FnExactProductInSaid : Prop := fnExactProductInRow.holds Try.pinned (OpenSpec.ofChange fnExactProductInSpec)

/-- ITS FALSE NEIGHBOUR: 'it returns false'. Refute it at one input. -/
def fnExactProductInWrong : ChangeSpec := { name := "fnExactProductIn", fn := fun _ => fun
  | [d1, d2, d3] => { results := [.lit (.bool false)], args := [d1, d2, d3] }
  | _ => none }
def FnExactProductInWrongFalsely : Prop := fnExactProductInRow.holds Try.pinned (OpenSpec.ofChange fnExactProductInWrong)

/-- 'laws.FnExactInverseIn': WHATEVER THE INPUT: true; the input reads as it did. -/
def fnExactInverseInSpec : ChangeSpec := { name := "fnExactInverseIn", fn := fun _ => fun
  | [d1, d2] => { results := [.lit (.bool true)], args := [d1, d2] }
  | _ => none }
def fnExactInverseInRow : OpenClaim := { program := "ytpknelbgooebcaa", sum := "8eee4cdb5dcd3d1a9fa3feabe61baefe62d049985bae0af82d248d9ac3898390", func := "loop.example/g01331/laws.FnExactInverseIn", spec := "fnExactInverseIn", unfollowed := true, recurses := true, plainKeys := false, apart := false }
def FnExactInverseInSaid : Prop := fnExactInverseInRow.holds Try.pinned (OpenSpec.ofChange fnExactInverseInSpec)

/-- ITS FALSE NEIGHBOUR: 'it returns false'. Refute it at one input. -/
def fnExactInverseInWrong : ChangeSpec := { name := "fnExactInverseIn", fn := fun _ => fun
  | [d1, d2] => { results := [.lit (.bool false)], args := [d1, d2] }
  | _ => none }
def FnExactInverseInWrongFalsely : Prop := fnExactInverseInRow.holds Try.pinned (OpenSpec.ofChange fnExactInverseInWrong)

/-- 'laws.FnExactOrderOf': WHATEVER THE INPUT: true; the input reads as it did. -/
def fnExactOrderOfSpec : ChangeSpec := { name := "fnExactOrderOf", fn := fun _ => fun
  | [d1, d2] => { results := [.lit (.bool true)], args := [d1, d2] }
  | _ => none }
def fnExactOrderOfRow : OpenClaim := { program := "ytpknelbgooebcaa", sum := "8eee4cdb5dcd3d1a9fa3feabe61baefe62d049985bae0af82d248d9ac3898390", func := "loop.example/g01331/laws.FnExactOrderOf", spec := "fnExactOrderOf", unfollowed := true, recurses := true, plainKeys := false, apart := false }
def FnExactOrderOfSaid : Prop := fnExactOrderOfRow.holds Try.pinned (OpenSpec.ofChange fnExactOrderOfSpec)

/-- ITS FALSE NEIGHBOUR: 'it returns false'. Refute it at one input. -/
def fnExactOrderOfWrong : ChangeSpec := { name := "fnExactOrderOf", fn := fun _ => fun
  | [d1, d2] => { results := [.lit (.bool false)], args := [d1, d2] }
  | _ => none }
def FnExactOrderOfWrongFalsely : Prop := fnExactOrderOfRow.holds Try.pinned (OpenSpec.ofChange fnExactOrderOfWrong)

/-- 'laws.FnExactCirculantGraph': WHATEVER THE INPUT: true; the input reads as it did. -/
def fnExactCirculantGraphSpec : ChangeSpec := { name := "fnExactCirculantGraph", fn := fun _ => fun
  | [d1, d2] => { results := [.lit (.bool true)], args := [d1, d2] }
  | _ => none }
def fnExactCirculantGraphRow : OpenClaim := { program := "ytpknelbgooebcaa", sum := "8eee4cdb5dcd3d1a9fa3feabe61baefe62d049985bae0af82d248d9ac3898390", func := "loop.example/g01331/laws.FnExactCirculantGraph", spec := "fnExactCirculantGraph", unfollowed := true, recurses := true, plainKeys := false, apart := false }
def FnExactCirculantGraphSaid : Prop := fnExactCirculantGraphRow.holds Try.pinned (OpenSpec.ofChange fnExactCirculantGraphSpec)

/-- ITS FALSE NEIGHBOUR: 'it returns false'. Refute it at one input. -/
def fnExactCirculantGraphWrong : ChangeSpec := { name := "fnExactCirculantGraph", fn := fun _ => fun
  | [d1, d2] => { results := [.lit (.bool false)], args := [d1, d2] }
  | _ => none }
def FnExactCirculantGraphWrongFalsely : Prop := fnExactCirculantGraphRow.holds Try.pinned (OpenSpec.ofChange fnExactCirculantGraphWrong)

/-- 'laws.FnExactJumpGraph': WHATEVER THE INPUT: true; the input reads as it did. -/
def fnExactJumpGraphSpec : ChangeSpec := { name := "fnExactJumpGraph", fn := fun _ => fun
  | [d1, d2] => { results := [.lit (.bool true)], args := [d1, d2] }
  | _ => none }
def fnExactJumpGraphRow : OpenClaim := { program := "ytpknelbgooebcaa", sum := "8eee4cdb5dcd3d1a9fa3feabe61baefe62d049985bae0af82d248d9ac3898390", func := "loop.example/g01331/laws.FnExactJumpGraph", spec := "fnExactJumpGraph", plainKeys := false, apart := false }
def FnExactJumpGraphSaid : Prop := fnExactJumpGraphRow.holds Try.pinned (OpenSpec.ofChange fnExactJumpGraphSpec)

/-- ITS FALSE NEIGHBOUR: 'it returns false'. Refute it at one input. -/
def fnExactJumpGraphWrong : ChangeSpec := { name := "fnExactJumpGraph", fn := fun _ => fun
  | [d1, d2] => { results := [.lit (.bool false)], args := [d1, d2] }
  | _ => none }
def FnExactJumpGraphWrongFalsely : Prop := fnExactJumpGraphRow.holds Try.pinned (OpenSpec.ofChange fnExactJumpGraphWrong)

/-- 'laws.FnExactOddGraph': WHATEVER THE INPUT: true; the input reads as it did. -/
def fnExactOddGraphSpec : ChangeSpec := { name := "fnExactOddGraph", fn := fun _ => fun
  | [d] => { results := [.lit (.bool true)], args := [d] }
  | _ => none }
def fnExactOddGraphRow : OpenClaim := { program := "ytpknelbgooebcaa", sum := "8eee4cdb5dcd3d1a9fa3feabe61baefe62d049985bae0af82d248d9ac3898390", func := "loop.example/g01331/laws.FnExactOddGraph", spec := "fnExactOddGraph", unfollowed := true, recurses := true, plainKeys := false, apart := false }
def FnExactOddGraphSaid : Prop := fnExactOddGraphRow.holds Try.pinned (OpenSpec.ofChange fnExactOddGraphSpec)

/-- ITS FALSE NEIGHBOUR: 'it returns false'. Refute it at one input. -/
def fnExactOddGraphWrong : ChangeSpec := { name := "fnExactOddGraph", fn := fun _ => fun
  | [d] => { results := [.lit (.bool false)], args := [d] }
  | _ => none }
def FnExactOddGraphWrongFalsely : Prop := fnExactOddGraphRow.holds Try.pinned (OpenSpec.ofChange fnExactOddGraphWrong)

/- THE SECOND FORM. 'bulk': how many values and letters a reading holds, each counted each time it is reached (what is shared counts as often as it is met; a slice's spare places count too). A statement '..UptoSaid' is the law's where the arguments, and the package variables that the reading takes, are together of bulk at most 1048576: NARROWER than '..Said'. Prove '..Said' where nothing that the law and all that it calls make is longer than what came in: it says more and counts as full. Else prove '..UptoSaid'. A law counts once. -/
mutual
def uptoBulk {H : Type} : DataW H → Nat
  | .lit (.string bytes) => bytes.length + 1
  | .lit _ => 1
  | .nil => 1
  | .ptr d => uptoBulk d + 1
  | .slice elems spare => uptoBulkAll elems + uptoBulkAll spare + 1
  | .agg parts => uptoBulkAll parts + 1
  | .iface _ d => uptoBulk d + 1
  | .map entries => uptoBulkEntries entries + 1
  | .held _ => 1
def uptoBulkAll {H : Type} : List (DataW H) → Nat
  | [] => 0
  | d :: r => uptoBulk d + uptoBulkAll r
def uptoBulkEntries {H : Type} : List (Lit × DataW H) → Nat
  | [] => 0
  | x :: r => uptoBulkEntry x + uptoBulkEntries r
def uptoBulkEntry {H : Type} : Lit × DataW H → Nat
  | (.string bytes, d) => bytes.length + uptoBulk d + 1
  | (_, d) => uptoBulk d + 1
 end
def uptoSmall : (H : Type) → List (DataW H) → Bool := fun _ ds => decide (uptoBulkAll ds ≤ 1048576)
def OpenSpec.upto (s : _root_.Go.ChangeSpec) : _root_.Go.OpenSpec := { _root_.Go.OpenSpec.ofChange s with cond := some uptoSmall }

/-- 'laws.FnExactIsGroup', WHERE WHAT IT READS IS OF BULK AT MOST 1048576: true; the input reads as it did. -/
def fnExactIsGroupUptoRow : OpenClaim := { program := "ytpknelbgooebcaa", sum := "8eee4cdb5dcd3d1a9fa3feabe61baefe62d049985bae0af82d248d9ac3898390", func := "loop.example/g01331/laws.FnExactIsGroup", spec := "fnExactIsGroup", plainKeys := false, apart := false, narrowed := true }
def FnExactIsGroupUptoSaid : Prop := fnExactIsGroupUptoRow.holds Try.pinned (OpenSpec.upto fnExactIsGroupSpec)

/-- 'laws.FnExactOrderOfGroup', WHERE WHAT IT READS IS OF BULK AT MOST 1048576: true; the input reads as it did. -/
def fnExactOrderOfGroupUptoRow : OpenClaim := { program := "ytpknelbgooebcaa", sum := "8eee4cdb5dcd3d1a9fa3feabe61baefe62d049985bae0af82d248d9ac3898390", func := "loop.example/g01331/laws.FnExactOrderOfGroup", spec := "fnExactOrderOfGroup", unfollowed := true, recurses := true, plainKeys := false, apart := false, narrowed := true }
def FnExactOrderOfGroupUptoSaid : Prop := fnExactOrderOfGroupUptoRow.holds Try.pinned (OpenSpec.upto fnExactOrderOfGroupSpec)

/-- 'laws.FnExactProductIn', WHERE WHAT IT READS IS OF BULK AT MOST 1048576: true; the input reads as it did. -/
def fnExactProductInUptoRow : OpenClaim := { program := "ytpknelbgooebcaa", sum := "8eee4cdb5dcd3d1a9fa3feabe61baefe62d049985bae0af82d248d9ac3898390", func := "loop.example/g01331/laws.FnExactProductIn", spec := "fnExactProductIn", unfollowed := true, recurses := true, plainKeys := false, apart := false, narrowed := true }
def FnExactProductInUptoSaid : Prop := fnExactProductInUptoRow.holds Try.pinned (OpenSpec.upto fnExactProductInSpec)

/-- 'laws.FnExactInverseIn', WHERE WHAT IT READS IS OF BULK AT MOST 1048576: true; the input reads as it did. -/
def fnExactInverseInUptoRow : OpenClaim := { program := "ytpknelbgooebcaa", sum := "8eee4cdb5dcd3d1a9fa3feabe61baefe62d049985bae0af82d248d9ac3898390", func := "loop.example/g01331/laws.FnExactInverseIn", spec := "fnExactInverseIn", unfollowed := true, recurses := true, plainKeys := false, apart := false, narrowed := true }
def FnExactInverseInUptoSaid : Prop := fnExactInverseInUptoRow.holds Try.pinned (OpenSpec.upto fnExactInverseInSpec)

/-- 'laws.FnExactOrderOf', WHERE WHAT IT READS IS OF BULK AT MOST 1048576: true; the input reads as it did. -/
def fnExactOrderOfUptoRow : OpenClaim := { program := "ytpknelbgooebcaa", sum := "8eee4cdb5dcd3d1a9fa3feabe61baefe62d049985bae0af82d248d9ac3898390", func := "loop.example/g01331/laws.FnExactOrderOf", spec := "fnExactOrderOf", unfollowed := true, recurses := true, plainKeys := false, apart := false, narrowed := true }
def FnExactOrderOfUptoSaid : Prop := fnExactOrderOfUptoRow.holds Try.pinned (OpenSpec.upto fnExactOrderOfSpec)

/-- 'laws.FnExactCirculantGraph', WHERE WHAT IT READS IS OF BULK AT MOST 1048576: true; the input reads as it did. -/
def fnExactCirculantGraphUptoRow : OpenClaim := { program := "ytpknelbgooebcaa", sum := "8eee4cdb5dcd3d1a9fa3feabe61baefe62d049985bae0af82d248d9ac3898390", func := "loop.example/g01331/laws.FnExactCirculantGraph", spec := "fnExactCirculantGraph", unfollowed := true, recurses := true, plainKeys := false, apart := false, narrowed := true }
def FnExactCirculantGraphUptoSaid : Prop := fnExactCirculantGraphUptoRow.holds Try.pinned (OpenSpec.upto fnExactCirculantGraphSpec)

/-- 'laws.FnExactJumpGraph', WHERE WHAT IT READS IS OF BULK AT MOST 1048576: true; the input reads as it did. -/
def fnExactJumpGraphUptoRow : OpenClaim := { program := "ytpknelbgooebcaa", sum := "8eee4cdb5dcd3d1a9fa3feabe61baefe62d049985bae0af82d248d9ac3898390", func := "loop.example/g01331/laws.FnExactJumpGraph", spec := "fnExactJumpGraph", plainKeys := false, apart := false, narrowed := true }
def FnExactJumpGraphUptoSaid : Prop := fnExactJumpGraphUptoRow.holds Try.pinned (OpenSpec.upto fnExactJumpGraphSpec)

/-- 'laws.FnExactOddGraph', WHERE WHAT IT READS IS OF BULK AT MOST 1048576: true; the input reads as it did. -/
def fnExactOddGraphUptoRow : OpenClaim := { program := "ytpknelbgooebcaa", sum := "8eee4cdb5dcd3d1a9fa3feabe61baefe62d049985bae0af82d248d9ac3898390", func := "loop.example/g01331/laws.FnExactOddGraph", spec := "fnExactOddGraph", unfollowed := true, recurses := true, plainKeys := false, apart := false, narrowed := true }
def FnExactOddGraphUptoSaid : Prop := fnExactOddGraphUptoRow.holds Try.pinned (OpenSpec.upto fnExactOddGraphSpec)

end Rows
end Go.Proofs.Ytpknelbgooebcaa
