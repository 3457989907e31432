/-
  No cell of these rows narrows 'for every input' (looked for: loops, veiled, ifaces, maps, wideKeys, modest, calm, conditions, laid).
  DERIVED. THE GIVEN ROWS OF THIS SEAT. 4 by the template 'for every input the law returns true; each argument reads behind the call as it read before'; 0 by the template 'total and deterministic' (their statements: YtggammnpdmfgjaaTotals.lean).
  GIVEN WITH THE SEED: the statements are not yours to turn. If you find one false, say at which input.
  Laid BY PROGRAM, IN A SANDBOX (cutbox-rows.mjs): the forced cells as the released guide's own fill.sh prints them over the translation 263fc1bad2e06170… (all of the seat's roots in one cut). By AI agents, Wed Nov 11 2026. No macro, syntax, notation, axiom, sorry.
-/
import Derived.Test.YtggammnpdmfgjaaChecked
import GoSem.Claim
import GoSem.ClaimJoined
import GoSem.ClaimMapViews
import Derived.JoinedTies
import Derived.KernelRfl
namespace Go.Proofs.Ytggammnpdmfgjaa
/- THE CELL 'sum', in the pinned program and in every row, IS THE sha256 OF THE DUMP (.gsa) THAT YtggammnpdmfgjaaProg.lean LOADS. Nothing in Lean hashes anything: it is a label: what it is worth is what the hold of that sum in a sandbox is worth. -/
noncomputable def Try.pinned : Pinned := { name := "ytggammnpdmfgjaa", sum := "263fc1bad2e06170861e5fa89148a8dc00b4d5fc8e0417b6121752fa6281d8f5", checked := Try.checked }
namespace Rows
def none {H : Type} : Left H := { results := [], args := [] }

/-- 'laws.FnExactLiftOf': WHATEVER THE INPUT: true; the input reads as it did. -/
def fnExactLiftOfSpec : ChangeSpec := { name := "fnExactLiftOf", fn := fun _ => fun
  | [d] => { results := [.lit (.bool true)], args := [d] }
  | _ => none }
def fnExactLiftOfRow : OpenClaim := { program := "ytggammnpdmfgjaa", sum := "263fc1bad2e06170861e5fa89148a8dc00b4d5fc8e0417b6121752fa6281d8f5", func := "loop.example/g01331/laws.FnExactLiftOf", spec := "fnExactLiftOf", unfollowed := true, recurses := true, plainKeys := false, apart := false }
def FnExactLiftOfSaid : Prop := fnExactLiftOfRow.holds Try.pinned (OpenSpec.ofChange fnExactLiftOfSpec)

/-- ITS FALSE NEIGHBOUR: 'it returns false'. Refute it at one input. -/
def fnExactLiftOfWrong : ChangeSpec := { name := "fnExactLiftOf", fn := fun _ => fun
  | [d] => { results := [.lit (.bool false)], args := [d] }
  | _ => none }
def FnExactLiftOfWrongFalsely : Prop := fnExactLiftOfRow.holds Try.pinned (OpenSpec.ofChange fnExactLiftOfWrong)

/-- 'laws.FnExactIsFaithful': WHATEVER THE INPUT: true; the input reads as it did. -/
def fnExactIsFaithfulSpec : ChangeSpec := { name := "fnExactIsFaithful", fn := fun _ => fun
  | [d] => { results := [.lit (.bool true)], args := [d] }
  | _ => none }
def fnExactIsFaithfulRow : OpenClaim := { program := "ytggammnpdmfgjaa", sum := "263fc1bad2e06170861e5fa89148a8dc00b4d5fc8e0417b6121752fa6281d8f5", func := "loop.example/g01331/laws.FnExactIsFaithful", spec := "fnExactIsFaithful", plainKeys := false, apart := false }
def FnExactIsFaithfulSaid : Prop := fnExactIsFaithfulRow.holds Try.pinned (OpenSpec.ofChange fnExactIsFaithfulSpec)

/-- ITS FALSE NEIGHBOUR: 'it returns false'. Refute it at one input. -/
def fnExactIsFaithfulWrong : ChangeSpec := { name := "fnExactIsFaithful", fn := fun _ => fun
  | [d] => { results := [.lit (.bool false)], args := [d] }
  | _ => none }
def FnExactIsFaithfulWrongFalsely : Prop := fnExactIsFaithfulRow.holds Try.pinned (OpenSpec.ofChange fnExactIsFaithfulWrong)

/-- 'laws.FnExactOddGraph': WHATEVER THE INPUT: true; the input reads as it did. -/
def fnExactOddGraphSpec : ChangeSpec := { name := "fnExactOddGraph", fn := fun _ => fun
  | [d] => { results := [.lit (.bool true)], args := [d] }
  | _ => none }
def fnExactOddGraphRow : OpenClaim := { program := "ytggammnpdmfgjaa", sum := "263fc1bad2e06170861e5fa89148a8dc00b4d5fc8e0417b6121752fa6281d8f5", func := "loop.example/g01331/laws.FnExactOddGraph", spec := "fnExactOddGraph", unfollowed := true, recurses := true, plainKeys := false, apart := false }
def FnExactOddGraphSaid : Prop := fnExactOddGraphRow.holds Try.pinned (OpenSpec.ofChange fnExactOddGraphSpec)

/-- ITS FALSE NEIGHBOUR: 'it returns false'. Refute it at one input. -/
def fnExactOddGraphWrong : ChangeSpec := { name := "fnExactOddGraph", fn := fun _ => fun
  | [d] => { results := [.lit (.bool false)], args := [d] }
  | _ => none }
def FnExactOddGraphWrongFalsely : Prop := fnExactOddGraphRow.holds Try.pinned (OpenSpec.ofChange fnExactOddGraphWrong)

/-- 'laws.FnExactCountVoltWalks': WHATEVER THE INPUT: true; the input reads as it did. -/
def fnExactCountVoltWalksSpec : ChangeSpec := { name := "fnExactCountVoltWalks", fn := fun _ => fun
  | [d1, d2, d3] => { results := [.lit (.bool true)], args := [d1, d2, d3] }
  | _ => none }
def fnExactCountVoltWalksRow : OpenClaim := { program := "ytggammnpdmfgjaa", sum := "263fc1bad2e06170861e5fa89148a8dc00b4d5fc8e0417b6121752fa6281d8f5", func := "loop.example/g01331/laws.FnExactCountVoltWalks", spec := "fnExactCountVoltWalks", unfollowed := true, recurses := true, plainKeys := false, apart := false }
def FnExactCountVoltWalksSaid : Prop := fnExactCountVoltWalksRow.holds Try.pinned (OpenSpec.ofChange fnExactCountVoltWalksSpec)

/-- ITS FALSE NEIGHBOUR: 'it returns false'. Refute it at one input. -/
def fnExactCountVoltWalksWrong : ChangeSpec := { name := "fnExactCountVoltWalks", fn := fun _ => fun
  | [d1, d2, d3] => { results := [.lit (.bool false)], args := [d1, d2, d3] }
  | _ => none }
def FnExactCountVoltWalksWrongFalsely : Prop := fnExactCountVoltWalksRow.holds Try.pinned (OpenSpec.ofChange fnExactCountVoltWalksWrong)

/- THE SECOND FORM. 'bulk': how many values and letters a reading holds, each counted each time it is reached (what is shared counts as often as it is met; a slice's spare places count too). A statement '..UptoSaid' is the law's where the arguments, and the package variables that the reading takes, are together of bulk at most 1048576: NARROWER than '..Said'. Prove '..Said' where nothing that the law and all that it calls make is longer than what came in: it says more and counts as full. Else prove '..UptoSaid'. A law counts once. -/
mutual
def uptoBulk {H : Type} : DataW H → Nat
  | .lit (.string bytes) => bytes.length + 1
  | .lit _ => 1
  | .nil => 1
  | .ptr d => uptoBulk d + 1
  | .slice elems spare => uptoBulkAll elems + uptoBulkAll spare + 1
  | .agg parts => uptoBulkAll parts + 1
  | .iface _ d => uptoBulk d + 1
  | .map entries => uptoBulkEntries entries + 1
  | .held _ => 1
def uptoBulkAll {H : Type} : List (DataW H) → Nat
  | [] => 0
  | d :: r => uptoBulk d + uptoBulkAll r
def uptoBulkEntries {H : Type} : List (Lit × DataW H) → Nat
  | [] => 0
  | x :: r => uptoBulkEntry x + uptoBulkEntries r
def uptoBulkEntry {H : Type} : Lit × DataW H → Nat
  | (.string bytes, d) => bytes.length + uptoBulk d + 1
  | (_, d) => uptoBulk d + 1
 end
def uptoSmall : (H : Type) → List (DataW H) → Bool := fun _ ds => decide (uptoBulkAll ds ≤ 1048576)
def OpenSpec.upto (s : _root_.Go.ChangeSpec) : _root_.Go.OpenSpec := { _root_.Go.OpenSpec.ofChange s with cond := some uptoSmall }

/-- 'laws.FnExactLiftOf', WHERE WHAT IT READS IS OF BULK AT MOST 1048576: true; the input reads as it did. -/
def fnExactLiftOfUptoRow : OpenClaim := { program := "ytggammnpdmfgjaa", sum := "263fc1bad2e06170861e5fa89148a8dc00b4d5fc8e0417b6121752fa6281d8f5", func := "loop.example/g01331/laws.FnExactLiftOf", spec := "fnExactLiftOf", unfollowed := true, recurses := true, plainKeys := false, apart := false, narrowed := true }
def FnExactLiftOfUptoSaid : Prop := fnExactLiftOfUptoRow.holds Try.pinned (OpenSpec.upto fnExactLiftOfSpec)

/-- 'laws.FnExactIsFaithful', WHERE WHAT IT READS IS OF BULK AT MOST 1048576: true; the input reads as it did. -/
def fnExactIsFaithfulUptoRow : OpenClaim := { program := "ytggammnpdmfgjaa", sum := "263fc1bad2e06170861e5fa89148a8dc00b4d5fc8e0417b6121752fa6281d8f5", func := "loop.example/g01331/laws.FnExactIsFaithful", spec := "fnExactIsFaithful", plainKeys := false, apart := false, narrowed := true }
def FnExactIsFaithfulUptoSaid : Prop := fnExactIsFaithfulUptoRow.holds Try.pinned (OpenSpec.upto fnExactIsFaithfulSpec)

/-- 'laws.FnExactOddGraph', WHERE WHAT IT READS IS OF BULK AT MOST 1048576: true; the input reads as it did. -/
def fnExactOddGraphUptoRow : OpenClaim := { program := "ytggammnpdmfgjaa", sum := "263fc1bad2e06170861e5fa89148a8dc00b4d5fc8e0417b6121752fa6281d8f5", func := "loop.example/g01331/laws.FnExactOddGraph", spec := "fnExactOddGraph", unfollowed := true, recurses := true, plainKeys := false, apart := false, narrowed := true }
def FnExactOddGraphUptoSaid : Prop := fnExactOddGraphUptoRow.holds Try.pinned (OpenSpec.upto fnExactOddGraphSpec)

/-- 'laws.FnExactCountVoltWalks', WHERE WHAT IT READS IS OF BULK AT MOST 1048576: true; the input reads as it did. -/
def fnExactCountVoltWalksUptoRow : OpenClaim := { program := "ytggammnpdmfgjaa", sum := "263fc1bad2e06170861e5fa89148a8dc00b4d5fc8e0417b6121752fa6281d8f5", func := "loop.example/g01331/laws.FnExactCountVoltWalks", spec := "fnExactCountVoltWalks", unfollowed := true, recurses := true, plainKeys := false, apart := false, narrowed := true }
def FnExactCountVoltWalksUptoSaid : Prop := fnExactCountVoltWalksUptoRow.holds Try.pinned (OpenSpec.upto fnExactCountVoltWalksSpec)

end Rows
end Go.Proofs.Ytggammnpdmfgjaa
