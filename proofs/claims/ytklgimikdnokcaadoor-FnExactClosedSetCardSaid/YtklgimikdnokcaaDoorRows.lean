/-
  NARROWER THAN 'FOR EVERY INPUT', by the rows' own cells (each row's printed sentence says how): FnExactClosedSet: laid · FnExactIsConnectionSet: laid · FnExactCayleyGraph: laid · FnExactProductOfWord: laid · FnExactGeneratedBy: laid · FnExactWordGirth: laid.
  DERIVED. THE GIVEN ROWS OF THIS SEAT. 6 by the template 'for every input the law returns true; each argument reads behind the call as it read before'; 0 by the template 'total and deterministic' (their statements: YtklgimikdnokcaaDoorTotals.lean).
  GIVEN WITH THE SEED: the statements are not yours to turn. If you find one false, say at which input.
  Laid BY PROGRAM, IN A SANDBOX (cutbox-rows.mjs): the forced cells as the released guide's own fill.sh prints them over the translation cc93c1bf955d10e2… (all of the seat's roots in one cut). By AI agents, Wed Nov 11 2026. No macro, syntax, notation, axiom, sorry.
-/
import Derived.Test.YtklgimikdnokcaaDoorChecked
import GoSem.Claim
import GoSem.ClaimJoined
import GoSem.ClaimMapViews
import Derived.JoinedTies
import Derived.KernelRfl
namespace Go.Proofs.YtklgimikdnokcaaDoor
/- THE CELL 'sum', in the pinned program and in every row, IS THE sha256 OF THE DUMP (.gsa) THAT YtklgimikdnokcaaDoorProg.lean LOADS. Nothing in Lean hashes anything: it is a label: what it is worth is what the hold of that sum in a sandbox is worth. -/
noncomputable def Tryd.pinned : Pinned := { name := "ytklgimikdnokcaadoor", sum := "cc93c1bf955d10e289f5522cc8bbeb5b7a05ddef4842d517b13930108fbd98a1", checked := Tryd.checked }
namespace Rows
def none {H : Type} : Left H := { results := [], args := [] }

/- WHAT THE LISTED PACKAGE-LEVEL VARIABLES READ AS WHEN THE CALL BEGINS. Each datum BY PROGRAM (the guide's laid-datum.mjs) off the statement by which the dump's own 'gosem.cut.vars' lays the variable. In a bare row this is a premise. The card (YtklgimikdnokcaaDoorCards.lean) ties it to the program's text. -/
def laid_math_bits_deBruijn64tab {H : Type} : DataW H := .agg [.lit (.int .u8 0), .lit (.int .u8 1), .lit (.int .u8 56), .lit (.int .u8 2), .lit (.int .u8 57), .lit (.int .u8 49), .lit (.int .u8 28), .lit (.int .u8 3), .lit (.int .u8 61), .lit (.int .u8 58), .lit (.int .u8 42), .lit (.int .u8 50), .lit (.int .u8 38), .lit (.int .u8 29), .lit (.int .u8 17), .lit (.int .u8 4), .lit (.int .u8 62), .lit (.int .u8 47), .lit (.int .u8 59), .lit (.int .u8 36), .lit (.int .u8 45), .lit (.int .u8 43), .lit (.int .u8 51), .lit (.int .u8 22), .lit (.int .u8 53), .lit (.int .u8 39), .lit (.int .u8 33), .lit (.int .u8 30), .lit (.int .u8 24), .lit (.int .u8 18), .lit (.int .u8 12), .lit (.int .u8 5), .lit (.int .u8 63), .lit (.int .u8 55), .lit (.int .u8 48), .lit (.int .u8 27), .lit (.int .u8 60), .lit (.int .u8 41), .lit (.int .u8 37), .lit (.int .u8 16), .lit (.int .u8 46), .lit (.int .u8 35), .lit (.int .u8 44), .lit (.int .u8 21), .lit (.int .u8 52), .lit (.int .u8 32), .lit (.int .u8 23), .lit (.int .u8 11), .lit (.int .u8 54), .lit (.int .u8 26), .lit (.int .u8 40), .lit (.int .u8 15), .lit (.int .u8 34), .lit (.int .u8 20), .lit (.int .u8 31), .lit (.int .u8 10), .lit (.int .u8 25), .lit (.int .u8 14), .lit (.int .u8 19), .lit (.int .u8 9), .lit (.int .u8 13), .lit (.int .u8 8), .lit (.int .u8 7), .lit (.int .u8 6)]

/-- 'laws.FnExactClosedSet': WHATEVER THE INPUT: true; the input reads as it did. -/
def fnExactClosedSetSpec : ChangeSpec := { name := "fnExactClosedSet", fn := fun _ => fun
  | [d1, d2] => { results := [.lit (.bool true)], args := [d1, d2] }
  | _ => none }
def fnExactClosedSetRow : OpenClaim := { program := "ytklgimikdnokcaadoor", sum := "cc93c1bf955d10e289f5522cc8bbeb5b7a05ddef4842d517b13930108fbd98a1", func := "loop.example/g01331/laws.FnExactClosedSet", spec := "fnExactClosedSet", unfollowed := true, recurses := true, named := ["math/bits.deBruijn64tab"], apart := false, laid := [("math/bits.deBruijn64tab", laid_math_bits_deBruijn64tab)] }
def FnExactClosedSetSaid : Prop := fnExactClosedSetRow.holds Tryd.pinned (OpenSpec.ofChange fnExactClosedSetSpec)

/-- ITS FALSE NEIGHBOUR: 'it returns false'. Refute it at one input. -/
def fnExactClosedSetWrong : ChangeSpec := { name := "fnExactClosedSet", fn := fun _ => fun
  | [d1, d2] => { results := [.lit (.bool false)], args := [d1, d2] }
  | _ => none }
def FnExactClosedSetWrongFalsely : Prop := fnExactClosedSetRow.holds Tryd.pinned (OpenSpec.ofChange fnExactClosedSetWrong)

/-- 'laws.FnExactIsConnectionSet': WHATEVER THE INPUT: true; the input reads as it did. -/
def fnExactIsConnectionSetSpec : ChangeSpec := { name := "fnExactIsConnectionSet", fn := fun _ => fun
  | [d1, d2] => { results := [.lit (.bool true)], args := [d1, d2] }
  | _ => none }
def fnExactIsConnectionSetRow : OpenClaim := { program := "ytklgimikdnokcaadoor", sum := "cc93c1bf955d10e289f5522cc8bbeb5b7a05ddef4842d517b13930108fbd98a1", func := "loop.example/g01331/laws.FnExactIsConnectionSet", spec := "fnExactIsConnectionSet", unfollowed := true, recurses := true, named := ["math/bits.deBruijn64tab"], apart := false, laid := [("math/bits.deBruijn64tab", laid_math_bits_deBruijn64tab)] }
def FnExactIsConnectionSetSaid : Prop := fnExactIsConnectionSetRow.holds Tryd.pinned (OpenSpec.ofChange fnExactIsConnectionSetSpec)

/-- ITS FALSE NEIGHBOUR: 'it returns false'. Refute it at one input. -/
def fnExactIsConnectionSetWrong : ChangeSpec := { name := "fnExactIsConnectionSet", fn := fun _ => fun
  | [d1, d2] => { results := [.lit (.bool false)], args := [d1, d2] }
  | _ => none }
def FnExactIsConnectionSetWrongFalsely : Prop := fnExactIsConnectionSetRow.holds Tryd.pinned (OpenSpec.ofChange fnExactIsConnectionSetWrong)

/-- 'laws.FnExactCayleyGraph': WHATEVER THE INPUT: true; the input reads as it did. -/
def fnExactCayleyGraphSpec : ChangeSpec := { name := "fnExactCayleyGraph", fn := fun _ => fun
  | [d1, d2] => { results := [.lit (.bool true)], args := [d1, d2] }
  | _ => none }
def fnExactCayleyGraphRow : OpenClaim := { program := "ytklgimikdnokcaadoor", sum := "cc93c1bf955d10e289f5522cc8bbeb5b7a05ddef4842d517b13930108fbd98a1", func := "loop.example/g01331/laws.FnExactCayleyGraph", spec := "fnExactCayleyGraph", unfollowed := true, recurses := true, named := ["math/bits.deBruijn64tab"], apart := false, laid := [("math/bits.deBruijn64tab", laid_math_bits_deBruijn64tab)] }
def FnExactCayleyGraphSaid : Prop := fnExactCayleyGraphRow.holds Tryd.pinned (OpenSpec.ofChange fnExactCayleyGraphSpec)

/-- ITS FALSE NEIGHBOUR: 'it returns false'. Refute it at one input. -/
def fnExactCayleyGraphWrong : ChangeSpec := { name := "fnExactCayleyGraph", fn := fun _ => fun
  | [d1, d2] => { results := [.lit (.bool false)], args := [d1, d2] }
  | _ => none }
def FnExactCayleyGraphWrongFalsely : Prop := fnExactCayleyGraphRow.holds Tryd.pinned (OpenSpec.ofChange fnExactCayleyGraphWrong)

/-- 'laws.FnExactProductOfWord': WHATEVER THE INPUT: true; the input reads as it did. -/
def fnExactProductOfWordSpec : ChangeSpec := { name := "fnExactProductOfWord", fn := fun _ => fun
  | [d1, d2, d3] => { results := [.lit (.bool true)], args := [d1, d2, d3] }
  | _ => none }
def fnExactProductOfWordRow : OpenClaim := { program := "ytklgimikdnokcaadoor", sum := "cc93c1bf955d10e289f5522cc8bbeb5b7a05ddef4842d517b13930108fbd98a1", func := "loop.example/g01331/laws.FnExactProductOfWord", spec := "fnExactProductOfWord", unfollowed := true, recurses := true, named := ["math/bits.deBruijn64tab"], apart := false, laid := [("math/bits.deBruijn64tab", laid_math_bits_deBruijn64tab)] }
def FnExactProductOfWordSaid : Prop := fnExactProductOfWordRow.holds Tryd.pinned (OpenSpec.ofChange fnExactProductOfWordSpec)

/-- ITS FALSE NEIGHBOUR: 'it returns false'. Refute it at one input. -/
def fnExactProductOfWordWrong : ChangeSpec := { name := "fnExactProductOfWord", fn := fun _ => fun
  | [d1, d2, d3] => { results := [.lit (.bool false)], args := [d1, d2, d3] }
  | _ => none }
def FnExactProductOfWordWrongFalsely : Prop := fnExactProductOfWordRow.holds Tryd.pinned (OpenSpec.ofChange fnExactProductOfWordWrong)

/-- 'laws.FnExactGeneratedBy': WHATEVER THE INPUT: true; the input reads as it did. -/
def fnExactGeneratedBySpec : ChangeSpec := { name := "fnExactGeneratedBy", fn := fun _ => fun
  | [d1, d2] => { results := [.lit (.bool true)], args := [d1, d2] }
  | _ => none }
def fnExactGeneratedByRow : OpenClaim := { program := "ytklgimikdnokcaadoor", sum := "cc93c1bf955d10e289f5522cc8bbeb5b7a05ddef4842d517b13930108fbd98a1", func := "loop.example/g01331/laws.FnExactGeneratedBy", spec := "fnExactGeneratedBy", unfollowed := true, recurses := true, named := ["math/bits.deBruijn64tab"], apart := false, laid := [("math/bits.deBruijn64tab", laid_math_bits_deBruijn64tab)] }
def FnExactGeneratedBySaid : Prop := fnExactGeneratedByRow.holds Tryd.pinned (OpenSpec.ofChange fnExactGeneratedBySpec)

/-- ITS FALSE NEIGHBOUR: 'it returns false'. Refute it at one input. -/
def fnExactGeneratedByWrong : ChangeSpec := { name := "fnExactGeneratedBy", fn := fun _ => fun
  | [d1, d2] => { results := [.lit (.bool false)], args := [d1, d2] }
  | _ => none }
def FnExactGeneratedByWrongFalsely : Prop := fnExactGeneratedByRow.holds Tryd.pinned (OpenSpec.ofChange fnExactGeneratedByWrong)

/-- 'laws.FnExactWordGirth': WHATEVER THE INPUT: true; the input reads as it did. -/
def fnExactWordGirthSpec : ChangeSpec := { name := "fnExactWordGirth", fn := fun _ => fun
  | [d1, d2] => { results := [.lit (.bool true)], args := [d1, d2] }
  | _ => none }
def fnExactWordGirthRow : OpenClaim := { program := "ytklgimikdnokcaadoor", sum := "cc93c1bf955d10e289f5522cc8bbeb5b7a05ddef4842d517b13930108fbd98a1", func := "loop.example/g01331/laws.FnExactWordGirth", spec := "fnExactWordGirth", unfollowed := true, recurses := true, named := ["math/bits.deBruijn64tab"], apart := false, laid := [("math/bits.deBruijn64tab", laid_math_bits_deBruijn64tab)] }
def FnExactWordGirthSaid : Prop := fnExactWordGirthRow.holds Tryd.pinned (OpenSpec.ofChange fnExactWordGirthSpec)

/-- ITS FALSE NEIGHBOUR: 'it returns false'. Refute it at one input. -/
def fnExactWordGirthWrong : ChangeSpec := { name := "fnExactWordGirth", fn := fun _ => fun
  | [d1, d2] => { results := [.lit (.bool false)], args := [d1, d2] }
  | _ => none }
def FnExactWordGirthWrongFalsely : Prop := fnExactWordGirthRow.holds Tryd.pinned (OpenSpec.ofChange fnExactWordGirthWrong)

/- THE SECOND FORM. 'bulk': how many values and letters a reading holds, each counted each time it is reached (what is shared counts as often as it is met; a slice's spare places count too). A statement '..UptoSaid' is the law's where the arguments, and the package variables that the reading takes, are together of bulk at most 1048576: NARROWER than '..Said'. Prove '..Said' where nothing that the law and all that it calls make is longer than what came in: it says more and counts as full. Else prove '..UptoSaid'. A law counts once. -/
mutual
def uptoBulk {H : Type} : DataW H → Nat
  | .lit (.string bytes) => bytes.length + 1
  | .lit _ => 1
  | .nil => 1
  | .ptr d => uptoBulk d + 1
  | .slice elems spare => uptoBulkAll elems + uptoBulkAll spare + 1
  | .agg parts => uptoBulkAll parts + 1
  | .iface _ d => uptoBulk d + 1
  | .map entries => uptoBulkEntries entries + 1
  | .held _ => 1
def uptoBulkAll {H : Type} : List (DataW H) → Nat
  | [] => 0
  | d :: r => uptoBulk d + uptoBulkAll r
def uptoBulkEntries {H : Type} : List (Lit × DataW H) → Nat
  | [] => 0
  | x :: r => uptoBulkEntry x + uptoBulkEntries r
def uptoBulkEntry {H : Type} : Lit × DataW H → Nat
  | (.string bytes, d) => bytes.length + uptoBulk d + 1
  | (_, d) => uptoBulk d + 1
 end
def uptoSmall : (H : Type) → List (DataW H) → Bool := fun _ ds => decide (uptoBulkAll ds ≤ 1048576)
def OpenSpec.upto (s : _root_.Go.ChangeSpec) : _root_.Go.OpenSpec := { _root_.Go.OpenSpec.ofChange s with cond := some uptoSmall }

/-- 'laws.FnExactClosedSet', WHERE WHAT IT READS IS OF BULK AT MOST 1048576: true; the input reads as it did. -/
def fnExactClosedSetUptoRow : OpenClaim := { program := "ytklgimikdnokcaadoor", sum := "cc93c1bf955d10e289f5522cc8bbeb5b7a05ddef4842d517b13930108fbd98a1", func := "loop.example/g01331/laws.FnExactClosedSet", spec := "fnExactClosedSet", unfollowed := true, recurses := true, named := ["math/bits.deBruijn64tab"], apart := false, laid := [("math/bits.deBruijn64tab", laid_math_bits_deBruijn64tab)], narrowed := true }
def FnExactClosedSetUptoSaid : Prop := fnExactClosedSetUptoRow.holds Tryd.pinned (OpenSpec.upto fnExactClosedSetSpec)

/-- 'laws.FnExactIsConnectionSet', WHERE WHAT IT READS IS OF BULK AT MOST 1048576: true; the input reads as it did. -/
def fnExactIsConnectionSetUptoRow : OpenClaim := { program := "ytklgimikdnokcaadoor", sum := "cc93c1bf955d10e289f5522cc8bbeb5b7a05ddef4842d517b13930108fbd98a1", func := "loop.example/g01331/laws.FnExactIsConnectionSet", spec := "fnExactIsConnectionSet", unfollowed := true, recurses := true, named := ["math/bits.deBruijn64tab"], apart := false, laid := [("math/bits.deBruijn64tab", laid_math_bits_deBruijn64tab)], narrowed := true }
def FnExactIsConnectionSetUptoSaid : Prop := fnExactIsConnectionSetUptoRow.holds Tryd.pinned (OpenSpec.upto fnExactIsConnectionSetSpec)

/-- 'laws.FnExactCayleyGraph', WHERE WHAT IT READS IS OF BULK AT MOST 1048576: true; the input reads as it did. -/
def fnExactCayleyGraphUptoRow : OpenClaim := { program := "ytklgimikdnokcaadoor", sum := "cc93c1bf955d10e289f5522cc8bbeb5b7a05ddef4842d517b13930108fbd98a1", func := "loop.example/g01331/laws.FnExactCayleyGraph", spec := "fnExactCayleyGraph", unfollowed := true, recurses := true, named := ["math/bits.deBruijn64tab"], apart := false, laid := [("math/bits.deBruijn64tab", laid_math_bits_deBruijn64tab)], narrowed := true }
def FnExactCayleyGraphUptoSaid : Prop := fnExactCayleyGraphUptoRow.holds Tryd.pinned (OpenSpec.upto fnExactCayleyGraphSpec)

/-- 'laws.FnExactProductOfWord', WHERE WHAT IT READS IS OF BULK AT MOST 1048576: true; the input reads as it did. -/
def fnExactProductOfWordUptoRow : OpenClaim := { program := "ytklgimikdnokcaadoor", sum := "cc93c1bf955d10e289f5522cc8bbeb5b7a05ddef4842d517b13930108fbd98a1", func := "loop.example/g01331/laws.FnExactProductOfWord", spec := "fnExactProductOfWord", unfollowed := true, recurses := true, named := ["math/bits.deBruijn64tab"], apart := false, laid := [("math/bits.deBruijn64tab", laid_math_bits_deBruijn64tab)], narrowed := true }
def FnExactProductOfWordUptoSaid : Prop := fnExactProductOfWordUptoRow.holds Tryd.pinned (OpenSpec.upto fnExactProductOfWordSpec)

/-- 'laws.FnExactGeneratedBy', WHERE WHAT IT READS IS OF BULK AT MOST 1048576: true; the input reads as it did. -/
def fnExactGeneratedByUptoRow : OpenClaim := { program := "ytklgimikdnokcaadoor", sum := "cc93c1bf955d10e289f5522cc8bbeb5b7a05ddef4842d517b13930108fbd98a1", func := "loop.example/g01331/laws.FnExactGeneratedBy", spec := "fnExactGeneratedBy", unfollowed := true, recurses := true, named := ["math/bits.deBruijn64tab"], apart := false, laid := [("math/bits.deBruijn64tab", laid_math_bits_deBruijn64tab)], narrowed := true }
def FnExactGeneratedByUptoSaid : Prop := fnExactGeneratedByUptoRow.holds Tryd.pinned (OpenSpec.upto fnExactGeneratedBySpec)

/-- 'laws.FnExactWordGirth', WHERE WHAT IT READS IS OF BULK AT MOST 1048576: true; the input reads as it did. -/
def fnExactWordGirthUptoRow : OpenClaim := { program := "ytklgimikdnokcaadoor", sum := "cc93c1bf955d10e289f5522cc8bbeb5b7a05ddef4842d517b13930108fbd98a1", func := "loop.example/g01331/laws.FnExactWordGirth", spec := "fnExactWordGirth", unfollowed := true, recurses := true, named := ["math/bits.deBruijn64tab"], apart := false, laid := [("math/bits.deBruijn64tab", laid_math_bits_deBruijn64tab)], narrowed := true }
def FnExactWordGirthUptoSaid : Prop := fnExactWordGirthUptoRow.holds Tryd.pinned (OpenSpec.upto fnExactWordGirthSpec)

end Rows
end Go.Proofs.YtklgimikdnokcaaDoor
