/-
  spec.ComplementOf.
-/
import Derived.Test.YtbacocldjcenjaaDoorGr
import Derived.BigRegion
namespace Go.Proofs.YtbacocldjcenjaaDoor
set_option maxRecDepth 100000
open Go.RowKit

/-- The complement's rows. -/
def compL (n : Int) (zs : List Int) : List Int := (List.range zs.length).map (cm n zs)
theorem compL_length (n : Int) (zs : List Int) : (compL n zs).length = zs.length := by simp [compL]
theorem el_compL (n : Int) (zs : List Int) (v : Nat) (h : v < zs.length) : el (compL n zs) v = cm n zs v := by simp [el, compL, h]

theorem cm_at {zs : List Int} (hg : isG (zs.length : Int) zs = true) (hl : zs.length ≤ 62) (v : Nat) (hv : v < zs.length) :
    (0 ≤ el zs v ∧ el zs v ≤ 2 ^ zs.length - 1) ∧ bits .andNot .i64 (2 ^ zs.length - 1) (el zs v) = 2 ^ zs.length - 1 - el zs v ∧ bits .andNot .i64 (2 ^ zs.length - 1 - el zs v) (2 ^ v) = 2 ^ zs.length - 1 - el zs v - 2 ^ v ∧ 0 ≤ (2 : Int) ^ zs.length - 1 - el zs v - 2 ^ v := by
  have h4 := (isG_parts hg).2.2.2.1
  have h := rowsOk_at h4 hv
  have h0 := rowOk_ge h
  have h1 := rowOk_le h
  have h2 := rowOk_not h
  have := cm_bits (zs.length : Int) (el zs v) v h0 h1 (by omega) (by omega) h2
  rw [Int.toNat_natCast] at h1 this
  exact ⟨⟨h0, h1⟩, this⟩
theorem cm_len (zs : List Int) (v : Nat) : cm (zs.length : Int) zs v = 2 ^ zs.length - 1 - el zs v - 2 ^ v := by unfold cm; rw [Int.toNat_natCast]

theorem results_cell2 {P : Program} {fn : Func} {p u : Tmp} {ty : TypeId} (h : fn.results = #[.cell p ty, .tmp u]) (tmps : Array Value) (w : World) (g : Nat) (t : TypeId) (cs : Array Value) (fr : Nat × Nat) (d : TypeDesc)
    (hp : tmps.getD p undef = .pointer (some ⟨g, 0, none⟩)) (hg : w.heap[g]? = some (.cells cs t fr))
    (hu : P.underlying ty = some d) (hd : (match d with | .struct _ | .array _ _ => true | _ => false) = true) (hi : (P.info? ty).map (·.size) = some cs.size) :
    (results fn tmps).run P w = .ok (.tuple #[.agg cs, tmps.getD u undef]) w := by
  have hp' : tmps[p]?.getD undef = .pointer (some ⟨g, 0, none⟩) := by simpa using hp
  simp only [results, h]
  simp [hp', asAddr, run_loadVar_row w g t ty cs fr d hg hu hd hi]

/-- The complement and its code. -/
def CL (n : Int) (zs : List Int) : List Int := if isG n zs then compL n zs else []
def CN (n : Int) (zs : List Int) : Int := if isG n zs then n else 0
def CC (n : Int) (zs : List Int) : Int := if isG n zs then 0 else 1
theorem CL_length (n : Int) (zs : List Int) : (CL n zs).length ≤ zs.length := by unfold CL; split <;> simp [compL_length]

end Go.Proofs.YtbacocldjcenjaaDoor
