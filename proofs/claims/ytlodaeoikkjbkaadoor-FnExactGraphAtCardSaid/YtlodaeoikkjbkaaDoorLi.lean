/-
  impl.LevelsFrom.
-/
import Derived.Test.YtlodaeoikkjbkaaDoorLs
import Derived.Test.YtlodaeoikkjbkaaDoorCk2
namespace Go.Proofs.YtlodaeoikkjbkaaDoor
set_option maxRecDepth 100000
open Go.RowKit

theorem levelRows_zero (n : Int) (b off cap : Nat) (zs : List Int) (v : Nat) (w : World) (hb : b < w.heap.size) (hc : Cells w b off zs) (hT : Tab w) (hg : isG n zs = true) (hv : v < zs.length) :
    Calls Tryd.prog 61 #[.agg #[.int .i64 n, .slice (some ⟨b, off, none⟩) zs.length cap], .int .i64 v, .int .i64 0] w fun e w' => ∃ (ls : List Nat) (gl capl : Nat), e = .returned (.slice (some ⟨gl, 0, none⟩) ls.length capl) ∧ w'.ownsRow w.heap.size 2 1 (.slice (some ⟨gl, 0, none⟩) ls.length capl) ls.length (natsV ls) ∧ LvOk zs v 0 ls ∧ 0 < ls.length ∧ Below w.heap.size w w' := by
  have h := levelRows_some n b off cap zs v 0 w hb hc hT hg hv
  rw [show ((0 : Nat) : Int) = 0 from rfl] at h
  refine h.mono ?_
  rintro e w' ⟨⟨u, ls, rfl, hown, hok⟩, hB⟩
  have hpos : 0 < ls.length := by
    refine Nat.pos_of_ne_zero fun h0 => ?_
    have := hok.last v
    rw [h0, lev_zero] at this
    simp at this
  obtain ⟨gl, capl, rfl, _, _⟩ := World.ownsRow.form hown hpos
  exact ⟨ls, gl, capl, rfl, hown, hok, hpos, hB⟩
theorem natsV_at {ls : List Nat} {k r : Nat} (h : ls[k]? = some r) : (natsV ls)[k]? = some (.int .i64 (r : Int)) := by unfold natsV; simp [h]
/-- The numbers of digits. -/
def pcL (ls : List Nat) : List Int := ls.map fun r => ((pc r : Nat) : Int)
theorem pcL_take {ls : List Nat} {k r : Nat} (h : ls[k]? = some r) : pcL (ls.take (k + 1)) = pcL (ls.take k) ++ [((pc r : Nat) : Int)] := by
  unfold pcL; rw [List.take_add_one, h]; simp
theorem pcL_len (ls : List Nat) (k : Nat) : (pcL (ls.take k)).length ≤ k := by unfold pcL; simp; omega
theorem pow_small {r m : Nat} (h : r < 2 ^ m) (hm : m ≤ 62) : (r : Int) ≤ 4611686018427387904 := by
  have : 2 ^ m ≤ 2 ^ 62 := Nat.pow_le_pow_right (by decide) hm
  omega

theorem g1L_len {f : List Int → Nat → List Int} (hf : ∀ zs v, v < zs.length → (f zs v).length ≤ zs.length) (n : Int) (zs : List Int) (x : Int) : (g1L f n zs x).length ≤ zs.length := by
  unfold g1L
  split
  · next h =>
    simp only [Bool.and_eq_true, decide_eq_true_eq] at h
    obtain ⟨h1, h2, h3⟩ := h
    have := (isG_parts h1).2.2.1
    exact hf zs x.toNat (by omega)
  · simp
end Go.Proofs.YtlodaeoikkjbkaaDoor
