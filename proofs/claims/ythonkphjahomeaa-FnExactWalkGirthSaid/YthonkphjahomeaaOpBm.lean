/-
  A base that came in, opened. (A plain seat.)
-/
import Derived.Test.YthonkphjahomeaaMa2
import Derived.ProofKit
import Derived.OpenShut
import Derived.ChangeOld
import Derived.Deep.Slices
import Derived.Deep.DeepHandedRow
import Derived.Lib.SmallJoins
namespace Go.Proofs.Ythonkphjahomeaa
set_option maxRecDepth 100000
open Go.ChangeShapes Go.WideShapes Go.ChangeAt Go.RowKit

theorem laidOut : laidOutB Try.prog = true := by kernel_rfl
theorem cellsB : Try.prog.cellsOf 24 = 3 := by kernel_rfl
theorem cellsA : Try.prog.cellsOf 51 = 3 := by kernel_rfl
theorem cellsI : Try.prog.cellsOf 2 = 1 := by kernel_rfl

/-- One arc's cells. -/
theorem open_arc {H : Type} {enc : TypeId × Value → H} {W : World} {n : Nat} {cs : List Value} {x : DataW H × List MemPlace} (h : DataW.trod enc Try.prog W 0 (fun _ => true) true n 51 cs = some x) (hlen : cs.length = 3) :
    ∃ a b c : Int, cs = [.int .i64 a, .int .i64 b, .int .i64 c] := by
  obtain ⟨xs, k, _, _, _, hxl, hf⟩ := DataW.trod_struct Try.underlying51 h
  match xs, hxl, cs, hlen with
  | [y0, y1, y2], _, [v0, v1, v2], _ =>
    have g0 := hf 0 _ rfl
    have g1 := hf 1 _ rfl
    have g2 := hf 2 _ rfl
    simp [cellsI] at g0 g1 g2
    obtain ⟨a, e0, _⟩ := DataW.trod_int Try.underlying2 g0
    obtain ⟨b, e1, _⟩ := DataW.trod_int Try.underlying2 g1
    obtain ⟨c, e2, _⟩ := DataW.trod_int Try.underlying2 g2
    simp at e0 e1 e2
    subst e0; subst e1; subst e2
    exact ⟨a, b, c, rfl⟩

def cellZ (W : World) (a : Addr) (j : Nat) : Int := match W.cell? (a.add j) with
  | some (.int _ z) => z
  | _ => 0

/-- A base value that came in, opened. -/
theorem open_base {H : Type} {enc : TypeId × Value → H} {W : World} {base : Nat} {v : Value} {d : DataW H} {p : List MemPlace} (hv : Value.okWide Try.prog W .any base 24 v)
    (h : DataW.Trod enc Try.prog W 0 (fun _ => true) true 24 v d p) : ∃ (n m : Int) (u : Value) (k : Nat) (fs : List Int), v = .agg #[.int .i64 n, .int .i64 m, u] ∧ Sa W u k fs ∧ k ≤ 9223372036854775807 := by
  obtain ⟨c0, c1, c2, y0, y1, y2, f, rfl, rfl, rfl, hy0, hy1, hy2⟩ := Joins.open_agg3 Try.underlying24 (by kernel_rfl) cellsB hv h
  obtain ⟨n, e0, _⟩ := DataW.trod_int Try.underlying2 hy0
  obtain ⟨m, e1, _⟩ := DataW.trod_int Try.underlying2 hy1
  simp at e0 e1
  subst e0; subst e1
  rcases Deep.open_slice Try.underlying22 hy2 with ⟨hcs, _⟩ | ⟨x, len, cap, mm, q, D, Pl, hcs, _, hl, hm, hmm, _, hx⟩
  · simp at hcs; subst hcs
    exact ⟨n, m, _, 0, [], rfl, ⟨rfl, .inl ⟨_, _, rfl, rfl⟩⟩, by omega⟩
  · simp at hcs; subst hcs
    simp only [if_true] at hmm
    have hlm : len ≤ mm := by omega
    have each : ∀ j, j < 3 * len → W.cell? (x.add j) = some (.int .i64 (cellZ W x j)) := by
      intro j hj
      obtain ⟨cs', h1, h2⟩ := hx (j / 3) (by omega)
      rw [cellsA] at h1
      obtain ⟨_, hlen, hcell⟩ := World.cells?_some h1
      obtain ⟨a, b, c, rfl⟩ := open_arc h2 hlen
      have e := hcell (j % 3) (Nat.mod_lt _ (by decide))
      rw [Addr.add_add] at e
      rw [show j / 3 * 3 + j % 3 = j by omega] at e
      have h3 : j % 3 = 0 ∨ j % 3 = 1 ∨ j % 3 = 2 := by omega
      unfold cellZ
      rcases h3 with h3 | h3 | h3 <;> (rw [h3] at e; rw [e]; rfl)
    have hfl : ((List.range (3 * len)).map (cellZ W x)).length = 3 * len := by simp
    refine ⟨n, m, _, len, (List.range (3 * len)).map (cellZ W x), rfl, ⟨hfl, ?_⟩, by unfold maxLen at hm; omega⟩
    by_cases h0 : len = 0
    · subst h0
      exact .inl ⟨_, _, rfl, rfl⟩
    · obtain ⟨b, off, spot⟩ := x
      have hc := each 0 (by omega)
      have hspot : spot = none := by simpa [Addr.add] using World.cell?_spot hc
      subst hspot
      refine .inr ⟨b, off, cap, rfl, World.block_lt_of_cell? W _ (by simpa [Addr.add] using hc), fun i hi => ?_⟩
      rw [hfl] at hi
      have hci := each i hi
      have e : el ((List.range (3 * len)).map (cellZ W ⟨b, off, none⟩)) i = cellZ W ⟨b, off, none⟩ i := by unfold el; simp [hi]
      rw [e, ← hci]
      congr 1
      unfold Addr.add; split <;> simp_all
end Go.Proofs.Ythonkphjahomeaa
