/-
  Lists of lists compared and marked; what marks leave. (A plain seat.)
-/
import Derived.Test.YtkflcjhoghiffaaDoorSt
import Derived.Deep.RegionWith
namespace Go.Proofs.YtkflcjhoghiffaaDoor
set_option maxRecDepth 100000
open Go.RowKit

theorem eqInts_eq (v1 v2 : Value) (xs : List Int) (w : World) (h1 : Sl w v1 xs) (h2 : Sl w v2 xs) (hx : xs.length ≤ 9223372036854775807) :
    Calls Tryd.prog 35 #[v1, v2] w fun e w' => e = .returned (.bool true) ∧ Below w.heap.size w w' := by
  have := eqInts_any v1 v2 xs xs w h1 h2 hx
  simpa using this

/-- Of what was there, nothing but blocks from lo up to below hi has turned. -/
def Rng (w w' : World) (lo hi : Nat) : Prop := w'.os = w.os ∧ w'.tape = w.tape ∧ w'.output = w.output ∧ w.heap.size ≤ w'.heap.size ∧ ∀ k, k < w.heap.size → (k < lo ∨ hi ≤ k) → w'.heap[k]? = w.heap[k]?
theorem Rng.refl (w : World) (lo hi : Nat) : Rng w w lo hi := ⟨rfl, rfl, rfl, Nat.le_refl _, fun _ _ _ => rfl⟩
theorem Rng.grown {w w1 w2 : World} {lo hi g : Nat} (h : Rng w w1 lo hi) (hg : w1.grownBy w2 (some g)) (h1 : lo ≤ g) (h2 : g < hi) : Rng w w2 lo hi :=
  ⟨hg.os.trans h.1, hg.tape.trans h.2.1, hg.output.trans h.2.2.1, Nat.le_trans h.2.2.2.1 hg.size, fun k hk ho => (hg.block k (Nat.lt_of_lt_of_le hk h.2.2.2.1) (by simp; omega)).trans (h.2.2.2.2 k hk ho)⟩
theorem Rng.block {w w' : World} {lo hi k : Nat} {x : Obj} (h : Rng w w' lo hi) (hx : w.heap[k]? = some x) (ho : k < lo ∨ hi ≤ k) : w'.heap[k]? = some x := (h.2.2.2.2 k (Array.getElem?_eq_some_iff.1 hx).1 ho).trans hx
theorem Below.rng {B lo hi : Nat} {w w1 w2 : World} (h : Below B w w1) (hr : Rng w1 w2 lo hi) (hB : B ≤ lo) (hs : B ≤ w1.heap.size) : Below B w w2 :=
  ⟨hr.1.trans h.os, hr.2.1.trans h.tape, hr.2.2.1.trans h.output, Nat.le_trans h.size hr.2.2.2.1, fun k hk => (hr.2.2.2.2 k (by omega) (.inl (by omega))).trans (h.block k hk)⟩
theorem Own.rng {w w' : World} {B lo hi : Nat} {u : Value} {L : List Int} (h : Own w B u L) (hr : Rng w w' lo hi) (ho : ∀ k, u.ownBlock = some k → k < lo ∨ hi ≤ k) : Own w' B u L := by
  refine ⟨h.1, h.2.imp id fun ⟨g, cap, cur, e, hB, hg, r⟩ => ⟨g, cap, cur, e, hB, hr.block hg (ho g (by rw [e]; rfl)), r⟩⟩

end Go.Proofs.YtkflcjhoghiffaaDoor
