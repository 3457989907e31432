/-
  Marks of loops over iterators among the deferred calls. (Any seat.)
-/
import Derived.Test.YtkflcjhoghiffaaDoorProg
import Derived.RangeFuncNested
import Derived.RangeFuncBound
import Derived.RangeFuncCalls
import Derived.RangeFuncLeaves
import Derived.Shelf.Abstract
import Derived.Shelf.RegionOpen
import Derived.WalkKit
import Derived.OwnWalkIn
import Derived.TacticsInMore
import Derived.LoopNIn
import Derived.LoopIn
namespace Go.Proofs.YtkflcjhoghiffaaDoor
set_option maxRecDepth 100000
open Go.RowKit Go.Shelf

/-- The marks of loops over iterators among an activation's deferred calls. -/
def marks (Ds : List Nat) : List Deferred := Ds.map fun D => { target := .collected D, args := #[] }
/-- The blocks of such marks, each there once, each with no call in it. -/
def DsOk (H : Nat) (W : World) (Ds : List Nat) : Prop := Ds.Nodup ∧ ∀ D, D ∈ Ds → H ≤ D ∧ W.heap[D]? = some (.deferred (some []))
theorem DsOk.alloc {H : Nat} {W : World} {Ds : List Nat} (h : DsOk H W Ds) (o : Obj) : DsOk H (W.alloc o) Ds :=
  ⟨h.1, fun D hD => ⟨(h.2 D hD).1, (Below.heap_alloc W o D (Array.getElem?_eq_some_iff.1 (h.2 D hD).2).1).trans (h.2 D hD).2⟩⟩
theorem DsOk.kept {H : Nat} {W W' : World} {Ds : List Nat} (h : DsOk H W Ds) (hk : ∀ D, D ∈ Ds → W'.heap[D]? = W.heap[D]?) : DsOk H W' Ds :=
  ⟨h.1, fun D hD => ⟨(h.2 D hD).1, (hk D hD).trans (h.2 D hD).2⟩⟩
theorem leaves_marks {F : Fence} {n : Nat} {P : Program} {fn : Func} {tmps : Array Value} {R : Ending → World → Prop} {H : Nat} : ∀ (Ds : List Nat) (W : World), DsOk H W Ds →
    (∀ W', (∀ k, k ∉ Ds → W'.heap[k]? = W.heap[k]?) → Below H W W' → LeavesIn F n P fn tmps R [] .returning W') → LeavesInM F n P fn tmps R (marks Ds) .returning W
  | [], W, _, h => h W (fun _ _ => rfl) (Below.refl _ _)
  | D :: Ds, W, hD, h => by
    have h1 := hD.2 D List.mem_cons_self
    refine ⟨by simp, .inl ⟨D, _, rfl, run_takeDeferred h1.2, ?_⟩⟩
    have hnd := List.nodup_cons.1 hD.1
    have hlt := (Array.getElem?_eq_some_iff.1 h1.2).1
    have hp : ∀ k, k ≠ D → (W.putObj D (.deferred none)).heap[k]? = W.heap[k]? := fun k hk => World.putObj_heap_other hk
    have hb : Below H W (W.putObj D (.deferred none)) := (Below.refl H W).grown (grownBy_putObj' W D (.deferred none)) (by omega) (fun k e => by cases e; exact h1.1)
    refine leaves_marks Ds _ ⟨hnd.2, fun E hE => ⟨(hD.2 E (List.mem_cons_of_mem _ hE)).1, (hp E (fun e => hnd.1 (e ▸ hE))).trans (hD.2 E (List.mem_cons_of_mem _ hE)).2⟩⟩ fun W' h2 h3 => ?_
    exact h W' (fun k hk => (h2 k (fun e => hk (List.mem_cons_of_mem _ e))).trans (hp k (fun e => hk (e ▸ List.mem_cons_self)))) (hb.trans h3)
theorem at_world {F : Fence} {n : Nat} {P : Program} {c : Code} {Q : Exit → Act → World → Prop} {a : Act} {w w' : World} (h : c.wpIn F n P Q a w') (e : w = w') : c.wpIn F n P Q a w := e ▸ h
theorem kept_row {W W' : World} {row : Option Nat} {B k : Nat} {o : Obj} (hg : W.grownBy W' row) (hr : ∀ r, row = some r → B ≤ r ∧ ∃ o : Obj, W.heap[r]? = some o ∧ o.isCells = false) (hk : k < B) (h : W.heap[k]? = some o) : W'.heap[k]? = some o :=
  (hg.block k (Array.getElem?_eq_some_iff.1 h).1 (fun e => by have := (hr k e.symm).1; omega)).trans h
end Go.Proofs.YtkflcjhoghiffaaDoor
