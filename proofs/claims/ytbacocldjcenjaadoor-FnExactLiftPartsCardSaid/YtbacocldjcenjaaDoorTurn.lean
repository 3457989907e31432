/-
  impl.turnedRows: the rows read by columns.
-/
import Derived.Test.YtbacocldjcenjaaDoorArr
import Derived.Deep.MidRow
namespace Go.Proofs.YtbacocldjcenjaaDoor
set_option maxRecDepth 100000
open Go.RowKit Go.Shelf

attribute [local go_sem] Oper.semAt_some

/-- The marks of loops over iterators among an activation's deferred calls. -/
def marks (Ds : List Nat) : List Deferred := Ds.map fun D => { target := .collected D, args := #[] }
/-- The blocks of such marks, each there once, each with no call in it. -/
def DsOk (H : Nat) (W : World) (Ds : List Nat) : Prop := Ds.Nodup ∧ ∀ D, D ∈ Ds → H ≤ D ∧ W.heap[D]? = some (.deferred (some []))

/-- Column j of the first v rows. -/
def tcol (f : Nat → Nat) : Nat → Nat → Nat
  | 0, _ => 0
  | v + 1, j => if (f v).testBit j then tcol f v j ||| 2 ^ v else tcol f v j

/-- Column j while row v is being read. -/
def tpre (f : Nat → Nat) (v : Nat) (pre : List Nat) (j : Nat) : Nat := if j ∈ pre then tcol f v j ||| 2 ^ v else tcol f v j

theorem kept_block {W W' : World} {row : Option Nat} {B k : Nat} {o : Obj} (hg : W.grownBy W' row) (hr : ∀ r, row = some r → B ≤ r ∧ ∃ o : Obj, W.heap[r]? = some o ∧ o.isCells = false) (hk : k < B) (h : W.heap[k]? = some o) : W'.heap[k]? = some o :=
  (hg.block k (Array.getElem?_eq_some_iff.1 h).1 (fun e => by have := (hr k e.symm).1; omega)).trans h
theorem DsOk.alloc {H : Nat} {W : World} {Ds : List Nat} (h : DsOk H W Ds) (o : Obj) : DsOk H (W.alloc o) Ds :=
  ⟨h.1, fun D hD => ⟨(h.2 D hD).1, (Below.heap_alloc W o D (Array.getElem?_eq_some_iff.1 (h.2 D hD).2).1).trans (h.2 D hD).2⟩⟩
theorem DsOk.kept {H : Nat} {W W' : World} {Ds : List Nat} (h : DsOk H W Ds) (hk : ∀ D, D ∈ Ds → W'.heap[D]? = W.heap[D]?) : DsOk H W' Ds :=
  ⟨h.1, fun D hD => ⟨(h.2 D hD).1, (hk D hD).trans (h.2 D hD).2⟩⟩

theorem heap_setRow_other (W : World) (B k : Nat) (cs : Array Value) (hk : k ≠ B) : (W.setRow B cs).heap[k]? = W.heap[k]? := by
  simp only [World.setRow, Array.getElem?_modify]
  rw [if_neg (fun e => hk e.symm)]
theorem setRow_below {H B : Nat} {W : World} (hB : H ≤ B) (cs : Array Value) : Below H W (W.setRow B cs) :=
  ⟨rfl, rfl, rfl, by simp, fun k hk => heap_setRow_other W B k cs (by omega)⟩

/-- A function that returns with marks alone among its deferred calls. -/
theorem leaves_marks {F : Fence} {n : Nat} {P : Program} {fn : Func} {tmps : Array Value} {R : Ending → World → Prop} {H : Nat} : ∀ (Ds : List Nat) (W : World), DsOk H W Ds →
    (∀ W', (∀ k, k ∉ Ds → W'.heap[k]? = W.heap[k]?) → Below H W W' → LeavesIn F n P fn tmps R [] .returning W') → LeavesInM F n P fn tmps R (marks Ds) .returning W
  | [], W, _, h => h W (fun _ _ => rfl) (Below.refl _ _)
  | D :: Ds, W, hD, h => by
    have h1 := hD.2 D List.mem_cons_self
    refine ⟨by simp, .inl ⟨D, _, rfl, run_takeDeferred h1.2, ?_⟩⟩
    have hnd := List.nodup_cons.1 hD.1
    have hlt := (Array.getElem?_eq_some_iff.1 h1.2).1
    have hp : ∀ k, k ≠ D → (W.putObj D (.deferred none)).heap[k]? = W.heap[k]? := fun k hk => World.putObj_heap_other hk
    have hb : Below H W (W.putObj D (.deferred none)) := (Below.refl H W).grown (grownBy_putObj' W D (.deferred none)) (by omega) (fun k e => by cases e; exact h1.1)
    refine leaves_marks Ds _ ⟨hnd.2, fun E hE => ⟨(hD.2 E (List.mem_cons_of_mem _ hE)).1, (hp E (fun e => hnd.1 (e ▸ hE))).trans (hD.2 E (List.mem_cons_of_mem _ hE)).2⟩⟩ fun W' h2 h3 => ?_
    exact h W' (fun k hk => (h2 k (fun e => hk (List.mem_cons_of_mem _ e))).trans (hp k (fun e => hk (e ▸ List.mem_cons_self)))) (hb.trans h3)

theorem tpre_step (f : Nat → Nat) (v : Nat) (pre : List Nat) (y : Nat) : tpre f v pre y ||| 2 ^ v = tpre f v (pre ++ [y]) y := by
  unfold tpre
  have : y ∈ pre ++ [y] := by simp
  rw [if_pos this]
  split
  · rw [Nat.or_assoc, Nat.or_self]
  · rfl
theorem tpre_other (f : Nat → Nat) (v : Nat) (pre : List Nat) (y i : Nat) (h : i ≠ y) : tpre f v (pre ++ [y]) i = tpre f v pre i := by
  unfold tpre; simp [h]
theorem tpre_nil (f : Nat → Nat) (v i : Nat) : tpre f v [] i = tcol f v i := by unfold tpre; simp
theorem tpre_all (f : Nat → Nat) (v i : Nat) (h : i < 62) : tpre f v (mem (f v)) i = tcol f (v + 1) i := by
  unfold tpre; rw [tcol]
  by_cases hb : (f v).testBit i = true
  · rw [if_pos (mem_iff.2 ⟨by omega, hb⟩), if_pos hb]
  · rw [if_neg (fun e => hb (mem_iff.1 e).2), if_neg hb]
theorem mem_lt62 {x j : Nat} (hx : x < 4611686018427387904) (h : j ∈ mem x) : j < 62 := by
  have hb := (mem_iff.1 h).2
  refine Nat.lt_of_not_le fun hle => ?_
  have h2 : 2 ^ j ≤ x := Nat.ge_two_pow_of_testBit hb
  have h3 : 2 ^ 62 ≤ 2 ^ j := Nat.pow_le_pow_right (by decide) hle
  omega

theorem mixed : Tryd.prog.follows Departure.mixedOrders = true := by kernel_rfl
theorem or_pow (a v : Nat) (ha : a < 2 ^ 63) (hv : v < 62) : bits BinOp.or IntKind.i64 (a : Int) (IntKind.i64.wrap (2 ^ v)) = ((a ||| 2 ^ v : Nat) : Int) := by
  have e := i64_pow (v : Int) (by omega)
  rw [Int.toNat_natCast] at e
  have h1 : 2 ^ v < 2 ^ 63 := Nat.pow_lt_pow_right (by decide) (by omega)
  rw [e, show ((2 : Int) ^ v) = ((2 ^ v : Nat) : Int) by simp]
  exact or_i64 _ _ ha h1
theorem tcol_lt (f : Nat → Nat) (j : Nat) : ∀ v, tcol f v j < 2 ^ v
  | 0 => by simp [tcol]
  | v + 1 => by
    have := tcol_lt f j v
    rw [tcol, Nat.pow_succ]
    split
    · have h := Nat.or_lt_two_pow (x := tcol f v j) (y := 2 ^ v) (n := v + 1) (by rw [Nat.pow_succ]; omega) (by rw [Nat.pow_succ]; have := Nat.two_pow_pos v; omega)
      rw [Nat.pow_succ] at h; exact h
    · omega

theorem tpre_lt (f : Nat → Nat) (v : Nat) (pre : List Nat) (j : Nat) (hv : v < 62) : tpre f v pre j < 2 ^ 63 := by
  have h1 := tcol_lt f j v
  have h2 : 2 ^ v < 2 ^ 63 := Nat.pow_lt_pow_right (by decide) (by omega)
  unfold tpre
  split
  · exact Nat.or_lt_two_pow (Nat.lt_trans h1 h2) h2
  · exact Nat.lt_trans h1 h2

theorem at_world {F : Fence} {n : Nat} {P : Program} {c : Code} {Q : Exit → Act → World → Prop} {a : Act} {w w' : World} (h : c.wpIn F n P Q a w') (e : w = w') : c.wpIn F n P Q a w := e ▸ h

end Go.Proofs.YtbacocldjcenjaaDoor
