/-
  Arrays of 62 rows: an element, a load of all cells, a comparison.
-/
import Derived.Test.YtbacocldjcenjaaDoorSeq
import Derived.RangeFuncFrom
import Derived.KernelRfl
namespace Go.Proofs.YtbacocldjcenjaaDoor
set_option maxRecDepth 100000
open Go.RowKit

/-- The cells of an array of 62 numbers. -/
def rowsL (f : Nat → Int) : List Value := (List.range 62).map fun i => Value.int .i64 (f i)
def rowsA (f : Nat → Int) : Array Value := (rowsL f).toArray
theorem rowsL_length (f : Nat → Int) : (rowsL f).length = 62 := by simp [rowsL]
theorem rowsA_size (f : Nat → Int) : (rowsA f).size = 62 := by simp [rowsA, rowsL]
theorem rowsA_at (f : Nat → Int) (i : Nat) (h : i < 62) : (rowsA f)[i]? = some (.int .i64 (f i)) := by simp [rowsA, rowsL, h]

theorem sizeOf2 (w : World) : (sizeOf 2).run Tryd.prog w = .ok 1 w := by kernel_rfl

theorem run_part_rows (f : Nat → Int) (i : Nat) (h : i < 62) (w : World) : (part 2 (rowsA f) i).run Tryd.prog w = .ok (.int .i64 (f i)) w := by
  unfold part
  simp [rowsA_at f i h]

theorem run_eq_list (f g : Nat → Int) (d : Nat) (w : World) : ∀ (l : List Nat), (∀ i ∈ l, i < 62) →
    (forIn (m := Sem) l ((none, ()) : Option Bool × Unit) (fun i __s => do
              let __do_lift ← part 2 (rowsA f) (i * 1)
              let __do_lift_1 ← part 2 (rowsA g) (i * 1)
              let __do_lift ← Op.equalIn (d + 1) 2 __do_lift __do_lift_1
              if (!__do_lift) = true then pure (ForInStep.done (some false, ())) else pure (ForInStep.yield (none, ())))).run Tryd.prog w
      = .ok (if l.all (fun i => f i == g i) then (none, ()) else (some false, ())) w
  | [], _ => by simp
  | i :: l, h => by
    have hi : i < 62 := h i (List.mem_cons_self)
    have ih := run_eq_list f g d w l (fun j hj => h j (List.mem_cons_of_mem _ hj))
    rw [List.forIn_cons]
    simp only [Nat.mul_one] at ih ⊢
    simp only [Sem.run_bind, run_part_rows f i hi, run_part_rows g i hi, Result.andThen_ok, run_equalIn_int w d 2 .i64 .i64 (f i) (g i) Tryd.underlying2, List.all_cons]
    by_cases hc : (f i == g i) = true
    · simp only [hc, Bool.not_true, Bool.false_eq_true, if_false, Sem.run_pure, Result.andThen_ok, Bool.true_and]
      exact ih
    · have hc' : (f i == g i) = false := by simpa using hc
      simp only [hc', Bool.not_false, if_true, Sem.run_pure, Result.andThen_ok, Bool.false_and, Bool.false_eq_true, if_false]

/-- A load of a whole row of cells, inside a fence. -/
theorem wpListIn_load_row {F : Fence} {n : Nat} {P : Program} {ops : Array Oper} {rest : List Oper} {o : Oper} {a : Act} {w : World} {Q : Exit → Act → World → Prop} (hgd : o.guard = none) (ty : TypeId) (x : Operand) (ho : o.op = .load ty x)
    (g : Nat) (hx : a.eval x = .pointer (some ⟨g, 0, none⟩)) (t : TypeId) (cs : Array Value) (fr : Nat × Nat) (d : TypeDesc) (hg : w.heap[g]? = some (.cells cs t fr))
    (hu : P.underlying ty = some d) (hd : (match d with | .struct _ | .array _ _ => true | _ => false) = true) (hi : (P.info? ty).map (·.size) = some cs.size)
    (h : wpListIn F n P ops Q rest (a.put o.dst (.agg cs)) w) : wpListIn F n P ops Q (o :: rest) a w := by
  refine wpListIn_plain hgd fun K' hK' => ?_
  unfold Oper.wpIn
  refine ⟨?_, ?_⟩
  · simp [Oper.about, ho]
  · rw [Oper.semAt_plain F _ _ (by rw [ho]; intro c hc'; cases hc')]
    unfold execOp
    simp only [ho, hx, Instr.loadAt, Instr.sureAddr, Sem.run_bind, Sem.run_pure, Result.andThen_ok, run_loadVar_row w g t ty cs fr d hg hu hd hi]
    exact hK' _ _ h

/-- A store of a whole row of cells, inside a fence. -/
theorem wpListIn_store_row {F : Fence} {n : Nat} {P : Program} {ops : Array Oper} {rest : List Oper} {o : Oper} {a : Act} {w : World} {Q : Exit → Act → World → Prop} (hgd : o.guard = none) (ty : TypeId) (x y : Operand) (ho : o.op = .store ty x y)
    (g : Nat) (cells : Array Value) (hx : a.eval x = .pointer (some ⟨g, 0, none⟩)) (hy : a.eval y = .agg cells)
    (t : TypeId) (old : Array Value) (hg : w.heap[g]? = some (.cells old t (0, 0))) (hi : (P.info? ty).map (·.size) = some cells.size)
    (hold : old.size = cells.size) (h1 : cells.all (·.oneCell') = true)
    (h : wpListIn F n P ops Q rest (a.put o.dst undef) (w.setRow g cells)) : wpListIn F n P ops Q (o :: rest) a w := by
  refine wpListIn_plain hgd fun K' hK' => ?_
  unfold Oper.wpIn
  refine ⟨?_, ?_⟩
  · simp [Oper.about, ho]
  · rw [Oper.semAt_plain F _ _ (by rw [ho]; intro c hc'; cases hc')]
    unfold execOp
    simp only [ho, hx, hy, Instr.storeAt, Instr.sureAddr, Sem.run_bind, Sem.run_pure, Result.andThen_ok, run_storeVar_row w g t ty old cells hg hi hold h1]
    exact hK' _ _ h
theorem wpList_store_row0 {P : Program} {ops : Array Oper} {rest : List Oper} {o : Oper} {a : Act} {w : World} {Q : Exit → Act → World → Prop} (hgd : o.guard = none) (hd : o.dst = none) (ty : TypeId) (x y : Operand) (ho : o.op = .store ty x y)
    (g : Nat) (cells : Array Value) (hx : a.eval x = .pointer (some ⟨g, 0, none⟩)) (hy : a.eval y = .agg cells)
    (t : TypeId) (old : Array Value) (hg : w.heap[g]? = some (.cells old t (0, 0))) (hi : (P.info? ty).map (·.size) = some cells.size)
    (hold : old.size = cells.size) (h1 : cells.all (·.oneCell') = true)
    (h : wpList P ops Q rest a (w.setRow g cells)) : wpList P ops Q (o :: rest) a w :=
  wpList_store_row hgd ty x y ho g cells hx hy t old hg hi hold h1 (by rw [hd]; exact h)
theorem at_world0 {P : Program} {c : Code} {Q : Exit → Act → World → Prop} {a : Act} {w w' : World} (h : c.wp P Q a w') (e : w = w') : c.wp P Q a w := e ▸ h
theorem rowsA_one (f : Nat → Int) : (rowsA f).all (·.oneCell') = true := by
  unfold rowsA rowsL; simp [Value.oneCell']
end Go.Proofs.YtbacocldjcenjaaDoor
