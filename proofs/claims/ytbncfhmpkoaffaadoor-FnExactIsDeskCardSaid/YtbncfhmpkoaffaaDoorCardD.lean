/-
  What the cards of digraphs share: the door's error in its variable beside the table, a world for the witness, a digraph argument opened.
-/
import Derived.Test.YtbncfhmpkoaffaaDoorCard
import Derived.Test.YtbncfhmpkoaffaaDoorCr8
import Derived.Stop.LaidErr
import Derived.OpenVars
namespace Go.Proofs.YtbncfhmpkoaffaaDoor
set_option maxRecDepth 100000
set_option maxRecDepth 100000
open Go.ChangeShapes Go.WideShapes Go.ChangeAt Go.RowKit

theorem cellsLD : Tryd.prog.cellsOf 24 = 2 := by kernel_rfl
theorem gErr : Tryd.prog.globalNamed "loop.example/g01331/impl.errNoDigraph" = some 0 := by kernel_rfl
theorem gErrType : (Tryd.prog.globals[0]?).map (·.type) = some 83 := by kernel_rfl
theorem starErr : "*" ++ "errors.errorString" = "*errors.errorString" := by decide
theorem rowErr (u : TypeId) (h : Tryd.prog.typeName? 3 u = some "*errors.errorString") : u = 93 :=
  typeName_ptr_named (nm := "errors.errorString") (by rw [starErr]; kernel_rfl) (by kernel_rfl) (by decide) u (by rw [starErr]; exact h)
theorem cellsErr : Tryd.prog.cellsOf 111 = 1 := by kernel_rfl
theorem cellsStr : Tryd.prog.cellsOf 9 = 1 := by kernel_rfl

/-- What the rows' lists give of the door's error. -/
theorem err_of {W : World} {r : List (String × DataW Unit)} (h : laidMet Tryd.prog (("loop.example/g01331/impl.errNoDigraph", Rows.laid_loop_example_g01331_impl_errNoDigraph) :: r) W) : ErrV W := by
  obtain ⟨a0, s0, hv0, _, _, _⟩ := laid_sentinel h gErr gErrType Tryd.underlying83 rowErr Tryd.underlying93 Tryd.underlying111 rfl rfl Tryd.underlying9 cellsErr cellsStr
  exact ⟨a0, by simpa using World.var?_cell gErr hv0 0⟩
theorem err_of1 {W : World} (h : laidMetH Tryd.prog [("loop.example/g01331/impl.errNoDigraph", Rows.laid_loop_example_g01331_impl_errNoDigraph)] W) : ErrV W := err_of (r := []) h
theorem err_of2 {W : World} (h : laidMetH Tryd.prog [("math/bits.deBruijn64tab", Rows.laid_math_bits_deBruijn64tab), ("loop.example/g01331/impl.errNoDigraph", Rows.laid_loop_example_g01331_impl_errNoDigraph)] W) : ErrV W :=
  err_of (r := []) (laidMet.tail (P := Tryd.prog) (x := ("math/bits.deBruijn64tab", Rows.laid_math_bits_deBruijn64tab)) h)
theorem tab_of2 {W : World} (h : laidMetH Tryd.prog [("math/bits.deBruijn64tab", Rows.laid_math_bits_deBruijn64tab), ("loop.example/g01331/impl.errNoDigraph", Rows.laid_loop_example_g01331_impl_errNoDigraph)] W) : Tab W := fun j hj => by
  have t := Lib.tabIs_of_head (zs := Lib.deBruijn64tab.map Int.ofNat) (k := .u8) (rest := [("loop.example/g01331/impl.errNoDigraph", Rows.laid_loop_example_g01331_impl_errNoDigraph)]) gTab gTabType Tryd.underlying92 Tryd.underlying5 cellsByte cellsTab h
  have c := t.cell gTab j (by simpa [Lib.deBruijn64tab] using hj)
  rw [c]
  have e : ∀ j, j < 64 → (Lib.deBruijn64tab.map Int.ofNat).getD j 0 = ((Lib.deBruijn64tab.getD j 0 : Nat) : Int) := by decide +kernel
  rw [e j hj]

abbrev errText : ByteArray := { data := #[116, 104, 101, 32, 114, 111, 119, 115, 32, 97, 114, 101, 32, 110, 111, 116, 32, 116, 104, 111, 115, 101, 32, 111, 102, 32, 97, 32, 100, 105, 103, 114, 97, 112, 104] }
noncomputable def low : Nat := (World.holding Tryd.prog default ⟨#[], #[], []⟩).heap.size
/-- A world for the witness: the settled one, the table and the door's error as their initialisers lay them. -/
noncomputable def laidWorldE (os : Os) : World :=
  let w0 := World.holding Tryd.prog os ⟨#[.cells #[.string errText] 111], #[], []⟩
  { w0 with heap := (w0.heap.modify 0 fun
      | .cells _ t frozen => .cells #[.iface 93 (.pointer (some ⟨low, 0, none⟩))] t frozen
      | o => o).modify 1 fun
      | .cells _ t frozen => .cells (Lib.deBruijn64tab.map fun n : Nat => Value.int .u8 (n : Int)).toArray t frozen
      | o => o }

/-- A digraph value that came in, opened. -/
theorem open_digraph {H : Type} {enc : TypeId × Value → H} {W : World} {base : Nat} {v : Value} {d : DataW H} {p : List MemPlace} (hv : Value.okWide Tryd.prog W .any base 24 v)
    (h : DataW.Trod enc Tryd.prog W 0 (fun _ => true) true 24 v d p) : ∃ (n : Int) (u : Value) (zs : List Int), v = .agg #[.int .i64 n, u] ∧ Sl W u zs ∧ zs.length ≤ 9223372036854775807 ∧ (Lit.int .i64 n).wf = true := by
  obtain ⟨c0, c1, y0, y1, m, rfl, rfl, rfl, hy0, hy1⟩ := Joins.open_agg2 Tryd.underlying24 (by kernel_rfl) cellsLD hv h
  obtain ⟨n, e0, _, wn⟩ := DataW.trod_int Tryd.underlying2 hy0
  simp at e0; subst e0
  rcases open_ints Tryd.underlying22 Tryd.underlying2 cellsInt hy1 with ⟨hcs, _⟩ | ⟨x, l, c, zs, hcs, _, hl, hm, hz, _, hcell, _⟩
  · simp at hcs; subst hcs
    exact ⟨n, _, [], rfl, .inl ⟨_, _, rfl, rfl⟩, by simp, wn⟩
  · simp at hcs; subst hcs
    simp only [if_true] at hz
    have hlen : (zs.take l).length = l := by rw [List.length_take]; omega
    refine ⟨n, _, zs.take l, rfl, ?_, by rw [hlen]; unfold maxLen at hm; omega, wn⟩
    by_cases h0 : l = 0
    · subst h0
      exact .inl ⟨_, _, rfl, rfl⟩
    · obtain ⟨b, off, spot⟩ := x
      have hc := hcell 0 (by omega)
      have hspot : spot = none := by simpa [Addr.add] using World.cell?_spot hc
      subst hspot
      refine .inr ⟨b, off, c, by rw [hlen], World.block_lt_of_cell? W _ (by simpa [Addr.add] using hc), fun i hi => ?_⟩
      rw [hlen] at hi
      have hci := hcell i (by omega)
      have e : el (zs.take l) i = zs.getD i 0 := by simp [el, hi]
      rw [e, ← hci]
      congr 1
      unfold Addr.add; split <;> simp_all

end Go.Proofs.YtbncfhmpkoaffaaDoor
