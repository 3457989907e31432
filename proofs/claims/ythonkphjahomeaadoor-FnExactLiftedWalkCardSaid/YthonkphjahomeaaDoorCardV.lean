/-
  What the cards of walks share: the door's error in its variable, a world for the witness, a list argument opened.
-/
import Derived.Test.YthonkphjahomeaaDoorCards
import Derived.Test.YthonkphjahomeaaDoorTie
import Derived.Test.YthonkphjahomeaaDoorWk4
import Derived.Test.YthonkphjahomeaaDoorOpBm
import Derived.Stop.LaidErr
import Derived.OpenVars
import Derived.Lib.LaidTab
namespace Go.Proofs.YthonkphjahomeaaDoor
set_option maxRecDepth 100000
open Go.ChangeShapes Go.WideShapes Go.ChangeAt Go.RowKit

theorem own : ownKnob Tryd.prog.godebug = none := by kernel_rfl
theorem gErr : Tryd.prog.globalNamed "loop.example/g01331/impl.errNoWalk" = some 0 := by kernel_rfl
theorem gErrType : (Tryd.prog.globals[0]?).map (·.type) = some 68 := by kernel_rfl
theorem starErr : "*" ++ "errors.errorString" = "*errors.errorString" := by decide
theorem rowErr (u : TypeId) (h : Tryd.prog.typeName? 3 u = some "*errors.errorString") : u = 74 :=
  typeName_ptr_named (nm := "errors.errorString") (by rw [starErr]; kernel_rfl) (by kernel_rfl) (by decide) u (by rw [starErr]; exact h)
theorem cellsErr : Tryd.prog.cellsOf 92 = 1 := by kernel_rfl
theorem cellsStr : Tryd.prog.cellsOf 9 = 1 := by kernel_rfl

/-- What the rows' lists give of the door's error. -/
theorem err_of {W : World} {r : List (String × DataW Unit)} (h : laidMet Tryd.prog (("loop.example/g01331/impl.errNoWalk", Rows.laid_loop_example_g01331_impl_errNoWalk) :: r) W) : ErrW W := by
  obtain ⟨a0, s0, hv0, _, _, _⟩ := laid_sentinel h gErr gErrType Tryd.underlying68 rowErr Tryd.underlying74 Tryd.underlying92 rfl rfl Tryd.underlying9 cellsErr cellsStr
  exact ⟨a0, by simpa using World.var?_cell gErr hv0 0⟩
theorem err_of1 {W : World} (h : laidMetH Tryd.prog [("loop.example/g01331/impl.errNoWalk", Rows.laid_loop_example_g01331_impl_errNoWalk)] W) : ErrW W := err_of (r := []) h
abbrev errText : ByteArray := { data := #[97, 32, 115, 116, 101, 112, 32, 100, 111, 101, 115, 32, 110, 111, 116, 32, 98, 101, 103, 105, 110, 32, 119, 104, 101, 114, 101, 32, 116, 104, 101, 32, 111, 110, 101, 32, 98, 101, 102, 111, 114, 101, 32, 101, 110, 100, 115] }
noncomputable def low : Nat := (World.holding Tryd.prog default ⟨#[], #[], []⟩).heap.size
/-- A world for the witness: the settled one, the door's error as its initialiser lays it. -/
noncomputable def laidWorldE (os : Os) : World :=
  let w0 := World.holding Tryd.prog os ⟨#[.cells #[.string errText] 92], #[], []⟩
  { w0 with heap := w0.heap.modify 0 fun
      | .cells _ t frozen => .cells #[.iface 74 (.pointer (some ⟨low, 0, none⟩))] t frozen
      | o => o }

/-- A list that came in, opened; its numbers are such as an int64 holds. -/
theorem open_listV {H : Type} {enc : TypeId × Value → H} {W : World} {base : Nat} {v : Value} {d : DataW H} {p : List MemPlace} (hv : Value.okWide Tryd.prog W .any base 25 v)
    (h : DataW.Trod enc Tryd.prog W 0 (fun _ => true) true 25 v d p) : ∃ zs : List Int, Sl W v zs ∧ zs.length ≤ 9223372036854775807 ∧ ∀ z, z ∈ zs → (Lit.int .i64 z).wf = true := by
  obtain ⟨a0, len, cap, rfl⟩ := okWide_slice Tryd.underlying25 hv
  obtain ⟨fuel, hf⟩ := h
  rcases open_ints Tryd.underlying25 Tryd.underlying2 cellsI hf with ⟨hcs, _⟩ | ⟨x, l, c, zs, hcs, _, hl, hm, hz, _, hcell, hwz⟩
  · simp [Value.cells] at hcs
    obtain ⟨rfl, rfl, rfl⟩ := hcs
    exact ⟨[], .inl ⟨_, _, rfl, rfl⟩, by simp⟩
  · simp [Value.cells] at hcs
    obtain ⟨rfl, rfl, rfl⟩ := hcs
    simp only [if_true] at hz
    have hlen : (zs.take len).length = len := by rw [List.length_take]; omega
    refine ⟨zs.take len, ?_, by rw [hlen]; unfold maxLen at hm; omega, fun z hzm => hwz z (List.mem_of_mem_take hzm)⟩
    by_cases h0 : len = 0
    · subst h0
      exact .inl ⟨_, _, rfl, rfl⟩
    · obtain ⟨b, off, spot⟩ := x
      have hc := hcell 0 (by omega)
      have hspot : spot = none := by simpa [Addr.add] using World.cell?_spot hc
      subst hspot
      refine .inr ⟨b, off, cap, by rw [hlen], World.block_lt_of_cell? W _ (by simpa [Addr.add] using hc), fun i hi => ?_⟩
      rw [hlen] at hi
      have hci := hcell i (by omega)
      have e : el (zs.take len) i = zs.getD i 0 := by simp [el, hi]
      rw [e, ← hci]
      congr 1
      unfold Addr.add; split <;> simp_all
end Go.Proofs.YthonkphjahomeaaDoor
