/-
  A list of lists that came in, opened. (A plain seat.)
-/
import Derived.Test.YtneomnkpfkomiaaOpL
import Derived.Test.YtneomnkpfkomiaaSs
import Derived.Deep.Matrix
namespace Go.Proofs.Ytneomnkpfkomiaa
open Go.ChangeShapes Go.WideShapes Go.ChangeAt Go.RowKit

theorem cellsSl : Try.prog.cellsOf 22 = 1 := by kernel_rfl

/-- One list's cells. -/
theorem sl_of_row {W : World} {A : Option Addr} {L C : Nat} {Z : List Int} (h1 : L ≤ C) (h3 : Z.length = C) (h5 : A = none → C = 0) (h6 : ∀ a', A = some a' → ∀ c, c < C → W.cell? (a'.add c) = some (.int .i64 (Z.getD c 0))) : Sl W (.slice A L C) (Z.take L) := by
  have hlen : (Z.take L).length = L := by rw [List.length_take]; omega
  by_cases h0 : L = 0
  · subst h0
    exact .inl ⟨_, _, rfl, rfl⟩
  · cases A with
    | none => have := h5 rfl; omega
    | some a' =>
      obtain ⟨b, off, spot⟩ := a'
      have hc := h6 _ rfl 0 (by omega)
      have hspot : spot = none := by simpa [Addr.add] using World.cell?_spot hc
      subst hspot
      refine .inr ⟨b, off, C, by rw [hlen], World.block_lt_of_cell? W _ (by simpa [Addr.add] using hc), fun i hi => ?_⟩
      rw [hlen] at hi
      have hci := h6 _ rfl i (by omega)
      have e : el (Z.take L) i = Z.getD i 0 := by simp [el, hi]
      rw [e, ← hci]
      congr 1
      unfold Addr.add; split <;> simp_all

set_option maxRecDepth 100000 in
theorem open_lists {H : Type} {enc : TypeId × Value → H} {W : World} {base : Nat} {v : Value} {d : DataW H} {p : List MemPlace} (hv : Value.okWide Try.prog W .any base 35 v)
    (h : DataW.Trod enc Try.prog W 0 (fun _ => true) true 35 v d p) : ∃ Ls : List (List Int), SS W v Ls ∧ Ls.length ≤ 9223372036854775807 ∧ ∀ i, i < Ls.length → (elS Ls i).length ≤ 9223372036854775807 := by
  obtain ⟨a0, len, cap, rfl⟩ := okWide_slice Try.underlying35 hv
  obtain ⟨fuel, hf⟩ := h
  rcases Deep.open_int_rows Try.underlying35 Try.underlying22 Try.underlying2 cellsSl cellsInt hf with ⟨hcs, _⟩ | ⟨x, l, c, A, L, C, Z, hcs, _, hl, hm, _, hx⟩
  · simp [Value.cells] at hcs
    obtain ⟨rfl, rfl, rfl⟩ := hcs
    exact ⟨[], .inl ⟨_, _, rfl, rfl⟩, by simp, fun i hi => by simp at hi⟩
  · simp [Value.cells] at hcs
    obtain ⟨rfl, rfl, rfl⟩ := hcs
    have hlen : ((List.range len).map fun r => (Z r).take (L r)).length = len := by simp
    have hel : ∀ i, i < len → elS ((List.range len).map fun r => (Z r).take (L r)) i = (Z i).take (L i) := fun i hi => by simp [elS, hi]
    refine ⟨(List.range len).map fun r => (Z r).take (L r), ?_, by rw [hlen]; unfold maxLen at hm; omega, fun i hi => ?_⟩
    · by_cases h0 : len = 0
      · subst h0
        exact .inl ⟨_, _, rfl, rfl⟩
      · obtain ⟨b, off, spot⟩ := x
        have hc := (hx 0 (by omega)).1
        have hspot : spot = none := by simpa [Addr.add] using World.cell?_spot hc
        subst hspot
        refine .inr ⟨b, off, cap, fun i => .slice (A i) (L i) (C i), by rw [hlen], World.block_lt_of_cell? W _ (by simpa [Addr.add] using hc), fun i hi => ?_⟩
        rw [hlen] at hi
        obtain ⟨r0, r1, r2, r3, r4, r5, r6⟩ := hx i (by omega)
        refine ⟨?_, ?_⟩
        · rw [← r0]
          congr 1
          unfold Addr.add; split <;> simp_all
        · rw [hel i hi]
          exact sl_of_row r1 r3 r5 (fun a' h => (r6 a' h).2)
    · rw [hlen] at hi
      obtain ⟨r0, r1, r2, r3, r4, r5, r6⟩ := hx i (by omega)
      rw [hel i hi, List.length_take]
      unfold maxLen at r2
      omega
end Go.Proofs.Ytneomnkpfkomiaa
