/-
  Several texts in one: Di Wr Dr.
-/
import Derived.Test.YtbacocldjcenjaaDoorFr
import Derived.Test.YtbacocldjcenjaaDoorOn1
import Derived.RangeFuncBox
import Derived.Deep.DeepCutAuto
import Derived.Deep.RegionWith
namespace Go.Proofs.YtbacocldjcenjaaDoor
set_option maxRecDepth 100000
open Go.RowKit Go.Shelf

attribute [local go_sem] Oper.semAt_some

/-- What holds of the list D behind the rows ahead of k and the members pre of row k. -/
def DI (zs : List Int) (x : Nat) (ls : List Nat) (k : Nat) (pre : List Nat) (D : List Int) : Prop := D.length = zs.length ∧
  (∀ w, w < zs.length → (w ∈ pre ∨ ∃ (j r : Nat), j < k ∧ ls[j]? = some r ∧ r.testBit w = true) → el D w = dOf (Rw zs x 0) zs.length x w) ∧
  (∀ w, w < zs.length → ¬ (w ∈ pre ∨ ∃ (j r : Nat), j < k ∧ ls[j]? = some r ∧ r.testBit w = true) → el D w = -1)
theorem DI.zero {zs : List Int} {x : Nat} {ls : List Nat} {D : List Int} (h : D.length = zs.length) (h1 : ∀ i, i < zs.length → el D i = -1) : DI zs x ls 0 [] D :=
  ⟨h, fun w _ hw => by rcases hw with hw | ⟨j, _, hj, _⟩
                       · cases hw
                       · omega, fun w hw _ => h1 w hw⟩
theorem DI.next {zs : List Int} {x : Nat} {ls : List Nat} {D : List Int} {k r : Nat} (h : DI zs x ls k (mem r) D) (hr : ls[k]? = some r) (h62 : zs.length ≤ 62) : DI zs x ls (k + 1) [] D := by
  have key : ∀ w, w < zs.length → ((w ∈ ([] : List Nat) ∨ ∃ (j q : Nat), j < k + 1 ∧ ls[j]? = some q ∧ q.testBit w = true) ↔ (w ∈ mem r ∨ ∃ (j q : Nat), j < k ∧ ls[j]? = some q ∧ q.testBit w = true)) := by
    intro w hw
    constructor
    · rintro (hc | ⟨j, q, hj, hq, hb⟩)
      · cases hc
      · rcases Nat.lt_or_ge j k with hlt | hge
        · exact .inr ⟨j, q, hlt, hq, hb⟩
        · obtain rfl : j = k := by omega
          rw [hr] at hq
          obtain rfl : r = q := by simpa using hq
          exact .inl (mem_iff.2 ⟨by omega, hb⟩)
    · rintro (hc | ⟨j, q, hj, hq, hb⟩)
      · exact .inr ⟨k, r, by omega, hr, (mem_iff.1 hc).2⟩
      · exact .inr ⟨j, q, by omega, hq, hb⟩
  exact ⟨h.1, fun w hw hc => h.2.1 w hw ((key w hw).1 hc), fun w hw hc => h.2.2 w hw fun hc2 => hc ((key w hw).2 hc2)⟩
theorem DI.done {zs : List Int} {x : Nat} {ls : List Nat} {D : List Int} (h : DI zs x ls ls.length [] D) (hok : LvOk zs x 0 ls) : D = dsL zs x := by
  refine ext_el (by rw [dsL_length]; exact h.1) fun w hw => ?_
  rw [h.1] at hw
  rw [dsL_at hw]
  by_cases hc : w ∈ ([] : List Nat) ∨ ∃ (j r : Nat), j < ls.length ∧ ls[j]? = some r ∧ r.testBit w = true
  · exact h.2.1 w hw hc
  · rw [h.2.2 w hw hc, hok.no]
    intro j r hr
    cases hb : r.testBit w with
    | false => rfl
    | true => exact absurd (.inr ⟨j, r, (List.getElem?_eq_some_iff.1 hr).1, hr, hb⟩) hc

end Go.Proofs.YtbacocldjcenjaaDoor
namespace Go.Proofs.YtbacocldjcenjaaDoor
set_option maxRecDepth 100000
open Go.RowKit Go.Shelf

attribute [local go_sem] Oper.semAt_some

/-- The list T is T0 but that D stands in it from off on. -/
def Seg (T0 : List Int) (off : Nat) (T D : List Int) : Prop := T.length = T0.length ∧ off + D.length ≤ T0.length ∧ (∀ i, i < D.length → el T (off + i) = el D i) ∧ ∀ i, (i < off ∨ off + D.length ≤ i) → el T i = el T0 i
theorem Seg.set {T0 T D : List Int} {off : Nat} (h : Seg T0 off T D) (y : Nat) (hy : y < D.length) (z : Int) : Seg T0 off (T.set (off + y) z) (D.set y z) := by
  obtain ⟨h1, h2, h3, h4⟩ := h
  refine ⟨by rw [List.length_set]; exact h1, by rw [List.length_set]; exact h2, fun i hi => ?_, fun i hi => ?_⟩
  · rw [List.length_set] at hi
    by_cases e : i = y
    · rw [e, elSet_eq (by omega), elSet_eq hy]
    · rw [elSet_ne (by omega), elSet_ne e]; exact h3 i hi
  · rw [List.length_set] at hi
    rw [elSet_ne (by omega)]; exact h4 i hi
def segL (T0 : List Int) (off : Nat) (L : List Int) : List Int := (List.range T0.length).map fun i => if off ≤ i ∧ i < off + L.length then el L (i - off) else el T0 i
theorem segL_length (T0 : List Int) (off : Nat) (L : List Int) : (segL T0 off L).length = T0.length := by simp [segL]
theorem segL_at {T0 : List Int} {off : Nat} {L : List Int} {i : Nat} (hi : i < T0.length) : el (segL T0 off L) i = if off ≤ i ∧ i < off + L.length then el L (i - off) else el T0 i := by
  rw [el_lt (by rw [segL_length]; exact hi)]; simp [segL]
theorem Seg.done {T0 T D : List Int} {off : Nat} (h : Seg T0 off T D) : T = segL T0 off D := by
  obtain ⟨h1, h2, h3, h4⟩ := h
  refine ext_el (by rw [segL_length]; exact h1) fun i hi => ?_
  rw [segL_at (by omega)]
  by_cases hc : off ≤ i ∧ i < off + D.length
  · rw [if_pos hc, ← h3 (i - off) (by omega)]
    congr 1; omega
  · rw [if_neg hc]; exact h4 i (by omega)
theorem Seg.start (T0 : List Int) (off n : Nat) (h : off + n ≤ T0.length) : ∃ D : List Int, D.length = n ∧ Seg T0 off T0 D := by
  refine ⟨(List.range n).map fun i => el T0 (off + i), by simp, rfl, by simpa using h, fun i hi => ?_, fun i _ => rfl⟩
  rw [el_lt hi]; simp

end Go.Proofs.YtbacocldjcenjaaDoor
namespace Go.Proofs.YtbacocldjcenjaaDoor
set_option maxRecDepth 100000
set_option maxRecDepth 100000
open Go.RowKit

/-- The cells of n slices. -/
def slA (n : Nat) (f : Nat → Value) : Array Value := ((List.range n).map f).toArray
theorem slA_at (n : Nat) (f : Nat → Value) (i : Nat) (h : i < n) : (slA n f)[i]? = some (f i) := by simp [slA, h]
/-- The first k rows of distances, in one table. -/
def tabL (zs : List Int) (k : Nat) : List Int := (List.range (zs.length * zs.length)).map fun i => if i < k * zs.length then el (dsL zs (i / zs.length)) (i % zs.length) else 0
/-- The slice of row j, if it is one of the first k. -/
def rowV (gT n k j : Nat) : Value := if j < k then .slice (some ⟨gT, j * n, none⟩) n n else .slice none 0 0
/-- The rows of distances in memory. -/
def DR (w : World) (gR gT : Nat) (zs : List Int) : Prop := w.heap[gR]? = some (.cells (slA zs.length (rowV gT zs.length zs.length)) 36 (0, 0)) ∧ Blk w gT (tabL zs zs.length)
theorem DR.row {w : World} {gR gT : Nat} {zs : List Int} (h : DR w gR gT zs) {v : Nat} (hv : v < zs.length) : w.cell? ⟨gR, v, none⟩ = some (.slice (some ⟨gT, v * zs.length, none⟩) zs.length zs.length) := by
  rw [cell_of_row w gR v _ _ _ h.1, slA_at _ _ v hv]; simp [rowV, hv]
theorem DR.below {w w' : World} {gR gT : Nat} {zs : List Int} (h : DR w gR gT zs) (hb : Below w.heap.size w w') : DR w' gR gT zs :=
  ⟨(hb.block gR (Array.getElem?_eq_some_iff.1 h.1).1).trans h.1, h.2.belowAll hb⟩

end Go.Proofs.YtbacocldjcenjaaDoor
