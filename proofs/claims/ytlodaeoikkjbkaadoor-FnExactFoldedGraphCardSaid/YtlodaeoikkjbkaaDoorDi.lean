/-
  impl.DistancesFrom.
-/
import Derived.Test.YtlodaeoikkjbkaaDoorMgC
import Derived.RangeFuncBox
namespace Go.Proofs.YtlodaeoikkjbkaaDoor
set_option maxRecDepth 100000
open Go.RowKit Go.Shelf

attribute [local go_sem] Oper.semAt_some

/-- What holds of the list D behind the rows ahead of k and the members pre of row k. -/
def DI (zs : List Int) (x : Nat) (ls : List Nat) (k : Nat) (pre : List Nat) (D : List Int) : Prop := D.length = zs.length ∧
  (∀ w, w < zs.length → (w ∈ pre ∨ ∃ (j r : Nat), j < k ∧ ls[j]? = some r ∧ r.testBit w = true) → el D w = dOf (Rw zs x 0) zs.length x w) ∧
  (∀ w, w < zs.length → ¬ (w ∈ pre ∨ ∃ (j r : Nat), j < k ∧ ls[j]? = some r ∧ r.testBit w = true) → el D w = -1)
theorem DI.zero {zs : List Int} {x : Nat} {ls : List Nat} {D : List Int} (h : D.length = zs.length) (h1 : ∀ i, i < zs.length → el D i = -1) : DI zs x ls 0 [] D :=
  ⟨h, fun w _ hw => by rcases hw with hw | ⟨j, _, hj, _⟩
                       · cases hw
                       · omega, fun w hw _ => h1 w hw⟩
theorem DI.step {zs : List Int} {x : Nat} {ls : List Nat} {D : List Int} {k r y : Nat} {pre : List Nat} (h : DI zs x ls k pre D) (hok : LvOk zs x 0 ls) (hx : x < zs.length) (hr : ls[k]? = some r) (hy : y < zs.length) (hb : r.testBit y = true) : DI zs x ls k (pre ++ [y]) (D.set y (k : Int)) := by
  have hd := hok.yes hx hr hb
  refine ⟨by rw [List.length_set]; exact h.1, fun w hw hc => ?_, fun w hw hc => ?_⟩
  · by_cases e : w = y
    · rw [e, elSet_eq (by rw [h.1]; exact hy), hd]
    · rw [elSet_ne e]
      refine h.2.1 w hw ?_
      rcases hc with hc | hc
      · rcases List.mem_append.1 hc with hc | hc
        · exact .inl hc
        · exact absurd (by simpa using hc) e
      · exact .inr hc
  · have e : w ≠ y := fun e => hc (.inl (by rw [e]; simp))
    rw [elSet_ne e]
    refine h.2.2 w hw fun hc2 => hc ?_
    rcases hc2 with hc2 | hc2
    · exact .inl (List.mem_append.2 (.inl hc2))
    · exact .inr hc2
theorem DI.next {zs : List Int} {x : Nat} {ls : List Nat} {D : List Int} {k r : Nat} (h : DI zs x ls k (mem r) D) (hr : ls[k]? = some r) (h62 : zs.length ≤ 62) : DI zs x ls (k + 1) [] D := by
  have key : ∀ w, w < zs.length → ((w ∈ ([] : List Nat) ∨ ∃ (j q : Nat), j < k + 1 ∧ ls[j]? = some q ∧ q.testBit w = true) ↔ (w ∈ mem r ∨ ∃ (j q : Nat), j < k ∧ ls[j]? = some q ∧ q.testBit w = true)) := by
    intro w hw
    constructor
    · rintro (hc | ⟨j, q, hj, hq, hb⟩)
      · cases hc
      · rcases Nat.lt_or_ge j k with hlt | hge
        · exact .inr ⟨j, q, hlt, hq, hb⟩
        · obtain rfl : j = k := by omega
          rw [hr] at hq
          obtain rfl : r = q := by simpa using hq
          exact .inl (mem_iff.2 ⟨by omega, hb⟩)
    · rintro (hc | ⟨j, q, hj, hq, hb⟩)
      · exact .inr ⟨k, r, by omega, hr, (mem_iff.1 hc).2⟩
      · exact .inr ⟨j, q, by omega, hq, hb⟩
  exact ⟨h.1, fun w hw hc => h.2.1 w hw ((key w hw).1 hc), fun w hw hc => h.2.2 w hw fun hc2 => hc ((key w hw).2 hc2)⟩
theorem DI.done {zs : List Int} {x : Nat} {ls : List Nat} {D : List Int} (h : DI zs x ls ls.length [] D) (hok : LvOk zs x 0 ls) : D = dsL zs x := by
  refine ext_el (by rw [dsL_length]; exact h.1) fun w hw => ?_
  rw [h.1] at hw
  rw [dsL_at hw]
  by_cases hc : w ∈ ([] : List Nat) ∨ ∃ (j r : Nat), j < ls.length ∧ ls[j]? = some r ∧ r.testBit w = true
  · exact h.2.1 w hw hc
  · rw [h.2.2 w hw hc, hok.no]
    intro j r hr
    cases hb : r.testBit w with
    | false => rfl
    | true => exact absurd (.inr ⟨j, r, (List.getElem?_eq_some_iff.1 hr).1, hr, hb⟩) hc

end Go.Proofs.YtlodaeoikkjbkaaDoor
