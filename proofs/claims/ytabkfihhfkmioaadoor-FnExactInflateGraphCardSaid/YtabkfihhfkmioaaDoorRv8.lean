/-
  A digraph turned: plain facts, spec.l08Has, spec.l08Reverse.
-/
import Derived.Test.YtabkfihhfkmioaaDoorCr8
import Derived.Test.YtabkfihhfkmioaaDoorIsB
import Derived.Test.YtabkfihhfkmioaaDoorDh8
import Derived.BigRegion
import Derived.Deep.DeepCutAuto
namespace Go.Proofs.YtabkfihhfkmioaaDoor
set_option maxRecDepth 100000
set_option maxRecDepth 100000
open Go.RowKit

structure DgOk (n : Int) (zs : List Int) : Prop where
  size : (zs.length : Int) = n
  pos : 1 ≤ zs.length
  le : zs.length ≤ 62
  ge : ∀ i, 0 ≤ el zs i
  lt : ∀ i, nat zs i < 2 ^ zs.length
theorem dg_ok {n : Int} {zs : List Int} (h : isD n zs = true) : DgOk n zs := by
  obtain ⟨h1, h2, h3, h4⟩ := isD_parts h
  have h0 : ∀ i, 0 ≤ el zs i ∧ nat zs i < 2 ^ n.toNat := fun i => by
    by_cases hi : i < zs.length
    · obtain ⟨a, b⟩ := drTo_at h4 hi
      refine ⟨a, ?_⟩
      unfold nat
      have e : ((2 : Int) ^ n.toNat) = ((2 ^ n.toNat : Nat) : Int) := by simp
      rw [e] at b
      have := Nat.two_pow_pos n.toNat
      omega
    · rw [nat, el_ge (by omega)]
      exact ⟨by omega, Nat.two_pow_pos _⟩
  have e : n.toNat = zs.length := by omega
  exact ⟨h3, by omega, by omega, fun i => (h0 i).1, fun i => by rw [← e]; exact (h0 i).2⟩
theorem nat_out {zs : List Int} {i : Nat} (hi : zs.length ≤ i) : nat zs i = 0 := by rw [nat, el_ge hi]; rfl
theorem DgOk.nat {n : Int} {zs : List Int} (h : DgOk n zs) (i : Nat) : el zs i = ((Go.Proofs.YtabkfihhfkmioaaDoor.nat zs i : Nat) : Int) := by have := h.ge i; unfold Go.Proofs.YtabkfihhfkmioaaDoor.nat; omega
theorem DgOk.lt62 {n : Int} {zs : List Int} (h : DgOk n zs) (i : Nat) : Go.Proofs.YtabkfihhfkmioaaDoor.nat zs i < 4611686018427387904 :=
  Nat.lt_of_lt_of_le (h.lt i) (Nat.pow_le_pow_right (n := 2) (by decide) h.le)
theorem DgOk.big {n : Int} {zs : List Int} (h : DgOk n zs) (i : Nat) : el zs i ≤ 9223372036854775807 := by have := h.lt62 i; rw [h.nat i]; omega

theorem tcol_more {f : Nat → Nat} {m : Nat} (hf : ∀ i, m ≤ i → f i = 0) (j k : Nat) : tcol f (m + k) j = tcol f m j := by
  induction k with
  | zero => rfl
  | succ k ih => rw [← Nat.add_assoc, tcol, hf (m + k) (by omega)]; simpa using ih
/-- The rows while row v is turned, up to column j. -/
def rvM (zs : List Int) (v j : Nat) : List Int := (List.range zs.length).map fun i => ((tcol (nat zs) (if i < j then v + 1 else v) i : Nat) : Int)
/-- The rows turned. -/
def rvL (zs : List Int) : List Int := (List.range zs.length).map fun i => ((tcol (nat zs) zs.length i : Nat) : Int)
theorem rvM_length (zs : List Int) (v j : Nat) : (rvM zs v j).length = zs.length := by simp [rvM]
theorem rvL_length (zs : List Int) : (rvL zs).length = zs.length := by simp [rvL]
theorem el_rvM (zs : List Int) (v j i : Nat) (h : i < zs.length) : el (rvM zs v j) i = ((tcol (nat zs) (if i < j then v + 1 else v) i : Nat) : Int) := by simp [el, rvM, h]
theorem el_rvL (zs : List Int) (i : Nat) (h : i < zs.length) : el (rvL zs) i = ((tcol (nat zs) zs.length i : Nat) : Int) := by simp [el, rvL, h]
theorem rvM_zero (zs : List Int) : rvM zs 0 0 = List.replicate zs.length 0 := by
  unfold rvM
  rw [List.eq_replicate_iff]
  refine ⟨by simp, fun x hx => ?_⟩
  obtain ⟨i, _, rfl⟩ := List.mem_map.1 hx
  simp [tcol]
theorem rvM_row (zs : List Int) (v : Nat) : rvM zs v zs.length = rvM zs (v + 1) 0 := by
  unfold rvM
  refine List.map_congr_left fun i hi => ?_
  rw [if_pos (List.mem_range.1 hi), if_neg (Nat.not_lt_zero i)]
theorem rvM_all (zs : List Int) : rvM zs zs.length 0 = rvL zs := by
  unfold rvM rvL
  refine List.map_congr_left fun i _ => ?_
  rw [if_neg (Nat.not_lt_zero i)]
theorem rvM_no {zs : List Int} {v j : Nat} (h : (nat zs v).testBit j = false) : rvM zs v (j + 1) = rvM zs v j := by
  unfold rvM
  refine List.map_congr_left fun i _ => ?_
  by_cases e : i = j
  · subst e
    rw [if_pos (by omega), if_neg (by omega), tcol, h]; rfl
  · by_cases e2 : i < j
    · rw [if_pos (by omega), if_pos e2]
    · rw [if_neg (by omega), if_neg e2]
theorem rvM_yes {zs : List Int} {v j : Nat} (h : (nat zs v).testBit j = true) : (rvM zs v j).set j ((tcol (nat zs) v j ||| 2 ^ v : Nat) : Int) = rvM zs v (j + 1) := by
  apply List.ext_getElem
  · rw [List.length_set, rvM_length, rvM_length]
  · intro i h1 h2
    rw [List.getElem_set]
    simp only [rvM, List.getElem_map, List.getElem_range]
    by_cases e : j = i
    · subst e
      rw [if_pos rfl, if_pos (Nat.lt_succ_self _), tcol, h, if_pos rfl]
    · rw [if_neg e]
      by_cases e2 : i < j
      · rw [if_pos e2, if_pos (by omega)]
      · rw [if_neg e2, if_neg (by omega)]
theorem rvL_lt {zs : List Int} (i : Nat) (hi : i < zs.length) : 0 ≤ el (rvL zs) i ∧ (el (rvL zs) i).toNat < 2 ^ zs.length := by
  rw [el_rvL zs i hi]
  exact ⟨by omega, by rw [Int.toNat_natCast]; exact tcol_lt _ _ _⟩

/-- What the making of the turned digraph leaves: its box and its rows. -/
def RvB (Wz : World) (m : Nat) (t : Value) (wx : World) : Prop := ∃ gb gr, t = .pointer (some ⟨gb, 0, none⟩) ∧ wx.heap[gb]? = some (.cells #[.int .i64 (m : Int), .slice (some ⟨gr, 0, none⟩) m m] 49 (0, 0)) ∧ Blk wx gr (List.replicate m 0) ∧ gb ≠ gr ∧ Wz.heap.size ≤ gb ∧ Wz.heap.size ≤ gr ∧ Below Wz.heap.size Wz wx

end Go.Proofs.YtabkfihhfkmioaaDoor
