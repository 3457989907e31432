/-
  Reaches of digraphs: plain facts.
-/
import Derived.Test.YtbncfhmpkoaffaaDoorFr
import Derived.Test.YtbncfhmpkoaffaaDoorRm
namespace Go.Proofs.YtbncfhmpkoaffaaDoor
set_option maxRecDepth 100000
set_option maxRecDepth 100000
open Go.RowKit

/-- Whether all vertices are reached from v. -/
def alR (zs : List Int) (v : Nat) : Bool := (List.range zs.length).all fun w => decide (0 ≤ el (dsL zs v) w)
theorem alR_iff {zs : List Int} {v : Nat} : alR zs v = true ↔ ∀ w, w < zs.length → 0 ≤ dOf (Rw zs v 0) zs.length v w := by
  unfold alR
  rw [List.all_eq_true]
  constructor
  · intro h w hw
    have := h w (List.mem_range.2 hw)
    rw [dsL_at hw] at this
    simpa using this
  · intro h w hw
    have hw := List.mem_range.1 hw
    rw [dsL_at hw]
    simpa using h w hw
def aR (zs : List Int) (k : Nat) : Bool := (List.range k).all (alR zs)
theorem aR_succ (zs : List Int) (k : Nat) : aR zs (k + 1) = (aR zs k && alR zs k) := by simp [aR, List.range_succ]
theorem aR_no {zs : List Int} {k m : Nat} (hk : k < m) (h : alR zs k = false) : aR zs m = false := by
  cases e : aR zs m with
  | false => rfl
  | true =>
    unfold aR at e; rw [List.all_eq_true] at e
    rw [e k (List.mem_range.2 hk)] at h; exact absurd h (by simp)
/-- The greatest distance from the first k vertices. -/
def mE (zs : List Int) : Nat → Int
  | 0 => 0
  | k + 1 => max (mE zs k) (mxF (dsL zs k) zs.length)
/-- The greatest distance, -1 if the digraph is not strong. -/
def rcD (zs : List Int) : Int := if aR zs zs.length then mE zs zs.length else -1

theorem mxF_ge (L : List Int) : ∀ (k i : Nat), i < k → el L i ≤ mxF L k
  | k + 1, i, h => by
    show el L i ≤ max (mxF L k) (el L k)
    by_cases e : i = k
    · subst e; omega
    · have := mxF_ge L k i (by omega); omega
theorem mxF_le (L : List Int) (m : Int) (h0 : el L 0 ≤ m) : ∀ (k : Nat), (∀ i, i < k → el L i ≤ m) → mxF L k ≤ m
  | 0, _ => h0
  | k + 1, h => by
    show max (mxF L k) (el L k) ≤ m
    have h1 := mxF_le L m h0 k fun i hi => h i (by omega)
    have h2 := h k (by omega)
    omega
theorem mE_bounds {zs : List Int} (hb : ∀ v w, v < zs.length → w < zs.length → el (dsL zs v) w ≤ 61) : ∀ k, k ≤ zs.length → 0 ≤ mE zs k ∧ mE zs k ≤ 61
  | 0, _ => by simp [mE]
  | k + 1, hk => by
    have ih := mE_bounds hb k (by omega)
    have h0 : 0 < zs.length := by omega
    have h1 := mxF_le (dsL zs k) 61 (hb k 0 (by omega) h0) zs.length fun i hi => hb k i (by omega) hi
    show 0 ≤ max (mE zs k) _ ∧ max (mE zs k) _ ≤ 61
    omega

theorem all_len : ∀ (n : Nat) (Q : List Nat), (∀ w, w < n → w ∈ Q) → n ≤ Q.length
  | 0, _, _ => Nat.zero_le _
  | n + 1, Q, h => by
    have hn := h n (by omega)
    have ih := all_len n (Q.erase n) fun w hw => (List.mem_erase_of_ne (by omega)).2 (h w (by omega))
    rw [List.length_erase_of_mem hn] at ih
    have := List.length_pos_of_mem hn
    omega
theorem len_all {n : Nat} {Q : List Nat} (hd : Q.Nodup) (hq : ∀ q, q ∈ Q → q < n) (hl : n ≤ Q.length) {w : Nat} (hw : w < n) : w ∈ Q := by
  refine Classical.byContradiction fun hn => ?_
  have := nodup_len n (w :: Q) (List.nodup_cons.2 ⟨hn, hd⟩) fun q hq' => by
    rcases List.mem_cons.1 hq' with rfl | h
    · exact hw
    · exact hq q h
  simp at this
  omega

section
variable {zs : List Int} {v : Nat} {D : List Int} {Q : List Nat}
theorem QInv.full (h : QInv (Rw zs v 0) zs.length v D Q Q.length 0) (hD : D = dsL zs v) (hl : zs.length ≤ Q.length) : alR zs v = true :=
  alR_iff.2 fun w hw => by
    have := (h.mem w hw).2 (len_all h.nodup h.qlt hl hw)
    rw [hD, dsL_at hw] at this; exact this
theorem QInv.notFull (h : QInv (Rw zs v 0) zs.length v D Q Q.length 0) (hD : D = dsL zs v) (hl : Q.length < zs.length) : alR zs v = false := by
  cases e : alR zs v with
  | false => rfl
  | true =>
    have := all_len zs.length Q fun w hw => (h.mem w hw).1 (by rw [hD, dsL_at hw]; exact alR_iff.1 e w hw)
    omega
theorem QInv.last (h : QInv (Rw zs v 0) zs.length v D Q Q.length 0) (hl : zs.length ≤ Q.length) {k q : Nat} (hk : k + 1 = Q.length) (hq : Q[k]? = some q) : el D q = mxF D zs.length := by
  have hqn := h.qlt q (List.mem_of_getElem? hq)
  have hall : ∀ w, w < zs.length → el D w ≤ el D q := fun w hw => by
    obtain ⟨j, hj, e⟩ := List.getElem_of_mem (len_all h.nodup h.qlt hl hw)
    exact h.mono j k w q (by omega) (by rw [List.getElem?_eq_getElem hj, e]) hq
  have h1 := mxF_le D (el D q) (hall 0 (by omega)) zs.length hall
  have h2 := mxF_ge D zs.length q hqn
  omega
end

theorem dsL_le {zs : List Int} {v w : Nat} (hv : v < zs.length) (hw : w < zs.length) (hl : zs.length ≤ 62) : el (dsL zs v) w ≤ 61 := by
  rw [dsL_at hw]
  rcases Int.lt_or_le (dOf (Rw zs v 0) zs.length v w) 0 with h | h
  · omega
  · obtain ⟨k, hk⟩ := dOf_nat h
    have := lev_few hv (dOf_lt hk)
    omega
theorem mE_ok {zs : List Int} (hl : zs.length ≤ 62) {k : Nat} (hk : k ≤ zs.length) : 0 ≤ mE zs k ∧ mE zs k ≤ 61 := mE_bounds (fun _ _ hv hw => dsL_le hv hw hl) k hk

/-- The first k rows together. -/
def orF (ls : List Nat) : Nat → Nat
  | 0 => 0
  | k + 1 => orF ls k ||| ls.getD k 0
theorem orF_bit (ls : List Nat) (w : Nat) : ∀ k, (orF ls k).testBit w = true ↔ ∃ i, i < k ∧ (ls.getD i 0).testBit w = true
  | 0 => by simp [orF]
  | k + 1 => by
    rw [orF, Nat.testBit_or, Bool.or_eq_true, orF_bit ls w k]
    constructor
    · rintro (⟨i, hi, h⟩ | h)
      · exact ⟨i, by omega, h⟩
      · exact ⟨k, by omega, h⟩
    · rintro ⟨i, hi, h⟩
      rcases Nat.lt_or_ge i k with h1 | h1
      · exact .inl ⟨i, h1, h⟩
      · obtain rfl : i = k := by omega
        exact .inr h
theorem orF_lt {ls : List Nat} {n : Nat} (h : ∀ (k r : Nat), ls[k]? = some r → r < 2 ^ n) : ∀ k, k ≤ ls.length → orF ls k < 2 ^ n
  | 0, _ => Nat.two_pow_pos _
  | k + 1, hk => by
    rw [orF]
    refine Nat.or_lt_two_pow (orF_lt h k (by omega)) ?_
    rw [List.getD_eq_getElem?_getD, List.getElem?_eq_getElem (by omega : k < ls.length)]
    exact h k _ (List.getElem?_eq_getElem (by omega))
section
variable {zs : List Int} {v : Nat} {ls : List Nat}
theorem LvOk.or_iff (h : LvOk zs v 0 ls) (hv : v < zs.length) {w : Nat} : (orF ls ls.length).testBit w = true ↔ 0 ≤ dOf (Rw zs v 0) zs.length v w := by
  rw [orF_bit]
  constructor
  · rintro ⟨i, hi, hb⟩
    rw [List.getD_eq_getElem?_getD, List.getElem?_eq_getElem hi] at hb
    rw [h.yes hv (List.getElem?_eq_getElem hi) hb]; omega
  · intro h0
    obtain ⟨k, hk⟩ := dOf_nat h0
    obtain ⟨r, hr, hb⟩ := h.back hk
    have hkl : k < ls.length := (List.getElem?_eq_some_iff.1 hr).1
    refine ⟨k, hkl, ?_⟩
    rw [List.getD_eq_getElem?_getD, hr]; exact hb
theorem LvOk.all (h : LvOk zs v 0 ls) (hv : v < zs.length) : (orF ls ls.length = 2 ^ zs.length - 1) ↔ alR zs v = true := by
  have hlt := orF_lt (fun k r hk => (h.bit k r hk).1) ls.length (Nat.le_refl _)
  rw [alR_iff]
  constructor
  · intro e w hw
    refine (h.or_iff hv).1 ?_
    rw [e, Nat.testBit_two_pow_sub_one, decide_eq_true hw]
  · intro ha
    apply Nat.eq_of_testBit_eq
    intro w
    rw [Nat.testBit_two_pow_sub_one]
    by_cases hw : w < zs.length
    · rw [decide_eq_true hw]; exact (h.or_iff hv).2 (ha w hw)
    · rw [decide_eq_false hw]
      exact Nat.testBit_lt_two_pow (Nat.lt_of_lt_of_le hlt (Nat.pow_le_pow_right (by decide) (by omega)))
theorem LvOk.far (h : LvOk zs v 0 ls) (hv : v < zs.length) (ha : alR zs v = true) (hl : 0 < ls.length) : ((ls.length : Int) - 1) = mxF (dsL zs v) zs.length := by
  have hle : ∀ w, w < zs.length → el (dsL zs v) w ≤ (ls.length : Int) - 1 := fun w hw => by
    rw [dsL_at hw]
    obtain ⟨k, hk⟩ := dOf_nat (alR_iff.1 ha w hw)
    obtain ⟨r, hr, _⟩ := h.back hk
    have := (List.getElem?_eq_some_iff.1 hr).1
    omega
  have h1 := mxF_le (dsL zs v) _ (hle 0 (by omega)) zs.length hle
  obtain ⟨r, hr⟩ : ∃ r, ls[ls.length - 1]? = some r := ⟨_, List.getElem?_eq_getElem (by omega)⟩
  have hr0 := h.ne r (List.mem_of_getElem? hr)
  obtain ⟨w, hb⟩ : ∃ w, r.testBit w = true := by
    refine Classical.byContradiction fun hn => hr0 (Nat.eq_of_testBit_eq fun i => ?_)
    cases hb : r.testBit i with
    | false => simp
    | true => exact absurd ⟨i, hb⟩ hn
  have hw := bit_lt (h.bit _ r hr).1 hb
  have h2 := mxF_ge (dsL zs v) zs.length w hw
  rw [dsL_at hw, h.yes hv hr hb] at h2
  omega
end
end Go.Proofs.YtbncfhmpkoaffaaDoor
