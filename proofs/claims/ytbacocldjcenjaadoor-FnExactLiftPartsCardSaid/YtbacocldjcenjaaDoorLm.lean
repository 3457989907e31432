/-
  Levels, distances and their numbers: plain facts.
-/
import Derived.Test.YtbacocldjcenjaaDoorQm
import Derived.Test.YtbacocldjcenjaaDoorLv1
import Derived.Test.YtbacocldjcenjaaDoorOn1
import Derived.Test.YtbacocldjcenjaaDoorDeg
namespace Go.Proofs.YtbacocldjcenjaaDoor
set_option maxRecDepth 100000
open Go.RowKit

theorem lev_after {R : Nat → Nat → Bool} {n v k : Nat} (h : ∀ w, lev R n v k w = false) : ∀ j w, lev R n v (k + j) w = false := by
  intro j
  induction j with
  | zero => exact h
  | succ j ih =>
    intro w
    cases hl : lev R n v (k + (j + 1)) w with
    | false => rfl
    | true =>
      obtain ⟨_, _, x, _, hx, _⟩ := lev_succ_iff.1 (show lev R n v (k + j + 1) w = true from hl)
      rw [ih x] at hx; cases hx
theorem dOf_lt {R : Nat → Nat → Bool} {n v w : Nat} {k : Nat} (h : dOf R n v w = (k : Int)) : lev R n v k w = true := by
  unfold dOf at h
  cases hf : (List.range n).find? (fun d => lev R n v d w) with
  | some e =>
    rw [hf] at h
    have := List.find?_some hf
    have h2 : e = k := Int.ofNat.inj h
    rw [← h2]; exact this
  | none => rw [hf] at h; simp at h
theorem dOf_ge {R : Nat → Nat → Bool} {n v w : Nat} : -1 ≤ dOf R n v w := by
  unfold dOf; split <;> omega
theorem dOf_nat {R : Nat → Nat → Bool} {n v w : Nat} (h : 0 ≤ dOf R n v w) : ∃ k : Nat, dOf R n v w = (k : Int) := ⟨(dOf R n v w).toNat, by omega⟩

/-- The distances from v. -/
def dsL (zs : List Int) (v : Nat) : List Int := (List.range zs.length).map (dOf (Rw zs v 0) zs.length v)
theorem dsL_length (zs : List Int) (v : Nat) : (dsL zs v).length = zs.length := by simp [dsL]
theorem dsL_at {zs : List Int} {v w : Nat} (h : w < zs.length) : el (dsL zs v) w = dOf (Rw zs v 0) zs.length v w := by
  unfold el dsL; simp [h]

section
variable {zs : List Int} {v wo : Nat} {ls : List Nat}
theorem LvOk.yes (h : LvOk zs v wo ls) (hv : v < zs.length) {k r w : Nat} (hk : ls[k]? = some r) (hb : r.testBit w = true) : dOf (Rw zs v wo) zs.length v w = (k : Int) :=
  dOf_lev hv (by rw [← (h.bit k r hk).2 w]; exact hb)
theorem LvOk.no (h : LvOk zs v wo ls) {w : Nat} (hn : ∀ (k r : Nat), ls[k]? = some r → r.testBit w = false) : dOf (Rw zs v wo) zs.length v w = -1 := by
  refine dOf_none fun d => ?_
  rcases Nat.lt_or_ge d ls.length with hd | hd
  · obtain ⟨r, hr⟩ : ∃ r, ls[d]? = some r := ⟨_, List.getElem?_eq_getElem hd⟩
    rw [← (h.bit d r hr).2 w]; exact hn d r hr
  · have := lev_after h.last (d - ls.length) w
    rw [Nat.add_sub_cancel' hd] at this
    exact this
theorem LvOk.back (h : LvOk zs v wo ls) {k w : Nat} (hd : dOf (Rw zs v wo) zs.length v w = (k : Int)) : ∃ r, ls[k]? = some r ∧ r.testBit w = true := by
  have hl := dOf_lt hd
  rcases Nat.lt_or_ge k ls.length with hk | hk
  · obtain ⟨r, hr⟩ : ∃ r, ls[k]? = some r := ⟨_, List.getElem?_eq_getElem hk⟩
    exact ⟨r, hr, by rw [(h.bit k r hr).2 w]; exact hl⟩
  · have := lev_after h.last (k - ls.length) w
    rw [Nat.add_sub_cancel' hk, hl] at this
    cases this
end

theorem pcF_filter : ∀ (f x : Nat), pcF f x = ((List.range f).filter fun j => x.testBit j).length
  | 0, _ => rfl
  | f + 1, x => by
    have e : ((fun j => x.testBit j) ∘ Nat.succ) = fun j => (x / 2).testBit j := by funext j; simp [Nat.testBit_succ]
    have h0 : x.testBit 0 = decide (x % 2 = 1) := Nat.testBit_zero x
    rw [pcF, pcF_filter f (x / 2), List.range_succ_eq_map, List.filter_cons, List.filter_map, e]
    by_cases h : x % 2 = 1
    · rw [h0, decide_eq_true h, if_pos rfl, List.length_cons, List.length_map, h]; omega
    · rw [h0, decide_eq_false h, if_neg (by simp), List.length_map]; omega
theorem pc_few {r n : Nat} (hr : r < 2 ^ n) (hn : n ≤ 64) : pc r = ((List.range n).filter fun j => r.testBit j).length := by
  have := pcF_add n (64 - n) r
  rw [Nat.add_sub_cancel' hn, Nat.div_eq_of_lt hr, pcF_zero] at this
  unfold pc
  rw [this, pcF_filter]; rfl

/-- How many of the first k are d. -/
def cnt (ds : List Int) (k : Nat) (d : Nat) : Nat := ((List.range k).filter fun w => el ds w == (d : Int)).length
theorem cnt_succ (ds : List Int) (k d : Nat) : cnt ds (k + 1) d = cnt ds k d + if el ds k = (d : Int) then 1 else 0 := by
  unfold cnt
  rw [List.range_succ, List.filter_append, List.length_append]
  by_cases h : el ds k = (d : Int) <;> simp [h]
/-- The list of the numbers of all d, as far as the first k tell. -/
def lvPad (O : List Int) (d : Int) : List Int := O ++ List.replicate (d.toNat + 1 - O.length) 0
def lvStep (O : List Int) (d : Int) : List Int := if d < 0 then O else (lvPad O d).set d.toNat (el (lvPad O d) d.toNat + 1)
def lvF (ds : List Int) : Nat → List Int
  | 0 => []
  | k + 1 => lvStep (lvF ds k) (el ds k)
theorem el_pad (O : List Int) (d : Int) (i : Nat) : el (lvPad O d) i = el O i := by
  unfold lvPad
  rcases Nat.lt_or_ge i O.length with h | h
  · unfold el; simp [List.getD_eq_getElem?_getD, List.getElem?_append_left h]
  · rw [el_ge h]
    unfold el
    rw [List.getD_eq_getElem?_getD, List.getElem?_append_right h, List.getElem?_replicate]
    split <;> rfl
theorem lvPad_length (O : List Int) (d : Int) : d.toNat < (lvPad O d).length ∧ O.length ≤ (lvPad O d).length ∧ ((lvPad O d).length = O.length ∨ (lvPad O d).length = d.toNat + 1) := by
  unfold lvPad; rw [List.length_append, List.length_replicate]; omega

structure LI (O ds : List Int) (k : Nat) : Prop where
  at' : ∀ d, el O d = (cnt ds k d : Int)
  lt : ∀ w, w < k → el ds w < O.length
  ex : O.length ≠ 0 → ∃ w, w < k ∧ el ds w + 1 = O.length
theorem lvF_ok (ds : List Int) : ∀ k, LI (lvF ds k) ds k
  | 0 => ⟨fun d => by rw [lvF, el_ge (Nat.zero_le _)]; simp [cnt], fun w hw => absurd hw (by omega), fun h => absurd rfl h⟩
  | k + 1 => by
    have ih := lvF_ok ds k
    show LI (lvStep (lvF ds k) (el ds k)) ds (k + 1)
    unfold lvStep
    by_cases h : el ds k < 0
    · rw [if_pos h]
      refine ⟨fun d => ?_, fun w hw => ?_, fun h0 => ?_⟩
      · rw [cnt_succ, if_neg (by omega), ih.at' d, Nat.add_zero]
      · rcases Nat.lt_or_ge w k with h1 | h1
        · exact ih.lt w h1
        · obtain rfl : w = k := by omega
          omega
      · obtain ⟨w, hw, e⟩ := ih.ex h0
        exact ⟨w, by omega, e⟩
    · rw [if_neg h]
      obtain ⟨l1, l2, l3⟩ := lvPad_length (lvF ds k) (el ds k)
      refine ⟨fun d => ?_, fun w hw => ?_, fun h0 => ?_⟩
      · rw [cnt_succ]
        by_cases e : el ds k = (d : Int)
        · have e1 : (el ds k).toNat = d := by omega
          rw [if_pos e, e1, elSet_eq (by omega), el_pad, ih.at' d]; simp
        · rw [if_neg e, elSet_ne (by omega), el_pad, ih.at' d, Nat.add_zero]
      · rw [List.length_set]
        rcases Nat.lt_or_ge w k with h1 | h1
        · have := ih.lt w h1; omega
        · obtain rfl : w = k := by omega
          omega
      · rw [List.length_set] at h0 ⊢
        rcases l3 with l3 | l3
        · rw [l3] at h0 ⊢
          obtain ⟨w, hw, e⟩ := ih.ex h0
          exact ⟨w, by omega, e⟩
        · exact ⟨k, by omega, by omega⟩
/-- The levels of v. -/
def lvL (zs : List Int) (v : Nat) : List Int := lvF (dsL zs v) zs.length
theorem LvOk.levels {zs : List Int} {v : Nat} {ls : List Nat} (h : LvOk zs v 0 ls) (hv : v < zs.length) (h62 : zs.length ≤ 62) : lvL zs v = ls.map fun r => ((pc r : Nat) : Int) := by
  have hO := lvF_ok (dsL zs v) zs.length
  have hlen : (lvF (dsL zs v) zs.length).length = ls.length := by
    have hv0 : el (dsL zs v) v = 0 := by rw [dsL_at hv]; exact dOf_lev (R := Rw zs v 0) hv (d := 0) (by rw [lev_zero]; simp)
    have hK := hO.lt v hv
    rw [hv0] at hK
    obtain ⟨w, hw, e⟩ := hO.ex (by omega)
    rw [dsL_at hw] at e
    obtain ⟨r, hr, _⟩ := h.back (k := (lvF (dsL zs v) zs.length).length - 1) (w := w) (by omega)
    have h1 := (List.getElem?_eq_some_iff.1 hr).1
    obtain ⟨q, hq⟩ : ∃ q, ls[ls.length - 1]? = some q := ⟨_, List.getElem?_eq_getElem (by omega)⟩
    have hq0 := h.ne q (List.mem_of_getElem? hq)
    obtain ⟨i, hi⟩ := Nat.exists_testBit_of_ne_zero hq0
    have hil : i < zs.length := by
      refine Nat.lt_of_not_le fun hle => ?_
      have := Nat.testBit_lt_two_pow (Nat.lt_of_lt_of_le (h.bit _ q hq).1 (Nat.pow_le_pow_right (show 0 < 2 by decide) hle))
      rw [this] at hi; cases hi
    have h2 := h.yes hv hq hi
    have h3 := hO.lt i hil
    rw [dsL_at hil, h2] at h3
    omega
  refine ext_el (by rw [List.length_map]; exact hlen) fun d hd => ?_
  have hd' : d < ls.length := by rw [← hlen]; exact hd
  have e1 : el (ls.map fun r => ((pc r : Nat) : Int)) d = ((pc ls[d] : Nat) : Int) := by unfold el; simp [hd']
  obtain ⟨b1, b2⟩ := h.bit d ls[d] (List.getElem?_eq_getElem hd')
  rw [e1, pc_few b1 (by omega)]
  show el (lvF (dsL zs v) zs.length) d = _
  rw [hO.at' d]
  unfold cnt
  congr 2
  refine List.filter_congr fun w hw => ?_
  have hwl : w < zs.length := List.mem_range.1 hw
  rw [dsL_at hwl, b2 w, Bool.eq_iff_iff, beq_iff_eq]
  exact ⟨fun e => dOf_lt e, fun e => dOf_lev hv e⟩
end Go.Proofs.YtbacocldjcenjaaDoor
