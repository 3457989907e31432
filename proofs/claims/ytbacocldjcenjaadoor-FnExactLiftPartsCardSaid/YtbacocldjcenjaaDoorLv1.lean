/-
  impl.levelRows: the levels as rows.
-/
import Derived.Test.YtbacocldjcenjaaDoorNa
import Derived.Test.YtbacocldjcenjaaDoorDist
import Derived.Test.YtbacocldjcenjaaDoorPe7
import Derived.ScopeJumps
import Derived.WalkMore
namespace Go.Proofs.YtbacocldjcenjaaDoor
set_option maxRecDepth 100000
open Go.RowKit

/-- The digits of a that b has not. -/
def anot (a b : Nat) : Nat := a ^^^ (a &&& b)
theorem anot_bit (a b i : Nat) : (anot a b).testBit i = (a.testBit i && !b.testBit i) := by
  unfold anot
  rw [Nat.testBit_xor, Nat.testBit_and]
  cases a.testBit i <;> cases b.testBit i <;> rfl
theorem anot_lt {a b m : Nat} (h : a < 2 ^ m) : anot a b < 2 ^ m := by
  apply Nat.lt_pow_two_of_testBit
  intro i hi
  rw [anot_bit, Nat.testBit_lt_two_pow (Nat.lt_of_lt_of_le h (Nat.pow_le_pow_right (by decide) hi))]
  rfl
theorem andNot_nat (a b : Nat) (ha : a < 2 ^ 63) : bits .andNot .i64 (a : Int) (b : Int) = ((anot a b : Nat) : Int) := by
  have e1 : BitVec.ofInt 64 (a : Int) = BitVec.ofNat 64 a := by simp
  have e2 : BitVec.ofInt 64 (b : Int) = BitVec.ofNat 64 b := by simp
  show IntKind.i64.wrap ((BitVec.ofInt 64 (a : Int) &&& ~~~BitVec.ofInt 64 (b : Int)).toNat : Int) = _
  rw [e1, e2]
  have hlt : anot a b < 2 ^ 63 := anot_lt ha
  have h : (BitVec.ofNat 64 a &&& ~~~BitVec.ofNat 64 b) = BitVec.ofNat 64 (anot a b) := by
    apply BitVec.eq_of_getLsbD_eq
    intro i hi
    simp only [BitVec.getLsbD_and, BitVec.getLsbD_not, BitVec.getLsbD_ofNat, anot_bit, hi, decide_true, Bool.true_and]
  rw [h, BitVec.toNat_ofNat, Nat.mod_eq_of_lt (by omega), wrap_i64_nat _ (by omega) (by omega)]

/-- The neighbours of x but, of v, those of the row wo. -/
def Rw (zs : List Int) (v wo : Nat) (x w : Nat) : Bool := bt (el zs x) w && !(x == v && wo.testBit w)
/-- The rows ls are the levels of v, all of them. -/
structure LvOk (zs : List Int) (v wo : Nat) (ls : List Nat) : Prop where
  bit : ∀ k r, ls[k]? = some r → r < 2 ^ zs.length ∧ ∀ w, r.testBit w = lev (Rw zs v wo) zs.length v k w
  last : ∀ w, lev (Rw zs v wo) zs.length v ls.length w = false
  len : ls.length ≤ zs.length
  ne : ∀ r, r ∈ ls → r ≠ 0
/-- What holds at the label: the levels so far, the vertices met, those around the last level. -/
structure LvInv (zs : List Int) (v wo : Nat) (ls : List Nat) (mt ar : Nat) : Prop where
  bit : ∀ k r, ls[k]? = some r → r < 2 ^ zs.length ∧ ∀ w, r.testBit w = lev (Rw zs v wo) zs.length v k w
  pos : 0 < ls.length
  len : ls.length ≤ zs.length
  ne : ∀ r, r ∈ ls → r ≠ 0
  mlt : mt < 2 ^ zs.length
  mbit : ∀ w, mt.testBit w = met (Rw zs v wo) zs.length v (ls.length - 1) w
  alt : ar < 2 ^ zs.length
  abit : ∀ w, ar.testBit w = (List.range zs.length).any fun x => lev (Rw zs v wo) zs.length v (ls.length - 1) x && Rw zs v wo x w

theorem LvInv.row {zs : List Int} {v wo : Nat} {ls : List Nat} {mt ar : Nat} (h : LvInv zs v wo ls mt ar) : anot ar mt < 2 ^ zs.length ∧ ∀ w, (anot ar mt).testBit w = lev (Rw zs v wo) zs.length v ls.length w := by
  refine ⟨anot_lt h.alt, fun w => ?_⟩
  obtain ⟨d, hd⟩ : ∃ d, ls.length = d + 1 := ⟨ls.length - 1, by have := h.pos; omega⟩
  have e := h.abit w
  have m := h.mbit w
  rw [hd, Nat.add_sub_cancel] at e m
  rw [anot_bit, hd, lev_succ, ← m, ← e]
  by_cases hw : w < zs.length
  · rw [decide_eq_true hw]; cases ar.testBit w <;> cases mt.testBit w <;> rfl
  · rw [Nat.testBit_lt_two_pow (Nat.lt_of_lt_of_le h.alt (Nat.pow_le_pow_right (by decide) (by omega)))]; simp
theorem LvInv.done {zs : List Int} {v wo : Nat} {ls : List Nat} {mt ar : Nat} (h : LvInv zs v wo ls mt ar) (h0 : anot ar mt = 0) : LvOk zs v wo ls :=
  ⟨h.bit, fun w => by rw [← h.row.2 w, h0]; simp, h.len, h.ne⟩
theorem LvInv.next {zs : List Int} {v wo : Nat} {ls : List Nat} {mt ar : Nat} (h : LvInv zs v wo ls mt ar) (hv : v < zs.length) (hl : zs.length ≤ 62) (hz : ∀ i, i < zs.length → (el zs i).toNat < 2 ^ zs.length) (h0 : anot ar mt ≠ 0) :
    LvInv zs v wo (ls ++ [anot ar mt]) (mt ||| anot ar mt) (arN zs (mem (anot ar mt))) ∧ mt < mt ||| anot ar mt := by
  obtain ⟨r1, r2⟩ := h.row
  have hex : ∃ i, (anot ar mt).testBit i = true := by
    refine Classical.byContradiction fun hn => h0 (Nat.eq_of_testBit_eq fun i => ?_)
    cases hb : (anot ar mt).testBit i with
    | false => simp
    | true => exact absurd ⟨i, hb⟩ hn
  obtain ⟨i, hi⟩ := hex
  have hli : lev (Rw zs v wo) zs.length v ls.length i = true := by rw [← r2]; exact hi
  have hlen := lev_few hv hli
  have hl1 : (ls ++ [anot ar mt]).length - 1 = ls.length := by simp
  obtain ⟨d, hd⟩ : ∃ d, ls.length = d + 1 := ⟨ls.length - 1, by have := h.pos; omega⟩
  refine ⟨⟨?_, by simp, by simp; omega, fun q hq => by
    rcases List.mem_append.1 hq with hq | hq
    · exact h.ne q hq
    · have : q = anot ar mt := by simpa using hq
      rw [this]; exact h0, Nat.or_lt_two_pow h.mlt r1, ?_, arN_lt zs _ hz _, ?_⟩, ?_⟩
  · intro k r hk
    rcases Nat.lt_or_ge k ls.length with hlt | hge
    · rw [List.getElem?_append_left hlt] at hk
      exact h.bit k r hk
    · rw [List.getElem?_append_right hge] at hk
      have hk0 : k - ls.length = 0 := by
        refine Classical.byContradiction fun hn => ?_
        rw [List.getElem?_eq_none (by simp; omega)] at hk
        cases hk
      rw [hk0] at hk
      simp at hk
      have hkl : k = ls.length := by omega
      subst hk; subst hkl
      exact ⟨r1, r2⟩
  · intro w
    have m := h.mbit w
    rw [hl1, Nat.testBit_or, r2, m, hd, Nat.add_sub_cancel, met_succ]
  · intro w
    rw [hl1, arN_bit, Bool.eq_iff_iff, List.any_eq_true, List.any_eq_true]
    have hxv : ∀ x, lev (Rw zs v wo) zs.length v ls.length x = true → (x == v) = false := by
      intro x hx
      cases hxv : x == v with
      | false => rfl
      | true =>
        have : lev (Rw zs v wo) zs.length v 0 x = true := by rw [lev_zero]; exact hxv
        have := lev_uniq hx this
        omega
    constructor
    · rintro ⟨x, hx, hb⟩
      have hx2 := (mem_iff.1 hx).2
      rw [r2] at hx2
      refine ⟨x, List.mem_range.2 (lev_lt hv hx2), ?_⟩
      rw [hx2, Rw, hb, hxv x hx2]; rfl
    · rintro ⟨x, hx, hb⟩
      rw [List.mem_range] at hx
      simp only [Bool.and_eq_true] at hb
      refine ⟨x, mem_iff.2 ⟨by omega, by rw [r2]; exact hb.1⟩, ?_⟩
      have := hb.2
      unfold Rw at this
      simp only [Bool.and_eq_true] at this
      exact this.1
  · refine Nat.lt_of_le_of_ne Nat.left_le_or fun e => ?_
    have hb : (mt ||| anot ar mt).testBit i = true := by rw [Nat.testBit_or, hi]; simp
    rw [← e] at hb
    have h2 := hi
    rw [anot_bit, hb] at h2
    simp at h2

theorem LvInv.start {zs : List Int} {v wo : Nat} (hv : v < zs.length) (hz : (el zs v).toNat < 2 ^ zs.length) : LvInv zs v wo [2 ^ v] (2 ^ v) (anot (el zs v).toNat wo) := by
  have hp : 2 ^ v < 2 ^ zs.length := Nat.pow_lt_pow_right (by decide) hv
  have hb : ∀ w, (2 ^ v).testBit w = (w == v) := fun w => by rw [Nat.testBit_two_pow, Bool.eq_iff_iff, decide_eq_true_iff, beq_iff_eq]; exact eq_comm
  refine ⟨?_, by simp, by simp; omega, fun q hq => by
    have : q = 2 ^ v := by simpa using hq
    have := Nat.two_pow_pos v
    omega, hp, fun w => ?_, anot_lt hz, fun w => ?_⟩
  · intro k r hk
    have hk0 : k = 0 := by
      refine Classical.byContradiction fun hn => ?_
      rw [List.getElem?_eq_none (by simp; omega)] at hk
      cases hk
    subst hk0
    simp at hk
    subst hk
    exact ⟨hp, fun w => by rw [hb, lev_zero]⟩
  · rw [hb]; rfl
  · rw [anot_bit, Bool.eq_iff_iff, List.any_eq_true]
    constructor
    · intro h
      refine ⟨v, List.mem_range.2 hv, ?_⟩
      show (lev (Rw zs v wo) zs.length v 0 v && Rw zs v wo v w) = true
      rw [lev_zero, Rw]
      unfold bt
      simpa using h
    · rintro ⟨x, _, h⟩
      have h' : (lev (Rw zs v wo) zs.length v 0 x && Rw zs v wo x w) = true := h
      rw [lev_zero, Bool.and_eq_true] at h'
      obtain ⟨h1, h2⟩ := h'
      have : x = v := by simpa using h1
      subst this
      unfold Rw bt at h2
      simpa using h2

end Go.Proofs.YtbacocldjcenjaaDoor
