/-
  What a list of elements generates: plain facts. (A tied seat of groups.)
-/
import Derived.Test.YtklgimikdnokcaaDoorCa
import Derived.Test.YtklgimikdnokcaaDoorKn
import Derived.Test.YtklgimikdnokcaaDoorKa
import Derived.Test.YtklgimikdnokcaaDoorNg
namespace Go.Proofs.YtklgimikdnokcaaDoor
set_option maxRecDepth 100000
open Go.RowKit

/-- A list without doubles in another is not longer. -/
theorem nodup_le : ∀ (l m : List Nat), l.Nodup → (∀ a, a ∈ l → a ∈ m) → l.length ≤ m.length
  | [], m, _, _ => Nat.zero_le _
  | a :: t, m, hn, hm => by
    have ha : a ∈ m := hm a List.mem_cons_self
    obtain ⟨h1, h2⟩ := List.nodup_cons.1 hn
    have := nodup_le t (m.erase a) h2 fun b hb => (List.mem_erase_of_ne (fun e => h1 (by rw [← e]; exact hb))).2 (hm b (List.mem_cons_of_mem _ hb))
    rw [List.length_erase_of_mem ha] at this
    have hp := List.length_pos_of_mem ha
    rw [List.length_cons]
    omega
theorem nodup_map {f : Nat → Nat} : ∀ {l : List Nat}, l.Nodup → (∀ a b, a ∈ l → b ∈ l → f a = f b → a = b) → (l.map f).Nodup
  | [], _, _ => by simp
  | a :: t, hn, hf => by
    obtain ⟨h1, h2⟩ := List.nodup_cons.1 hn
    rw [List.map_cons, List.nodup_cons]
    refine ⟨fun hm => ?_, nodup_map h2 fun x y hx hy => hf x y (List.mem_cons_of_mem _ hx) (List.mem_cons_of_mem _ hy)⟩
    obtain ⟨b, hb, e⟩ := List.mem_map.1 hm
    have := hf b a (List.mem_cons_of_mem _ hb) List.mem_cons_self e
    exact h1 (this ▸ hb)
/-- What maps a finite set into itself, one to one, reaches all of it. -/
theorem onto_of {f : Nat → Nat} {l : List Nat} (hn : l.Nodup) (hm : ∀ a, a ∈ l → f a ∈ l) (hf : ∀ a b, a ∈ l → b ∈ l → f a = f b → a = b) {y : Nat} (hy : y ∈ l) : ∃ a, a ∈ l ∧ f a = y := by
  by_cases h : y ∈ l.map f
  · obtain ⟨a, ha, e⟩ := List.mem_map.1 h
    exact ⟨a, ha, e⟩
  · have := nodup_le (y :: l.map f) l (List.nodup_cons.2 ⟨h, nodup_map hn hf⟩) fun b hb => by
      rcases List.mem_cons.1 hb with rfl | hb
      · exact hy
      · obtain ⟨a, ha, rfl⟩ := List.mem_map.1 hb
        exact hm a ha
    rw [List.length_cons, List.length_map] at this
    omega

theorem unitr_all : allE (fun k p x => gMul k p x 0 == x && gQuo k p 0 (gQuo k p 0 x) == x) = true := by kernel_rfl
theorem gMul_zero {k p x : Nat} (h : gOk k p = true) (hx : x < gOrd k p) : gMul k p x 0 = x := by
  have := allE_at unitr_all h hx
  simp only [Bool.and_eq_true, beq_iff_eq] at this
  exact this.1
theorem gInv_inv {k p x : Nat} (h : gOk k p = true) (hx : x < gOrd k p) : gQuo k p 0 (gQuo k p 0 x) = x := by
  have := allE_at unitr_all h hx
  simp only [Bool.and_eq_true, beq_iff_eq] at this
  exact this.2
theorem inv_pairs : allB (fun k => allB (fun p => !gOk (k + 1) p || allB (fun x => allB (fun y => gMul (k + 1) p x (gQuo (k + 1) p 0 y) == gQuo (k + 1) p x y) (gOrd (k + 1) p)) (gOrd (k + 1) p)) 32) 2 = true := by kernel_rfl
/-- A product with the inverse is the quotient. -/
theorem gMul_inv {k p x s : Nat} (h : gOk k p = true) (hx : x < gOrd k p) (hs : s < gOrd k p) : gMul k p x (gQuo k p 0 s) = gQuo k p x s := by
  match k, h, hx, hs with
  | 0, h, hx, hs =>
    simp only [gMul, gQuo, gOrd] at *
    rw [Nat.add_mod_mod]
    congr 1
    omega
  | k + 1, h, hx, hs =>
    have hk : k < 2 := by have := (gOk_lt h).1; omega
    have hp : p < 32 := by
      match k, h with
      | 0, h => simp [gOk] at h; omega
      | 1, h => simp [gOk] at h; omega
      | k + 2, h => simp [gOk] at h
    have h1 := allB_at (allB_at inv_pairs k hk) p hp
    rw [h] at h1
    have t := allB_at (by simpa using h1) x hx
    have := allB_at t s hs
    simpa using this
theorem gQuo_inv {k p x s : Nat} (h : gOk k p = true) (hx : x < gOrd k p) (hs : s < gOrd k p) : gQuo k p x (gQuo k p 0 s) = gMul k p x s := by
  have hi := gInv_lt h hs
  rw [← gMul_inv h hx hi, gInv_inv h hs]

/-- What a list generates. -/
inductive Reach (k p : Nat) (js : List Int) : Nat → Prop
  | unit : Reach k p js 0
  | step {x i : Nat} : Reach k p js x → i < js.length → Reach k p js (gMul k p x (el js i).toNat)
theorem Reach.lt {k p y : Nat} {js : List Int} (h : gOk k p = true) (hr : Reach k p js y) : y < gOrd k p := by
  cases hr with
  | unit => exact gOrd_pos h
  | step _ _ => exact gMul_lt h
open Classical in
/-- Is it generated? -/
noncomputable def genB (k p : Nat) (js : List Int) (y : Nat) : Bool := decide (Reach k p js y)
open Classical in
theorem genB_iff {k p y : Nat} {js : List Int} : genB k p js y = true ↔ Reach k p js y := by unfold genB; rw [decide_eq_true_iff]
/-- All that a list generates. -/
noncomputable def genL (k p : Nat) (js : List Int) : List Int := ((List.range (gOrd k p)).filter (genB k p js)).map fun y : Nat => (y : Int)

/-- Quotients are generated too. -/
theorem Reach.quo {k p x i : Nat} {js : List Int} (h : gOk k p = true) (hj : elOk (gOrd k p) js js.length = true) (hr : Reach k p js x) (hi : i < js.length) : Reach k p js (gQuo k p x (el js i).toNat) := by
  have hs : (el js i).toNat < gOrd k p := by have := elOk_at hj hi; omega
  obtain ⟨a, ha, e⟩ := onto_of (f := fun a => gMul k p a (el js i).toNat) (l := (List.range (gOrd k p)).filter (genB k p js)) (List.nodup_range.filter _)
    (fun a ha => by
      rw [List.mem_filter, List.mem_range, genB_iff] at *
      exact ⟨gMul_lt h, ha.2.step hi⟩)
    (fun a b ha hb e => by
      rw [List.mem_filter, List.mem_range] at ha hb
      have h1 := (group_back h (gMul_lt h) ha.1 hs).1 (rfl : gMul k p a (el js i).toNat = _)
      have h2 := (group_back h (gMul_lt h) hb.1 hs).1 e
      rw [h1]; exact h2.symm)
    (y := x) (by rw [List.mem_filter, List.mem_range, genB_iff]; exact ⟨hr.lt h, hr⟩)
  rw [List.mem_filter, List.mem_range, genB_iff] at ha
  rw [← (group_back h (hr.lt h) ha.1 hs).1 e.symm]
  exact ha.2

theorem mem_clE {k p : Nat} {js : List Int} {c : Int} : c ∈ clE k p js ↔ ∃ y : Nat, y < gOrd k p ∧ clF k p js y = true ∧ c = y := by
  unfold clE
  rw [List.mem_map]
  constructor
  · rintro ⟨y, hy, rfl⟩
    rw [List.mem_filter, List.mem_range] at hy
    exact ⟨y, hy.1, hy.2, rfl⟩
  · rintro ⟨y, h1, h2, rfl⟩
    exact ⟨y, by rw [List.mem_filter, List.mem_range]; exact ⟨h1, h2⟩, rfl⟩
theorem el_mem {zs : List Int} {i : Nat} (h : i < zs.length) : el zs i ∈ zs := by rw [el_lt h]; exact List.getElem_mem h
theorem mem_el {zs : List Int} {c : Int} (h : c ∈ zs) : ∃ i, i < zs.length ∧ el zs i = c := by
  obtain ⟨i, hi, e⟩ := List.getElem_of_mem h
  exact ⟨i, hi, by rw [el_lt hi]; exact e⟩
theorem clF_iff {k p y : Nat} {js : List Int} : clF k p js y = true ↔ y ≠ 0 ∧ ∃ j, j < js.length ∧ (y = (el js j).toNat ∨ y = gQuo k p 0 (el js j).toNat) := by
  unfold clF metF
  simp only [Bool.and_eq_true, decide_eq_true_eq, List.any_eq_true, List.mem_range, Bool.or_eq_true, beq_iff_eq]
theorem clE_ok {k p : Nat} {js : List Int} : elOk (gOrd k p) (clE k p js) (clE k p js).length = true := by
  unfold elOk
  rw [List.all_eq_true]
  intro i hi
  rw [List.mem_range] at hi
  obtain ⟨y, h1, _, e⟩ := mem_clE.1 (el_mem hi)
  rw [e]
  unfold inE
  simp
  omega
theorem clE_twice {k p : Nat} {js : List Int} (h : gOk k p = true) (hj : elOk (gOrd k p) js js.length = true) : clE k p (clE k p js) = clE k p js := by
  have key : ∀ y, y < gOrd k p → clF k p (clE k p js) y = clF k p js y := by
    intro y hy
    rw [Bool.eq_iff_iff]
    constructor
    · intro hc
      obtain ⟨h0, i, hi, hc⟩ := clF_iff.1 hc
      obtain ⟨c, hc1, hc2, e⟩ := mem_clE.1 (el_mem hi)
      rw [e, Int.toNat_natCast] at hc
      obtain ⟨_, j, hjl, hcj⟩ := clF_iff.1 hc2
      have hs : (el js j).toNat < gOrd k p := by have := elOk_at hj hjl; omega
      rw [clF_iff]
      refine ⟨h0, j, hjl, ?_⟩
      rcases hc with rfl | rfl
      · exact hcj
      · rcases hcj with rfl | rfl
        · exact .inr rfl
        · exact .inl (gInv_inv h hs)
    · intro hc
      have h0 := (clF_iff.1 hc).1
      obtain ⟨i, hi, e⟩ := mem_el (mem_clE.2 ⟨y, hy, hc, rfl⟩)
      rw [clF_iff]
      exact ⟨h0, i, hi, .inl (by rw [e, Int.toNat_natCast])⟩
  show ((List.range (gOrd k p)).filter (clF k p (clE k p js))).map _ = ((List.range (gOrd k p)).filter (clF k p js)).map _
  congr 1
  apply List.filter_congr
  intro y hy
  exact key y (List.mem_range.1 hy)

/-- What can be reached from v along a graph's edges. -/
inductive RR (zs : List Int) (v : Nat) : Nat → Prop
  | start : RR zs v v
  | step {x w : Nat} : RR zs v x → x < zs.length → bt (el zs x) w = true → RR zs v w
theorem cay_bt {k p x w : Nat} {js : List Int} (hx : x < gOrd k p) : bt (el (proR k p js) x) w = true ↔ w < gOrd k p ∧ proF k p x js w = true := by
  rw [proR_el k p js x hx]
  unfold bt
  rw [Int.toNat_natCast, bitsN_testBit]
  simp
theorem proF_iff {k p x w : Nat} {js : List Int} : proF k p x js w = true ↔ ∃ i, i < js.length ∧ (w = gMul k p x (el js i).toNat ∨ w = gQuo k p x (el js i).toNat) := by
  unfold proF mulF quoF
  simp only [Bool.or_eq_true, List.any_eq_true, List.mem_range, beq_iff_eq]
  constructor
  · rintro (⟨i, hi, e⟩ | ⟨i, hi, e⟩)
    · exact ⟨i, hi, .inl e⟩
    · exact ⟨i, hi, .inr e⟩
  · rintro ⟨i, hi, e | e⟩
    · exact .inl ⟨i, hi, e⟩
    · exact .inr ⟨i, hi, e⟩
/-- The part of the Cayley graph with the unit is what the list generates. -/
theorem cay_reach {k p w : Nat} {js : List Int} (h : gOk k p = true) (hj : elOk (gOrd k p) js js.length = true) : RR (proR k p (clE k p js)) 0 w ↔ Reach k p js w := by
  constructor
  · intro hr
    induction hr with
    | start => exact .unit
    | @step x w _ hx hb ih =>
      rw [proR_length] at hx
      obtain ⟨hw, hp⟩ := (cay_bt hx).1 hb
      obtain ⟨i, hi, hc⟩ := proF_iff.1 hp
      obtain ⟨c, hc1, hc2, e⟩ := mem_clE.1 (el_mem hi)
      rw [e, Int.toNat_natCast] at hc
      obtain ⟨_, j, hjl, hcj⟩ := clF_iff.1 hc2
      have hs : (el js j).toNat < gOrd k p := by have := elOk_at hj hjl; omega
      rcases hcj with rfl | rfl
      · rcases hc with rfl | rfl
        · exact ih.step hjl
        · exact ih.quo h hj hjl
      · rw [gMul_inv h hx hs, gQuo_inv h hx hs] at hc
        rcases hc with rfl | rfl
        · exact ih.quo h hj hjl
        · exact ih.step hjl
  · intro hr
    induction hr with
    | unit => exact .start
    | @step x i hx hi ih =>
      have hxl := hx.lt h
      have hs : (el js i).toNat < gOrd k p := by have := elOk_at hj hi; omega
      by_cases h0 : (el js i).toNat = 0
      · rw [h0, gMul_zero h hxl]; exact ih
      · obtain ⟨m, hm, e⟩ := mem_el (mem_clE.2 ⟨_, hs, clF_iff.2 ⟨h0, i, hi, .inl rfl⟩, rfl⟩)
        refine ih.step (by rw [proR_length]; exact hxl) ((cay_bt hxl).2 ⟨gMul_lt h, proF_iff.2 ⟨m, hm, .inl ?_⟩⟩)
        rw [e, Int.toNat_natCast]

/-- What holds between two rounds: the vertices to which there are ways of even, and of odd lengths. -/
structure RV (zs : List Int) (v ev od : Nat) : Prop where
  elt : ev < 2 ^ zs.length
  olt : od < 2 ^ zs.length
  at0 : ev.testBit v = true
  ok : ∀ w, (ev ||| od).testBit w = true → RR zs v w
def rOdd (zs : List Int) (ev od : Nat) : Nat := od ||| arN zs (mem ev)
def rEven (zs : List Int) (ev od : Nat) : Nat := ev ||| arN zs (mem (rOdd zs ev od))
theorem bit_lt {a m w : Nat} (h : a < 2 ^ m) (hb : a.testBit w = true) : w < m := by
  refine Nat.lt_of_not_le fun hle => ?_
  have := Nat.testBit_lt_two_pow (Nat.lt_of_lt_of_le h (Nat.pow_le_pow_right (show 0 < 2 by decide) hle))
  rw [this] at hb; cases hb
theorem ar_iff {zs : List Int} {a w : Nat} (ha : a < 2 ^ zs.length) (h62 : zs.length ≤ 62) : (arN zs (mem a)).testBit w = true ↔ ∃ x, x < zs.length ∧ a.testBit x = true ∧ bt (el zs x) w = true := by
  rw [arN_bit, List.any_eq_true]
  constructor
  · rintro ⟨x, hx, hb⟩
    have h := (mem_iff.1 hx).2
    exact ⟨x, bit_lt ha h, h, hb⟩
  · rintro ⟨x, hx, h, hb⟩
    exact ⟨x, mem_iff.2 ⟨by omega, h⟩, hb⟩
theorem RV.start {zs : List Int} {v : Nat} (hv : v < zs.length) : RV zs v (2 ^ v) 0 := by
  refine ⟨Nat.pow_lt_pow_right (by decide) hv, Nat.two_pow_pos _, by rw [Nat.testBit_two_pow]; simp, fun w hb => ?_⟩
  rw [Nat.or_zero, Nat.testBit_two_pow] at hb
  have : v = w := by simpa using hb
  subst this
  exact .start
theorem RV.next {zs : List Int} {v ev od : Nat} (h : RV zs v ev od) (h62 : zs.length ≤ 62) (hz : ∀ i, i < zs.length → (el zs i).toNat < 2 ^ zs.length) : RV zs v (rEven zs ev od) (rOdd zs ev od) := by
  have ho : rOdd zs ev od < 2 ^ zs.length := Nat.or_lt_two_pow h.olt (arN_lt zs _ hz _)
  have he : rEven zs ev od < 2 ^ zs.length := Nat.or_lt_two_pow h.elt (arN_lt zs _ hz _)
  have k1 : ∀ w, (rOdd zs ev od).testBit w = true → RR zs v w := by
    intro w hb
    unfold rOdd at hb
    rw [Nat.testBit_or, Bool.or_eq_true] at hb
    rcases hb with hb | hb
    · exact h.ok w (by rw [Nat.testBit_or, hb]; simp)
    · obtain ⟨x, hx, hxb, hR⟩ := (ar_iff h.elt h62).1 hb
      exact (h.ok x (by rw [Nat.testBit_or, hxb]; rfl)).step hx hR
  refine ⟨he, ho, by unfold rEven; rw [Nat.testBit_or, h.at0]; rfl, fun w hb => ?_⟩
  rw [Nat.testBit_or, Bool.or_eq_true] at hb
  rcases hb with hb | hb
  · unfold rEven at hb
    rw [Nat.testBit_or, Bool.or_eq_true] at hb
    rcases hb with hb | hb
    · exact h.ok w (by rw [Nat.testBit_or, hb]; rfl)
    · obtain ⟨x, hx, hxb, hR⟩ := (ar_iff ho h62).1 hb
      exact (k1 x hxb).step hx hR
  · exact k1 w hb
theorem RV.done {zs : List Int} {v ev od : Nat} (h : RV zs v ev od) (h62 : zs.length ≤ 62) (he : rEven zs ev od = ev) (ho : rOdd zs ev od = od) : ∀ w, ((ev ||| od).testBit w = true ↔ RR zs v w) := by
  have closed : ∀ x w, x < zs.length → (ev ||| od).testBit x = true → bt (el zs x) w = true → (ev ||| od).testBit w = true := by
    intro x w hx hb hR
    rw [Nat.testBit_or, Bool.or_eq_true] at hb
    rw [Nat.testBit_or, Bool.or_eq_true]
    rcases hb with hb | hb
    · refine .inr ?_
      rw [← ho]; unfold rOdd
      rw [Nat.testBit_or, (ar_iff h.elt h62).2 ⟨x, hx, hb, hR⟩]; simp
    · refine .inl ?_
      rw [← he]; unfold rEven
      rw [ho, Nat.testBit_or, (ar_iff h.olt h62).2 ⟨x, hx, hb, hR⟩]; simp
  intro w
  refine ⟨h.ok w, fun hr => ?_⟩
  induction hr with
  | start => rw [Nat.testBit_or, h.at0]; rfl
  | @step x w _ hx hb ih => exact closed x w hx ih hb
end Go.Proofs.YtklgimikdnokcaaDoor
