/-
  Antipodal graphs: the graph at the distance d is made of cliques just if no three vertices speak against it. Plain facts.
-/
import Derived.Test.YtlodaeoikkjbkaaDoorMgB
import Derived.Test.YtlodaeoikkjbkaaDoorSy
import Derived.Test.YtlodaeoikkjbkaaDoorMgD
namespace Go.Proofs.YtlodaeoikkjbkaaDoor
set_option maxRecDepth 100000
open Go.RowKit

theorem gaT {zs : List Int} (hg : isG zs.length zs = true) {d : Int} {a b : Nat} (ha : a < zs.length) : bt (el (gaR zs d) a) b = true ↔ b < zs.length ∧ a ≠ b ∧ el (dsL zs a) b = d := by
  unfold gaR
  rw [el_rowsF _ _ _ ha]
  unfold bt
  rw [Int.toNat_natCast, bitsN_testBit, Bool.and_eq_true, decide_eq_true_eq, adjW]
  constructor
  · rintro ⟨h1, h2, h3, h4⟩
    refine ⟨h1, h2, ?_⟩
    have h5 : el (dsL zs (min a b)) (max a b) = d := of_decide_eq_true h4
    rcases Nat.lt_or_ge a b with h | h
    · rw [show min a b = a by omega, show max a b = b by omega] at h5; exact h5
    · rw [show min a b = b by omega, show max a b = a by omega] at h5
      rw [dsL_at h1, dist_symm hg ha h1, ← dsL_at ha]; exact h5
  · rintro ⟨h1, h2, h3⟩
    refine ⟨h1, h2, by omega, ?_⟩
    show decide (el (dsL zs (min a b)) (max a b) = d) = true
    rw [decide_eq_true_eq]
    rcases Nat.lt_or_ge a b with h | h
    · rw [show min a b = a by omega, show max a b = b by omega]; exact h3
    · rw [show min a b = b by omega, show max a b = a by omega, dsL_at ha, dist_symm hg h1 ha, ← dsL_at h1]; exact h3
theorem gaR_length' (zs : List Int) (d : Int) : (gaR zs d).length = zs.length := rowsF_length _ _

/-- Three vertices that speak against it. -/
def anT (zs : List Int) (d : Int) (v x y : Nat) : Bool := decide (el (dsL zs v) x = d) && decide (el (dsL zs v) y = d) && !decide (el (dsL zs x) y = d)
/-- No three vertices do. -/
def anP (zs : List Int) (d : Int) : Prop := ∀ v x y, v < zs.length → x < zs.length → y < x → anT zs d v x y = false
open Classical in
noncomputable def anB (zs : List Int) (d : Int) : Bool := decide (anP zs d)
open Classical in
theorem anB_yes {zs : List Int} {d : Int} (h : anP zs d) : anB zs d = true := decide_eq_true h
open Classical in
theorem anB_no {zs : List Int} {d : Int} {v x y : Nat} (hv : v < zs.length) (hx : x < zs.length) (hy : y < x) (h : anT zs d v x y = true) : anB zs d = false := decide_eq_false fun hp => by rw [hp v x y hv hx hy] at h; cases h
open Classical in
theorem anB_iff {zs : List Int} {d : Int} : anB zs d = true ↔ anP zs d := decide_eq_true_iff

variable {zs : List Int} {d : Int}
theorem ds_self {v : Nat} (hv : v < zs.length) : el (dsL zs v) v = 0 := by
  rw [dsL_at hv, dOf_lev hv (d := 0) (by rw [lev_zero]; simp)]; rfl
/-- What the relation says where no three vertices speak against it. -/
theorem anP.tr (hg : isG zs.length zs = true) (h : anP zs d) {v x y : Nat} (hv : v < zs.length) (hx : x < zs.length) (hy : y < zs.length) (hxy : x ≠ y) (h1 : el (dsL zs v) x = d) (h2 : el (dsL zs v) y = d) : el (dsL zs x) y = d := by
  have key : ∀ x y, x < zs.length → y < zs.length → y < x → el (dsL zs v) x = d → el (dsL zs v) y = d → el (dsL zs x) y = d := fun x y hx hy hyx h1 h2 => by
    have := h v x y hv hx hyx
    unfold anT at this
    rw [decide_eq_true h1, decide_eq_true h2] at this
    simpa using this
  rcases Nat.lt_or_ge y x with hlt | hge
  · exact key x y hx hy hlt h1 h2
  · rw [dsL_at hy, dist_symm hg hx hy, ← dsL_at hx]
    exact key y x hy hx (by omega) h2 h1
/-- Where no three vertices speak against it, whatever is reached is a neighbour. -/
theorem anP.clique (hg : isG zs.length zs = true) (h : anP zs d) {a : Nat} (ha : a < zs.length) : ∀ b, b < zs.length → rch (gaR zs d) a b → a ≠ b → bt (el (gaR zs d) a) b = true := by
  have hl := gaR_length' zs d
  have key : ∀ k b, lev (Rw (gaR zs d) a 0) (gaR zs d).length a k b = true → a = b ∨ bt (el (gaR zs d) a) b = true := by
    intro k
    induction k with
    | zero =>
      intro b hb
      rw [lev_zero] at hb
      exact .inl (by have : b = a := by simpa using hb
                     exact this.symm)
    | succ k ih =>
      intro b hb
      obtain ⟨hbn, _, u, hu, hlu, hR⟩ := lev_succ_iff.1 hb
      rw [Rw_zero] at hR
      rw [hl] at hbn hu
      rcases ih u hlu with e | e
      · subst e; exact .inr hR
      · by_cases hab : a = b
        · exact .inl hab
        · obtain ⟨_, _, e1⟩ := (gaT hg ha).1 e
          obtain ⟨_, _, e2⟩ := (gaT hg hu).1 hR
          have e3 : el (dsL zs u) a = d := by rw [dsL_at ha, dist_symm hg hu ha, ← dsL_at hu]; exact e1
          exact .inr ((gaT hg ha).2 ⟨hbn, hab, h.tr hg hu ha hbn hab e3 e2⟩)
  intro b hb hr hne
  obtain ⟨k, hk⟩ := dOf_nat hr
  rcases key k b (dOf_lt hk) with e | e
  · exact absurd e hne
  · exact e
/-- And the other way round. -/
theorem anP.of_clique (hg : isG zs.length zs = true) (hd : 0 < d) (h : ∀ a b, a < zs.length → b < zs.length → rch (gaR zs d) a b → a ≠ b → bt (el (gaR zs d) a) b = true) : anP zs d := by
  have hl := gaR_length' zs d
  intro v x y hv hx hy
  cases he : anT zs d v x y with
  | false => rfl
  | true =>
    unfold anT at he
    simp only [Bool.and_eq_true, decide_eq_true_eq, Bool.not_eq_true', decide_eq_false_iff_not] at he
    obtain ⟨⟨h1, h2⟩, h3⟩ := he
    have hyn : y < zs.length := by omega
    have hvx : v ≠ x := fun e => by subst e; rw [ds_self hv] at h1; omega
    have hvy : v ≠ y := fun e => by subst e; rw [ds_self hv] at h2; omega
    have t1 : bt (el (gaR zs d) x) v = true := (gaT hg hx).2 ⟨hv, Ne.symm hvx, by rw [dsL_at hv, dist_symm hg hx hv, ← dsL_at hx]; exact h1⟩
    have t2 : bt (el (gaR zs d) v) y = true := (gaT hg hv).2 ⟨hyn, hvy, h2⟩
    have r1 : rch (gaR zs d) x v := rch_step (by omega) (rch_self (by omega)) t1 (by omega)
    have r2 : rch (gaR zs d) x y := rch_step (by omega) r1 t2 (by omega)
    exact absurd ((gaT hg hx).1 (h x y hx hyn r2 (by omega))).2.2 h3

/-- The row of the k-th part. -/
def ptR (n : Nat) (F : Nat → Nat × Nat) (k : Nat) : Nat := (F (lo (lfN n F k))).1 ||| (F (lo (lfN n F k))).2
section
variable {F : Nat → Nat × Nat} {fz : List Int} {p : Nat}
variable (h62 : fz.length ≤ 62) (hz : ∀ i, i < fz.length → (el fz i).toNat < 2 ^ fz.length) (hF : ∀ v, v < fz.length → RD fz v (F v)) (hp : PN fz.length F p)
theorem lfN_gone : ∀ k w, w < fz.length → (lfN fz.length F k).testBit w = false → ∃ j, j < k ∧ (ptR fz.length F j).testBit w = true
  | 0, w, hw, h => by
    have : (2 ^ fz.length - 1).testBit w = false := h
    rw [Nat.testBit_two_pow_sub_one, decide_eq_true hw] at this
    cases this
  | k + 1, w, hw, h => by
    have h' : (anot (lfN fz.length F k) (ptR fz.length F k)).testBit w = false := h
    rw [anot_bit] at h'
    cases hk : (lfN fz.length F k).testBit w with
    | false =>
      obtain ⟨j, hj, hb⟩ := lfN_gone k w hw hk
      exact ⟨j, by omega, hb⟩
    | true =>
      rw [hk] at h'
      exact ⟨k, by omega, by simpa using h'⟩
include hp in
theorem part_ex {w : Nat} (hw : w < fz.length) : ∃ j, j < p ∧ (ptR fz.length F j).testBit w = true := lfN_gone p w hw (by rw [hp.1]; simp)
include h62 hz hF hp in
theorem ptR_lt {k : Nat} (hk : k < p) : ptR fz.length F k < 2 ^ fz.length := by
  have hlo := lo_lt h62 (hp.2 k hk)
  have hi := (hF _ hlo).inv hlo h62 hz
  exact Nat.or_lt_two_pow hi.elt hi.olt
include h62 hz hF hp in
theorem ptR_bit {k : Nat} (hk : k < p) {w : Nat} (hw : w < fz.length) : (ptR fz.length F k).testBit w = decide (rch fz (lo (lfN fz.length F k)) w) :=
  (hF _ (lo_lt h62 (hp.2 k hk))).or (lo_lt h62 (hp.2 k hk)) h62 hz w hw
end

section
variable {F : Nat → Nat × Nat} {p : Nat}
variable (hg : isG zs.length zs = true) (hd : 0 < d) (hF : ∀ v, v < zs.length → RD (gaR zs d) v (F v)) (hp : PN zs.length F p)
theorem ga_sym (hg : isG zs.length zs = true) : ∀ a b, a < (gaR zs d).length → b < (gaR zs d).length → bt (el (gaR zs d) b) a = bt (el (gaR zs d) a) b := fun a b ha hb => by
  have h := gaR_isG hg d
  rw [← gaR_length' zs d] at h
  exact isG_symm h ha hb
theorem ga_lt : ∀ i, i < (gaR zs d).length → (el (gaR zs d) i).toNat < 2 ^ (gaR zs d).length := fun i hi => by
  rw [gaR_length'] at hi ⊢
  unfold gaR
  rw [el_rowsF _ _ _ hi, Int.toNat_natCast]
  exact bitsN_lt _ _
theorem ga_62 (hg : isG zs.length zs = true) : (gaR zs d).length ≤ 62 := by
  rw [gaR_length']
  have := (isG_parts hg).2.1
  omega
include hg hF hp in
/-- Each vertex of a part has the others of the part in its row, where no three vertices speak against it. -/
theorem an_pass (h : anP zs d) {k v : Nat} (hk : k < p) (hv : v < zs.length) (hb : (ptR zs.length F k).testBit v = true) : (el (gaR zs d) v).toNat = anot (ptR zs.length F k) (2 ^ v) := by
  have hl := gaR_length' zs d
  rw [← hl] at hF hp hb ⊢
  have hlo := lo_lt (ga_62 hg) (hp.2 k hk)
  rw [ptR_bit (ga_62 hg) ga_lt hF hp hk (by omega)] at hb
  have hrv : rch (gaR zs d) (lo (lfN (gaR zs d).length F k)) v := of_decide_eq_true hb
  apply Nat.eq_of_testBit_eq
  intro w
  rw [anot_bit, Nat.testBit_two_pow]
  rcases Nat.lt_or_ge w zs.length with hw | hw
  · rw [ptR_bit (ga_62 hg) ga_lt hF hp hk (by omega)]
    by_cases e : v = w
    · subst e
      have : bt (el (gaR zs d) v) v = false := by
        cases hbt : bt (el (gaR zs d) v) v with
        | false => rfl
        | true => exact absurd rfl ((gaT hg hv).1 hbt).2.1
      have h2 : (el (gaR zs d) v).toNat.testBit v = false := this
      rw [h2]; simp
    · rw [decide_eq_false e, Bool.not_false, Bool.and_true]
      show bt (el (gaR zs d) v) w = _
      by_cases hr : rch (gaR zs d) (lo (lfN (gaR zs d).length F k)) w
      · rw [decide_eq_true hr]
        exact h.clique hg hv w hw (rch_trans (by omega) (rch_symm (ga_sym hg) hlo hrv) hr) e
      · rw [decide_eq_false hr]
        cases hbt : bt (el (gaR zs d) v) w with
        | false => rfl
        | true => exact absurd (rch_step hlo hrv hbt (by omega)) hr
  · rw [Nat.testBit_lt_two_pow (Nat.lt_of_lt_of_le (ga_lt v (by omega)) (Nat.pow_le_pow_right (by decide) (by omega))),
      Nat.testBit_lt_two_pow (Nat.lt_of_lt_of_le (ptR_lt (ga_62 hg) ga_lt hF hp hk) (Nat.pow_le_pow_right (by decide) (by omega)))]
    rfl
include hg hd hF hp in
/-- And where each has, none do. -/
theorem an_all (h : ∀ k, k < p → ∀ v, v < zs.length → (ptR zs.length F k).testBit v = true → (el (gaR zs d) v).toNat = anot (ptR zs.length F k) (2 ^ v)) : anP zs d := by
  have hl := gaR_length' zs d
  rw [← hl] at hF hp
  refine anP.of_clique hg hd fun a b ha hb hr hne => ?_
  obtain ⟨k, hk, hba⟩ := part_ex hp (w := a) (by omega)
  have hlo := lo_lt (ga_62 hg) (hp.2 k hk)
  have hra : rch (gaR zs d) (lo (lfN (gaR zs d).length F k)) a := by
    rw [ptR_bit (ga_62 hg) ga_lt hF hp hk (by omega)] at hba
    exact of_decide_eq_true hba
  have hbb : (ptR (gaR zs d).length F k).testBit b = true := by
    rw [ptR_bit (ga_62 hg) ga_lt hF hp hk (by omega), decide_eq_true_eq]
    exact rch_trans hlo hra hr
  have := h k hk a ha (by rw [← hl]; exact hba)
  show (el (gaR zs d) a).toNat.testBit b = true
  rw [this, anot_bit, ← hl, hbb, Nat.testBit_two_pow, decide_eq_false hne]
  rfl
include hg hF hp in
theorem an_fail {k v : Nat} (hk : k < p) (hv : v < zs.length) (hb : (ptR zs.length F k).testBit v = true) (h : (el (gaR zs d) v).toNat ≠ anot (ptR zs.length F k) (2 ^ v)) : anB zs d = false := by
  cases he : anB zs d with
  | false => rfl
  | true => exact absurd (an_pass hg hF hp (anB_iff.1 he) hk hv hb) h
end
end Go.Proofs.YtlodaeoikkjbkaaDoor
