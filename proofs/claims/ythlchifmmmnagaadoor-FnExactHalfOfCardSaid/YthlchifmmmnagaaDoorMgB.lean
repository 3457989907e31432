/-
  Several texts in one: Hf0 Hf1 Hf2 Hf3.
-/
import Derived.Test.YthlchifmmmnagaaDoorMgF
import Derived.Test.YthlchifmmmnagaaDoorMgD
import Derived.Test.YthlchifmmmnagaaDoorMgC
import Derived.Test.YthlchifmmmnagaaDoorMgA
import Derived.Test.YthlchifmmmnagaaDoorDm
import Derived.Test.YthlchifmmmnagaaDoorNbI
import Derived.Test.YthlchifmmmnagaaDoorDn
import Derived.Test.YthlchifmmmnagaaDoorTt
import Derived.Deep.DeepCutAuto
import Derived.Deep.RegionWith
import Derived.BigQuiet
import Derived.Deep.QuietTactic
namespace Go.Proofs.YthlchifmmmnagaaDoor
set_option maxRecDepth 100000
open Go.RowKit

/-- The distance from vertex 0. -/
def dz (zs : List Int) (w : Nat) : Int := el (dsL zs 0) w
/-- Two neighbours, w before v, at distances of the same parity. -/
def samP (zs : List Int) (v w : Nat) : Bool := bt (el zs v) w && decide ((dz zs v - dz zs w) % 2 = 0)
def samV (zs : List Int) (v : Nat) : Bool := (List.range v).any fun w => samP zs v w
def samB (zs : List Int) (n : Nat) : Bool := (List.range n).any fun v => samV zs v
theorem samB_iff {zs : List Int} {n : Nat} : samB zs n = true ↔ ∃ v w, w < v ∧ v < n ∧ bt (el zs v) w = true ∧ (dz zs v - dz zs w) % 2 = 0 := by
  unfold samB samV samP
  simp only [List.any_eq_true, List.mem_range, Bool.and_eq_true, decide_eq_true_eq]
  constructor
  · rintro ⟨v, hv, w, hw, h1, h2⟩; exact ⟨v, w, hw, hv, h1, h2⟩
  · rintro ⟨v, w, hw, hv, h1, h2⟩; exact ⟨v, hv, w, hw, h1, h2⟩
/-- A colouring in which no two neighbours have the same colour. -/
def ColH (zs : List Int) (c : Nat → Bool) : Prop := ∀ a b, a < zs.length → b < zs.length → bt (el zs a) b = true → c a ≠ c b

variable {zs : List Int} (h0 : 0 < zs.length) (h62 : zs.length ≤ 62) (hz : ∀ i, i < zs.length → (el zs i).toNat < 2 ^ zs.length)
  (sym : ∀ a b, a < zs.length → b < zs.length → bt (el zs b) a = bt (el zs a) b) (irr : ∀ a, a < zs.length → bt (el zs a) a = false)
  (hcon : ∀ w, w < zs.length → 0 ≤ dz zs w)

theorem dz_dOf {w : Nat} (h : w < zs.length) : dz zs w = dOf (Rw zs 0 0) zs.length 0 w := dsL_at h
include h62 hz in
theorem rows_col {c : Nat → Bool} (hc : ColH zs c) {v : Nat} (hv : v < zs.length) : ∀ k, (∀ w, (rIt zs v k).1.testBit w = true → w < zs.length ∧ c w = c v) ∧ (∀ w, (rIt zs v k).2.testBit w = true → w < zs.length ∧ c w ≠ c v)
  | 0 => by
    refine ⟨fun w hw => ?_, fun w hw => ?_⟩
    · have h1 : (2 ^ v : Nat).testBit w = true := hw
      rw [Nat.testBit_two_pow] at h1
      obtain rfl : v = w := by simpa using h1
      exact ⟨hv, rfl⟩
    · have h1 : (0 : Nat).testBit w = true := hw
      simp at h1
  | k + 1 => by
    obtain ⟨ih1, ih2⟩ := rows_col hc hv k
    have hinv := rIt_inv hv h62 hz k
    have hod : ∀ w, (rOdd zs (rIt zs v k).1 (rIt zs v k).2).testBit w = true → w < zs.length ∧ c w ≠ c v := fun w hw => by
      unfold rOdd at hw
      rw [Nat.testBit_or, Bool.or_eq_true] at hw
      rcases hw with hw | hw
      · exact ih2 w hw
      · obtain ⟨x, hx, hxb, hR⟩ := (ar_iff hinv.elt h62).1 hw
        have hwn : w < zs.length := bit_lt (hz x hx) hR
        exact ⟨hwn, fun e => hc x w hx hwn hR (by rw [e]; exact (ih1 x hxb).2)⟩
    have hodlt : rOdd zs (rIt zs v k).1 (rIt zs v k).2 < 2 ^ zs.length := (rIt_inv hv h62 hz (k + 1)).olt
    refine ⟨fun w hw => ?_, hod⟩
    have h1 : (rEven zs (rIt zs v k).1 (rIt zs v k).2).testBit w = true := hw
    unfold rEven at h1
    rw [Nat.testBit_or, Bool.or_eq_true] at h1
    rcases h1 with h1 | h1
    · exact ih1 w h1
    · obtain ⟨x, hx, hxb, hR⟩ := (ar_iff hodlt h62).1 h1
      have hwn : w < zs.length := bit_lt (hz x hx) hR
      refine ⟨hwn, ?_⟩
      have a1 := (hod x hxb).2
      have a2 := hc x w hx hwn hR
      cases h3 : c w <;> cases h4 : c v <;> cases h5 : c x <;> simp_all

include h0 h62 hz sym irr hcon in
/-- No two neighbours of the same parity: the even row is that of the even distances. -/
theorem half_yes {F : Nat × Nat} (hF : RD zs 0 F) (h : samB zs zs.length = false) : F.1 &&& F.2 = 0 ∧ F.1 < 2 ^ zs.length ∧ ∀ w, w < zs.length → F.1.testBit w = decide (dz zs w % 2 = 0) := by
  have hno : ∀ v w, w < v → v < zs.length → bt (el zs v) w = true → (dz zs v - dz zs w) % 2 ≠ 0 := fun v w hw hv h1 h2 => by
    have := samB_iff.2 ⟨v, w, hw, hv, h1, h2⟩
    rw [h] at this; cases this
  have hc : ColH zs (fun w => decide (dz zs w % 2 = 0)) := fun a b ha hb hR => by
    rcases Nat.lt_trichotomy a b with hab | rfl | hab
    · have := hno b a hab hb (by rw [sym a b ha hb]; exact hR)
      simp only [ne_eq, decide_eq_decide]; omega
    · rw [irr a ha] at hR; cases hR
    · have := hno a b hab ha hR
      simp only [ne_eq, decide_eq_decide]; omega
  have hd0 : dz zs 0 = 0 := by
    rw [dz_dOf h0, dOf_lev (d := 0) h0 (by rw [lev_zero]; simp)]; rfl
  have hinv := hF.inv h0 h62 hz
  obtain ⟨hfe, hfo⟩ := hF.fix
  have hall := hinv.done h62 hfe hfo
  obtain ⟨k, hk, _⟩ := hF
  obtain ⟨c1, c2⟩ := rows_col h62 hz hc h0 k
  rw [← hk] at c1 c2
  simp only [hd0] at c1 c2
  refine ⟨Nat.eq_of_testBit_eq fun w => ?_, hinv.elt, fun w hw => ?_⟩
  · rw [Nat.testBit_and, Nat.zero_testBit]
    cases e1 : F.1.testBit w with
    | false => rfl
    | true =>
      cases e2 : F.2.testBit w with
      | false => rfl
      | true => exact absurd (c1 w e1).2 (c2 w e2).2
  · have ha := hall w hw
    rw [← dz_dOf hw, decide_eq_true (hcon w hw), Nat.testBit_or] at ha
    cases e1 : F.1.testBit w with
    | true => have := (c1 w e1).2; simp at this; simp [this]
    | false =>
      rw [e1, Bool.false_or] at ha
      have := (c2 w ha).2
      simp at this; simp [this]
include h0 h62 hz hcon in
/-- Two neighbours of the same parity: the rows meet. -/
theorem half_no {F : Nat × Nat} (hF : RD zs 0 F) (h : samB zs zs.length = true) : F.1 &&& F.2 ≠ 0 := by
  intro hdis
  obtain ⟨v, w, hwv, hv, hR, hp⟩ := samB_iff.1 h
  have hinv := hF.inv h0 h62 hz
  obtain ⟨hfe, hfo⟩ := hF.fix
  have hall := hinv.done h62 hfe hfo
  have no : ∀ w, F.1.testBit w = true → F.2.testBit w = true → False := fun w h1 h2 => by
    have h3 := congrArg (fun x : Nat => x.testBit w) hdis
    simp only [Nat.testBit_and, h1, h2] at h3
    simp at h3
  have hc : ColH zs (fun w => F.1.testBit w) := fun a b ha hb hR => by
    have hab := hall a ha
    rw [← dz_dOf ha, decide_eq_true (hcon a ha), Nat.testBit_or] at hab
    show F.1.testBit a ≠ F.1.testBit b
    cases e1 : F.1.testBit a with
    | true =>
      have hob : F.2.testBit b = true := by
        rw [← hfo]; unfold rOdd
        rw [Nat.testBit_or, (ar_iff hinv.elt h62).2 ⟨a, ha, e1, hR⟩, Bool.or_true]
      cases e2 : F.1.testBit b with
      | true => exact (no b e2 hob).elim
      | false => simp
    | false =>
      rw [e1, Bool.false_or] at hab
      have heb : F.1.testBit b = true := by
        rw [← hfe]; unfold rEven
        rw [hfo, Nat.testBit_or, (ar_iff hinv.olt h62).2 ⟨a, ha, hab, hR⟩, Bool.or_true]
      rw [heb]; simp
  have hlev : ∀ d x, lev (Rw zs 0 0) zs.length 0 d x = true → F.1.testBit x = decide (d % 2 = 0) := by
    intro d
    induction d with
    | zero =>
      intro x hx
      rw [lev_zero] at hx
      obtain rfl : x = 0 := by simpa using hx
      rw [hinv.at0]; rfl
    | succ d ih =>
      intro x hx
      obtain ⟨hxn, _, y, hy, h1, h2⟩ := lev_succ_iff.1 hx
      rw [show Rw zs 0 0 y x = bt (el zs y) x by unfold Rw; simp] at h2
      have a1 := ih y h1
      have a2 := hc y x hy hxn h2
      simp only at a2
      rw [a1] at a2
      cases e : F.1.testBit x with
      | true =>
        rw [e] at a2
        have : ¬ d % 2 = 0 := by simpa using a2
        symm; rw [decide_eq_true_iff]; omega
      | false =>
        rw [e] at a2
        have : d % 2 = 0 := by simpa using a2
        symm; rw [decide_eq_false_iff_not]; omega
  have hpar : ∀ x, x < zs.length → F.1.testBit x = decide (dz zs x % 2 = 0) := fun x hx => by
    have hx0 := hcon x hx
    rw [dz_dOf hx] at hx0 ⊢
    by_cases he : ∃ d, lev (Rw zs 0 0) zs.length 0 d x = true
    · obtain ⟨d, hd⟩ := he
      rw [hlev d x hd, dOf_lev h0 hd, decide_eq_decide]; omega
    · have := dOf_none (R := Rw zs 0 0) (n := zs.length) (v := 0) (w := x) fun d => by
        cases e : lev (Rw zs 0 0) zs.length 0 d x with
        | true => exact (he ⟨d, e⟩).elim
        | false => rfl
      omega
  have hw : w < zs.length := by omega
  have := hc v w hv hw hR
  simp only at this
  rw [hpar v hv, hpar w hw] at this
  simp only [ne_eq, decide_eq_decide] at this
  omega
end Go.Proofs.YthlchifmmmnagaaDoor
namespace Go.Proofs.YthlchifmmmnagaaDoor
set_option maxRecDepth 100000
open Go.RowKit

/-- The vertices below k at even distances. -/
def evV (zs : List Int) (k : Nat) : List Nat := (List.range k).filter fun w => decide (dz zs w % 2 = 0)
def evL (zs : List Int) (k : Nat) : List Int := (evV zs k).map fun w : Nat => (w : Int)
theorem evL_yes {zs : List Int} {k : Nat} (h : dz zs k % 2 = 0) : evL zs (k + 1) = evL zs k ++ [(k : Int)] := by
  unfold evL evV; rw [List.range_succ, List.filter_append]; simp [h]
theorem evL_no {zs : List Int} {k : Nat} (h : ¬ dz zs k % 2 = 0) : evL zs (k + 1) = evL zs k := by
  unfold evL evV; rw [List.range_succ, List.filter_append]; simp [h]
theorem evL_length (zs : List Int) (k : Nat) : (evL zs k).length ≤ k := by
  unfold evL evV; rw [List.length_map]
  have := List.length_filter_le (fun w => decide (dz zs w % 2 = 0)) (List.range k)
  rwa [List.length_range] at this
theorem evL_lt (zs : List Int) (k i : Nat) (h : i < (evL zs k).length) : 0 ≤ el (evL zs k) i ∧ el (evL zs k) i < k := by
  have hm : el (evL zs k) i ∈ evL zs k := by unfold el; rw [List.getD_eq_getElem?_getD, List.getElem?_eq_getElem h]; exact List.getElem_mem h
  generalize el (evL zs k) i = x at *
  unfold evL evV at hm
  obtain ⟨w, hw, e⟩ := List.mem_map.1 hm
  have h1 := List.mem_range.1 (List.mem_filter.1 hw).1
  omega
theorem evL_mem (zs : List Int) (n : Nat) (ev : Nat) (he : ev < 2 ^ n) (hn : n ≤ 64) (hb : ∀ w, w < n → ev.testBit w = decide (dz zs w % 2 = 0)) : (mem ev).map (fun w : Nat => (w : Int)) = evL zs n := by
  unfold evL evV mem
  congr 1
  have e : List.range 64 = List.range n ++ (List.range (64 - n)).map (fun i => n + i) := by
    rw [← List.range_add]; congr 1; omega
  rw [e, List.filter_append]
  have e2 : ((List.range (64 - n)).map fun i => n + i).filter (fun j => ev.testBit j) = [] := by
    rw [List.filter_eq_nil_iff]
    intro j hj
    obtain ⟨i, _, rfl⟩ := List.mem_map.1 hj
    rw [Nat.testBit_lt_two_pow (Nat.lt_of_lt_of_le he (Nat.pow_le_pow_right (by decide) (by omega)))]; simp
  rw [e2, List.append_nil]
  exact List.filter_congr fun w hw => hb w (List.mem_range.1 hw)
theorem evL_asc (zs : List Int) (n : Nat) : ∀ k, k ≤ (evL zs n).length → ascTo n (evL zs n) k = true := by
  have hs : (evL zs n).Pairwise (· < ·) := by
    unfold evL evV
    rw [List.pairwise_map]
    refine List.Pairwise.imp (fun {a b} h => ?_) ((List.pairwise_lt_range (n := n)).filter _)
    omega
  intro k hk
  unfold ascTo
  rw [List.all_eq_true]
  intro i hi
  have hik := List.mem_range.1 hi
  have hb := evL_lt zs n i (by omega)
  simp only [Bool.and_eq_true, decide_eq_true_eq]
  refine ⟨?_, hb.2⟩
  cases i with
  | zero => unfold ascB; simpa using hb.1
  | succ i =>
    have hp := List.pairwise_iff_getElem.1 hs i (i + 1) (by omega) (by omega) (by omega)
    have e1 : el (evL zs n) i = (evL zs n)[i]'(by omega) := by simp [el, show i < (evL zs n).length by omega]
    have e2 : el (evL zs n) (i + 1) = (evL zs n)[i + 1]'(by omega) := by simp [el, show i + 1 < (evL zs n).length by omega]
    have : ascB (evL zs n) (i + 1) = el (evL zs n) i + 1 := by unfold ascB; simp
    rw [this, e1, e2]; omega

theorem isG_rowsF {n : Nat} (h1 : 1 ≤ n) (h2 : n ≤ 62) {f : Nat → Nat → Bool} (hs : ∀ a b, f a b = f b a) (hi : ∀ a, f a a = false) : isG (n : Int) (rowsF n f) = true := by
  have hl : (rowsF n f).length = n := rowsF_length _ _
  have hbt : ∀ a b, a < n → bt (el (rowsF n f) a) b = (decide (b < n) && f a b) := fun a b ha => by
    rw [el_rowsF n f a ha]; unfold bt; rw [Int.toNat_natCast, bitsN_testBit]
  unfold isG
  rw [hl]
  simp only [Bool.and_eq_true, decide_eq_true_eq]
  refine ⟨⟨⟨⟨by omega, by omega⟩, trivial⟩, ?_⟩, ?_⟩
  · unfold rowsOk
    rw [List.all_eq_true]
    intro v hv
    have hvn := List.mem_range.1 hv
    unfold rowOk
    rw [hbt v v hvn, hi, el_rowsF n f v hvn]
    have hlt := bitsN_lt (f v) n
    have e : ((2 : Int) ^ n) = ((2 ^ n : Nat) : Int) := by simp
    simp only [Int.toNat_natCast, e, Bool.and_false, Bool.not_false, Bool.and_true, Bool.and_eq_true, decide_eq_true_eq]
    omega
  · unfold symTo symAt
    rw [List.all_eq_true]
    intro i hi'
    rw [List.all_eq_true]
    intro j hj
    have h6 := List.mem_range.1 hi'
    have h7 := List.mem_range.1 hj
    rw [hbt i j h6, hbt j i (by omega), hs, decide_eq_true (by omega), decide_eq_true (by omega)]; simp
theorem gaR_isG {zs : List Int} (hg : isG zs.length zs = true) (i : Int) : isG (zs.length : Int) (gaR zs i) = true := by
  have h1 : (1 : Int) ≤ zs.length ∧ (zs.length : Int) ≤ 62 := by unfold isG at hg; simp only [Bool.and_eq_true, decide_eq_true_eq] at hg; exact hg.1.1.1
  refine isG_rowsF (by omega) (by omega) (adjS_symm _) fun a => ?_
  cases e : adjS (whereS (gaF zs i) zs.length) a a with
  | false => rfl
  | true =>
    obtain ⟨p, hp, h2, h3⟩ := (adjS_iff _ _ _).1 e
    have := (whereS_iff (gaF zs i) zs.length p).1 hp
    omega
theorem adjW {f : Nat → Nat → Bool} {n x y : Nat} : adjS (whereS f n) x y = true ↔ x ≠ y ∧ max x y < n ∧ f (min x y) (max x y) = true := by
  rw [adjS_iff]
  constructor
  · rintro ⟨⟨a, b⟩, hp, h1, h2⟩
    obtain ⟨h3, h4, h5⟩ := (whereS_iff f n _).1 hp
    simp only at h1 h2 h3 h4 h5
    have e1 : min a b = a := by omega
    have e2 : max a b = b := by omega
    rw [e1] at h1
    rw [e2] at h2
    refine ⟨by omega, by omega, by rw [h1, h2]; exact h5⟩
  · rintro ⟨h1, h2, h3⟩
    exact ⟨(min x y, max x y), (whereS_iff f n _).2 ⟨by simp only; omega, h2, h3⟩, by simp only; omega, by simp only; omega⟩
theorem onN_testBit (zs vs : List Int) (i j : Nat) : ∀ k, (onN zs vs i k).testBit j = (decide (j < k) && bt (el zs (el vs i).toNat) (el vs j).toNat)
  | 0 => by simp [onN]
  | k + 1 => by
    have ih := onN_testBit zs vs i j k
    by_cases e : j = k
    · subst e
      have hlt := Nat.testBit_lt_two_pow (onN_lt zs vs i j)
      cases h : bt (el zs (el vs i).toNat) (el vs j).toNat with
      | true => rw [onN_yes h, Nat.testBit_or, Nat.testBit_two_pow]; simp
      | false => rw [onN_no h, hlt]; simp
    · have hd : decide (j < k + 1) = decide (j < k) := by rw [decide_eq_decide]; omega
      cases h : bt (el zs (el vs i).toNat) (el vs k).toNat with
      | true => rw [onN_yes h, Nat.testBit_or, Nat.testBit_two_pow, ih, hd]; simp [Ne.symm e]
      | false => rw [onN_no h, ih, hd]
/-- Whether two of the even vertices, by their places, are at the distance 2. -/
def hfF (zs : List Int) (k i : Nat) : Bool := decide (el (dsL zs (el (evL zs zs.length) i).toNat) (el (evL zs zs.length) k).toNat = 2)
theorem evL_mono (zs : List Int) (n a b : Nat) (h : a < b) (hb : b < (evL zs n).length) : (el (evL zs n) a).toNat < (el (evL zs n) b).toNat := by
  have hs : (evL zs n).Pairwise (· < ·) := by
    unfold evL evV
    rw [List.pairwise_map]
    refine List.Pairwise.imp (fun {a b} h => ?_) ((List.pairwise_lt_range (n := n)).filter _)
    omega
  have hp := List.pairwise_iff_getElem.1 hs a b (by omega) hb h
  have e1 : el (evL zs n) a = (evL zs n)[a]'(by omega) := by simp [el, show a < (evL zs n).length by omega]
  have e2 : el (evL zs n) b = (evL zs n)[b]'hb := by simp [el, hb]
  have h1 := evL_lt zs n a (by omega)
  have h2 := evL_lt zs n b hb
  omega
theorem half_rows {zs : List Int} (hg : isG zs.length zs = true) : onL (gaR zs 2) (evL zs zs.length) = rowsF (evL zs zs.length).length (adjS (swapS (whereS (hfF zs) (evL zs zs.length).length))) := by
  rw [adjS_swap]
  refine ext_el (by rw [onL_length, rowsF_length]) fun a ha => ?_
  rw [onL_length] at ha
  rw [el_rowsF _ _ a ha, show el (onL (gaR zs 2) (evL zs zs.length)) a = onR (gaR zs 2) (evL zs zs.length) a (evL zs zs.length).length from el_map_range _ _ _ ha]
  unfold onR
  congr 1
  refine Nat.eq_of_testBit_eq fun k => ?_
  rw [onN_testBit, bitsN_testBit]
  by_cases hk : k < (evL zs zs.length).length
  · rw [decide_eq_true hk, Bool.true_and, Bool.true_and]
    have hla := evL_lt zs zs.length a ha
    have hlk := evL_lt zs zs.length k hk
    have hxa : (el (evL zs zs.length) a).toNat < zs.length := by omega
    have hxk : (el (evL zs zs.length) k).toNat < zs.length := by omega
    have mono := evL_mono zs zs.length
    unfold gaR
    rw [el_rowsF _ _ _ hxa]
    unfold bt
    rw [Int.toNat_natCast, bitsN_testBit, decide_eq_true hxk, Bool.true_and, Bool.eq_iff_iff, adjW, adjW]
    unfold gaF hfF
    rw [decide_eq_true_iff, decide_eq_true_iff]
    rcases Nat.lt_trichotomy a k with h | h | h
    · have hm := mono a k h hk
      rw [Nat.min_eq_left (Nat.le_of_lt h), Nat.max_eq_right (Nat.le_of_lt h), Nat.min_eq_left (Nat.le_of_lt hm), Nat.max_eq_right (Nat.le_of_lt hm)]
      rw [dsL_at hxk, dsL_at hxa, dist_symm hg hxa hxk]
      exact ⟨fun ⟨_, _, h3⟩ => ⟨by omega, hk, h3⟩, fun ⟨_, _, h3⟩ => ⟨by omega, hxk, h3⟩⟩
    · subst h
      exact ⟨fun ⟨h1, _⟩ => absurd rfl h1, fun ⟨h1, _⟩ => absurd rfl h1⟩
    · have hm := mono k a h ha
      rw [Nat.min_eq_right (Nat.le_of_lt h), Nat.max_eq_left (Nat.le_of_lt h), Nat.min_eq_right (Nat.le_of_lt hm), Nat.max_eq_left (Nat.le_of_lt hm)]
      rw [dsL_at hxa, dsL_at hxk, dist_symm hg hxk hxa]
      exact ⟨fun ⟨_, _, h3⟩ => ⟨by omega, ha, h3⟩, fun ⟨_, _, h3⟩ => ⟨by omega, hxa, h3⟩⟩
  · rw [decide_eq_false hk]; rfl
end Go.Proofs.YthlchifmmmnagaaDoor
namespace Go.Proofs.YthlchifmmmnagaaDoor
set_option maxRecDepth 100000
open Go.RowKit

theorem listOfH_any (x : Nat) (hx : x < 9223372036854775808) (h0 : x ≠ 0) (w : World) (hT : Tab w) :
    Calls Tryd.prog 34 #[.int .i64 x] w fun e w' => ∃ fg fc : Nat, e = .returned (.slice (some ⟨fg, 0, none⟩) (nI (mem x)).length fc) ∧ w.heap.size ≤ fg ∧ fg < w'.heap.size ∧ Own w' w.heap.size (.slice (some ⟨fg, 0, none⟩) (nI (mem x)).length fc) (nI (mem x)) ∧ Below w.heap.size w w' := by
  refine (listOf_any x hx w hT).mono ?_
  rintro e w' ⟨u, rfl, hO, hb⟩
  have hO2 : Own w' w.heap.size u (nI (mem x)) := by
    unfold Own
    have e1 : (nI (mem x)).map (Value.int .i64) = natsV (mem x) := by simp [nI, natsV]
    rw [e1, nI_length]; exact hO
  have hne : nI (mem x) ≠ [] := fun e => by
    obtain ⟨r, hr⟩ := lo_mem h0 (show x < 2 ^ 64 by omega)
    rw [hr] at e; simp [nI] at e
  rcases hO2.form with ⟨_, h0⟩ | ⟨g, c, h1, h2, h3⟩
  · exact absurd h0 hne
  · subst h1
    exact ⟨g, c, rfl, h2, h3, hO2, hb⟩
theorem own_cells9h {w : World} {g cap : Nat} {L : List Int} (h : Sl w (.slice (some ⟨g, 0, none⟩) L.length cap) L) (h0 : 0 < L.length) : Cells w g 0 L := by
  rcases h with ⟨_, _, _, e⟩ | ⟨b, off, c, e, _, hc⟩
  · rw [e] at h0; simp at h0
  · injection e with e1 _ _
    injection e1 with e1
    cases e1
    exact hc
theorem own_slice9h {w : World} {B : Nat} {u : Value} {L : List Int} (h : Own w B u L) : ∃ a l c, u = .slice a l c := by
  rcases h.form with ⟨rfl, _⟩ | ⟨g, cap, rfl, _⟩
  · exact ⟨_, _, _, rfl⟩
  · exact ⟨_, _, _, rfl⟩

/-- Whether a connected graph has a half; its size, its rows; the code. -/
def hfOk (n : Int) (zs : List Int) : Bool := isG n zs && connB zs && !samB zs zs.length
def HfN (n : Int) (zs : List Int) : Int := if hfOk n zs then (evL zs zs.length).length else 0
def HfL (n : Int) (zs : List Int) : List Int := if hfOk n zs then onL (gaR zs 2) (evL zs zs.length) else []
def cnC (n : Int) (zs : List Int) : Int := if isG n zs then if connB zs then 0 else 5 else 1
def HfC (n : Int) (zs : List Int) : Int := if hfOk n zs then 0 else if isG n zs then 5 else 1
theorem HfL_length (n : Int) (zs : List Int) : (HfL n zs).length ≤ 62 := by
  unfold HfL
  by_cases h : hfOk n zs = true
  · rw [if_pos h, onL_length]
    have hg : isG n zs = true := by unfold hfOk at h; simp only [Bool.and_eq_true] at h; exact h.1.1
    have := isG_parts hg
    have := evL_length zs zs.length
    omega
  · rw [if_neg h]; simp

set_option maxHeartbeats 800000 in
theorem chkConn_any (n : Int) (v : Value) (zs : List Int) (w : World) (h : Sl w v zs) (hl : zs.length ≤ 9223372036854775807) (hT : Tab w) :
    Calls Tryd.prog 30 #[.agg #[.int .i64 n, v]] w fun e w' => e = .returned (.int .i64 (cnC n zs)) ∧ Below w.heap.size w w' := by
  have D0 : Below w.heap.size w (w.alloc (.cells #[.int .i64 n, v] 26)) := (Below.refl _ _).alloc (Nat.le_refl _) _
  unfold cnC
  cases hg : isG n zs with
  | false =>
    rw [if_neg (by simp)]
    have hco := implConn_no n v zs _ (h.below D0) hg hl (hT.belowAll D0)
    clear h hT hg
    go_enter Tryd.func30, Tryd.ntmps30
    go_wp2_with (go_at_call 49; refine hco.mono ?_; rintro e w1 ⟨rfl, hb1⟩)
    go_ret
    exact ⟨rfl, D0.trans (hb1.mono (by simp))⟩
  | true =>
    rw [if_pos rfl]
    obtain ⟨h1, _, h3, _⟩ := isG_parts hg
    obtain ⟨b, off, cap, rfl, hb, hc⟩ := sl_some h (by omega)
    have hco := implConn_yes n b off cap zs _ (Nat.lt_of_lt_of_le hb D0.size) (hc.below D0 hb) hg hl (hT.belowAll D0)
    clear h hT hg h3
    cases hcn : connB zs with
    | true =>
      rw [hcn] at hco
      rw [if_pos rfl]
      clear hcn
      go_enter Tryd.func30, Tryd.ntmps30
      go_wp2_with (go_at_call 49; refine hco.mono ?_; rintro e w1 ⟨rfl, hb1⟩)
      go_ret
      exact ⟨rfl, D0.trans (hb1.mono (by simp))⟩
    | false =>
      rw [hcn] at hco
      rw [if_neg (by simp)]
      clear hcn
      go_enter Tryd.func30, Tryd.ntmps30
      go_wp2_with (go_at_call 49; refine hco.mono ?_; rintro e w1 ⟨rfl, hb1⟩)
      go_ret
      exact ⟨rfl, D0.trans (hb1.mono (by simp))⟩

theorem dz_conn {zs : List Int} (h : connB zs = true) : ∀ w, w < zs.length → 0 ≤ dz zs w := fun w hw => by
  unfold connB at h
  rw [List.all_eq_true] at h
  have := h w (List.mem_range.2 hw)
  simpa [dz] using this
theorem isG_sym2 {zs : List Int} (hg : isG zs.length zs = true) : (∀ a b, a < zs.length → b < zs.length → bt (el zs b) a = bt (el zs a) b) ∧ (∀ a, a < zs.length → bt (el zs a) a = false) ∧ ∀ i, i < zs.length → (el zs i).toNat < 2 ^ zs.length := by
  obtain ⟨h1, h2, h3, h4, -⟩ := isG_parts hg
  refine ⟨fun a b ha hb => isG_symm hg ha hb, fun a ha => rowOk_not (rowsOk_at h4 ha), fun i hi => ?_⟩
  have q0 := (isG_row_ok hg i hi).1
  have q1 := rowOk_le (rowsOk_at h4 hi)
  rw [Int.toNat_natCast] at q1
  have e : ((2 : Int) ^ zs.length) = ((2 ^ zs.length : Nat) : Int) := by simp
  rw [e] at q1
  omega

set_option maxHeartbeats 800000 in
theorem implHf_code (n : Int) (v : Value) (zs : List Int) (w : World) (h : Sl w v zs) (hl : zs.length ≤ 9223372036854775807) (hT : Tab w) (c : Int) (hc : cnC n zs = c) (h0 : c ≠ 0) :
    Calls Tryd.prog 10 #[.agg #[.int .i64 n, v]] w fun e w' => GRes w.heap.size 0 [] c e w' ∧ Below w.heap.size w w' := by
  have D0 : Below w.heap.size w ((w.alloc (.cells #[.int .i64 n, v] 26)).alloc (.cells #[.int .i64 0, .slice none 0 0] 26)) := ((Below.refl _ _).alloc (Nat.le_refl _) _).alloc (by simp) _
  have hch := chkConn_any n v zs _ (h.below D0) hl (hT.belowAll D0)
  rw [hc] at hch
  simp only [World.size_alloc] at hch
  have HH1 := Lib.hid (heap_new_at (w.alloc (.cells #[.int .i64 n, v] 26)) (.cells #[.int .i64 0, .slice none 0 0] 26) (w.heap.size + 1) (by simp))
  have hb0 : (c != 0) = true := by simpa using h0
  clear h hc hT h0
  go_enter Tryd.func10, Tryd.ntmps10
  go_wp2_with (go_at_call 30; refine hch.mono ?_; rintro e w1 ⟨rfl, hb1⟩; have RB := Lib.hid ((hb1.block (w.heap.size + 1) (by omega)).trans HH1.out); obtain ⟨r0, r1, g0, g1⟩ := two_cells RB.out)
  have hfin := two_set (a := .int .i64 0) (b := .slice none 0 0) RB.out
  refine bodyPost_ret (v := .tuple #[.agg #[.int .i64 0, .slice none 0 0], .int .i64 c]) (results_cell2 (p := 2) (u := 3) (ty := 26) rfl _ _ (w.heap.size + 1) 26 _ (0, 0) _ rfl hfin Tryd.underlying26 rfl (by exact info27)) rfl ⟨⟨_, rfl, Own.nil _ _⟩, ?_⟩
  exact ((D0.trans (hb1.mono (by omega))).setCell (p := ⟨w.heap.size + 1, 0, none⟩) (by simp) _).setCell (p := ⟨w.heap.size + 1, 1, none⟩) (by simp) _

set_option maxHeartbeats 1600000 in
theorem implHf_yes (b ob cap : Nat) (zs : List Int) (w : World) (hb : b < w.heap.size) (hc : Cells w b ob zs) (hg : isG zs.length zs = true) (hcn : connB zs = true) (hT : Tab w) :
    Calls Tryd.prog 10 #[.agg #[.int .i64 zs.length, .slice (some ⟨b, ob, none⟩) zs.length cap]] w fun e w' => GRes w.heap.size (HfN zs.length zs) (HfL zs.length zs) (HfC zs.length zs) e w' ∧ Below w.heap.size w w' := by
  obtain ⟨g1, g2, -, -, -⟩ := isG_parts hg
  have hl : zs.length ≤ 62 := by omega
  have h0 : 0 < zs.length := by omega
  obtain ⟨sym, irr, hz⟩ := isG_sym2 hg
  obtain ⟨F, hF⟩ := RD.ex h0 hl hz
  have hcon := dz_conn hcn
  have D0 : Below w.heap.size w ((w.alloc (.cells #[.int .i64 zs.length, .slice (some ⟨b, ob, none⟩) zs.length cap] 26)).alloc (.cells #[.int .i64 0, .slice none 0 0] 26)) := ((Below.refl _ _).alloc (Nat.le_refl _) _).alloc (by simp) _
  have hch := chkConn_any zs.length _ zs _ (.inr ⟨b, ob, cap, rfl, Nat.lt_of_lt_of_le hb D0.size, hc.below D0 hb⟩) (by omega) (hT.belowAll D0)
  rw [show cnC zs.length zs = 0 by simp [cnC, hg, hcn]] at hch
  simp only [World.size_alloc] at hch
  have HG0 := Lib.hid (heap_old_at (World.alloc_heap_new w (.cells #[.int .i64 zs.length, .slice (some ⟨b, ob, none⟩) zs.length cap] 26)) (.cells #[.int .i64 0, .slice none 0 0] 26))
  have HH1 := Lib.hid (heap_new_at (w.alloc (.cells #[.int .i64 zs.length, .slice (some ⟨b, ob, none⟩) zs.length cap] 26)) (.cells #[.int .i64 0, .slice none 0 0] 26) (w.heap.size + 1) (by simp))
  have HRE : Hid (∀ W, Below w.heap.size w W → Calls Tryd.prog 31 #[.agg #[.int .i64 zs.length, .slice (some ⟨b, ob, none⟩) zs.length cap], .int .i64 0] W fun e w' => e = .returned (.tuple #[.int .i64 F.1, .int .i64 F.2]) ∧ Below W.heap.size W w') := fun W h =>
    reachedF_some zs.length b ob cap zs 0 W (Nat.lt_of_lt_of_le hb h.size) (hc.below h hb) (hT.belowAll h) hg h0 F hF
  have HAT : Hid (∀ W, Below w.heap.size w W → Calls Tryd.prog 33 #[.agg #[.int .i64 zs.length, .slice (some ⟨b, ob, none⟩) zs.length cap], .int .i64 2] W fun e w' => GRet W.heap.size zs.length (gaR zs 2) e w' ∧ Below W.heap.size W w') := fun W h =>
    implAt_some b ob cap zs 2 W (Nat.lt_of_lt_of_le hb h.size) (hc.below h hb) hg (hT.belowAll h)
  have hinv := hF.inv h0 hl hz
  have hp62 : 2 ^ zs.length ≤ 2 ^ 62 := Nat.pow_le_pow_right (by decide) hl
  have helt := hinv.elt
  have holt := hinv.olt
  have hand := and_i64 F.1 F.2 (by omega) (by omega)
  have HDD := Lib.hid D0
  have HTT := Lib.hid hT
  have hsn := half_no h0 hl hz hcon hF
  have hsy := half_yes h0 hl hz sym irr hcon hF
  have hev0 : F.1 ≠ 0 := fun e => by have := hinv.at0; rw [e] at this; simp at this
  unfold HfN HfL HfC
  have hok : hfOk zs.length zs = !samB zs zs.length := by simp [hfOk, hg, hcn]
  cases hs : samB zs zs.length with
  | true =>
    rw [hok, hs, if_neg (by simp), if_neg (by simp), if_neg (by simp), if_pos hg]
    have hne : (((F.1 &&& F.2 : Nat) : Int) != 0) = true := by have := hsn hs; simp; omega
    obtain ⟨X, hX⟩ : ∃ X, X = F.1 &&& F.2 := ⟨_, rfl⟩
    rw [← hX] at hne hand
    clear hsy hsn hs hok hc hT hcn hg hX hF sym irr hz hcon D0 hinv
    go_enter Tryd.func10, Tryd.ntmps10
    go_wp2_with (first
      | (go_at_call 30; refine hch.mono ?_; rintro e w1 ⟨rfl, hb1⟩; have RB := Lib.hid ((hb1.block (w.heap.size + 1) (by omega)).trans HH1.out); have GB := Lib.hid ((hb1.block w.heap.size (by omega)).trans HG0.out); obtain ⟨b0, b1, -, -⟩ := two_cells GB.out; have E1 := Lib.hid (HDD.out.trans (hb1.mono (by omega))); have s1 : w.heap.size + 2 ≤ w1.heap.size := (by have := hb1.size; simpa using this); clear hb1)
      | (go_at_call 31; refine (HRE.out w1 E1.out).mono ?_; rintro e w2 ⟨rfl, hb2⟩; have RB2 := Lib.hid ((hb2.block (w.heap.size + 1) (by omega)).trans RB.out); obtain ⟨r0, r1, q0, q1⟩ := two_cells RB2.out; have E2 := Lib.hid (E1.out.trans (hb2.mono E1.out.size)); clear hb2))
    have hfin := two_set (a := .int .i64 0) (b := .slice none 0 0) RB2.out
    refine bodyPost_ret (v := .tuple #[.agg #[.int .i64 0, .slice none 0 0], .int .i64 5]) (results_cell2 (p := 2) (u := 3) (ty := 26) rfl _ _ (w.heap.size + 1) 26 _ (0, 0) _ rfl hfin Tryd.underlying26 rfl (by exact info27)) rfl ⟨⟨_, rfl, Own.nil _ _⟩, ?_⟩
    exact (E2.out.setCell (p := ⟨w.heap.size + 1, 0, none⟩) (by simp) _).setCell (p := ⟨w.heap.size + 1, 1, none⟩) (by simp) _
  | false =>
    rw [hok, hs, if_pos (by simp), if_pos (by simp), if_pos (by simp)]
    obtain ⟨hmeet, -, hbits⟩ := hsy hs
    have hlist := evL_mem zs zs.length F.1 helt (by omega) hbits
    have hne : (((F.1 &&& F.2 : Nat) : Int) != 0) = false := by rw [hmeet]; rfl
    have hasc := evL_asc zs zs.length _ (Nat.le_refl _)
    have hel := evL_length zs zs.length
    have hgg := gaR_isG hg 2
    have hgl := gaR_length zs 2
    have HLO := Lib.hid (fun W hTW => listOfH_any F.1 (by omega) hev0 W hTW)
    rw [show nI (mem F.1) = (mem F.1).map (fun w : Nat => (w : Int)) from rfl] at HLO
    rw [hlist] at HLO
    obtain ⟨X, hX⟩ : ∃ X, X = F.1 &&& F.2 := ⟨_, rfl⟩
    rw [← hX] at hne hand
    have hnl : 0 < (evL zs zs.length).length := by
      rw [← hlist, List.length_map]
      obtain ⟨r, hr⟩ := lo_mem hev0 (show F.1 < 2 ^ 64 by omega)
      rw [hr]; simp
    obtain ⟨V, hV⟩ : ∃ V, V = evL zs zs.length := ⟨_, rfl⟩
    obtain ⟨R, hR⟩ : ∃ R, R = gaR zs 2 := ⟨_, rfl⟩
    rw [← hV] at HLO hasc hel hnl ⊢
    rw [← hR] at HAT hgg hgl ⊢
    have HPO : Hid (∀ (W : World) (b1 o1 c1 b2 o2 c2 : Nat), b1 < W.heap.size → Cells W b1 o1 R → b2 < W.heap.size → Cells W b2 o2 V → Tab W → Calls Tryd.prog 32 #[.agg #[.int .i64 zs.length, .slice (some ⟨b1, o1, none⟩) zs.length c1], .slice (some ⟨b2, o2, none⟩) V.length c2] W fun e w' => GRes W.heap.size V.length (onL R V) 0 e w' ∧ Below W.heap.size W w') := by
      intro W b1 o1 c1 b2 o2 c2 k1 k2 k3 k4 k5
      have := implOn_yes b1 o1 c1 b2 o2 c2 R V W k1 k2 k3 k4 (by rw [hgl]; exact hgg) k5 (by rw [hgl]; exact hasc) hnl
      rw [hgl] at this
      exact this
    clear hsn hsy hs hok hc hT hcn hg hX hF sym irr hz hcon D0 hinv hbits hlist hV hR hmeet hasc hgg
    go_enter Tryd.func10, Tryd.ntmps10
    go_wp2_with (first
      | (go_at_call 30; refine hch.mono ?_; rintro e w1 ⟨rfl, hb1⟩; have RB := Lib.hid ((hb1.block (w.heap.size + 1) (by omega)).trans HH1.out); have GB := Lib.hid ((hb1.block w.heap.size (by omega)).trans HG0.out); obtain ⟨b0, b1, -, -⟩ := two_cells GB.out; have E1 := Lib.hid (HDD.out.trans (hb1.mono (by omega))); have s1 : w.heap.size + 2 ≤ w1.heap.size := (by have := hb1.size; simpa using this); clear hb1)
      | (go_at_call 31; refine (HRE.out w1 E1.out).mono ?_; rintro e w2 ⟨rfl, hb2⟩; have RB2 := Lib.hid ((hb2.block (w.heap.size + 1) (by omega)).trans RB.out); have GB2 := Lib.hid ((hb2.block w.heap.size (by omega)).trans GB.out); obtain ⟨b2, b3, -, -⟩ := two_cells GB2.out; have E2 := Lib.hid (E1.out.trans (hb2.mono E1.out.size)); have s2 := hb2.size; clear hb2)
      | (go_at_call 33; refine (HAT.out w2 E2.out).mono ?_; rintro e w3 ⟨⟨g3, rfl, hB3, hg3⟩, hb3⟩; have RB3 := Lib.hid ((hb3.block (w.heap.size + 1) (by omega)).trans RB2.out); have E3 := Lib.hid (E2.out.trans (hb3.mono E2.out.size)); have s3 := hb3.size; have HB3 := Lib.hid hB3; clear hb3 hB3)
      | (go_at_call 34; refine (HLO.out w3 (HTT.out.belowAll E3.out)).mono ?_; rintro e w4 ⟨fg, fc, rfl, h40, h41, hO4, hb4⟩; have RB4 := Lib.hid ((hb4.block (w.heap.size + 1) (by omega)).trans RB3.out); have E4 := Lib.hid (E3.out.trans (hb4.mono E3.out.size)); have s4 := hb4.size; have HB4 := Lib.hid (HB3.out.belowAll hb4); have HO4 := Lib.hid hO4.sl; clear hb4 hO4)
      | (go_at_call 32; refine (HPO.out w4 g3 0 zs.length fg 0 fc HB4.out.lt (fun i hi => by rw [Nat.zero_add]; exact HB4.out.cell hi) h41 (own_cells9h HO4.out hnl) (HTT.out.belowAll E4.out)).mono ?_; rintro e w5 ⟨⟨u5, rfl, hO5⟩, hb5⟩; obtain ⟨ua, ul, uc, rfl⟩ := own_slice9h hO5; have RB5 := Lib.hid ((hb5.block (w.heap.size + 1) (by omega)).trans RB4.out); obtain ⟨r0, r1, q0, q1⟩ := two_cells RB5.out; have E5 := Lib.hid (E4.out.trans (hb5.mono E4.out.size)); have HO5 := Lib.hid hO5; clear hb5 hO5))
    have hfin := two_set (a := .int .i64 V.length) (b := .slice ua ul uc) RB5.out
    refine bodyPost_ret (v := .tuple #[.agg #[.int .i64 V.length, .slice ua ul uc], .int .i64 0]) (results_cell2 (p := 2) (u := 3) (ty := 26) rfl _ _ (w.heap.size + 1) 26 _ (0, 0) _ rfl hfin Tryd.underlying26 rfl (by exact info27)) rfl ⟨⟨_, rfl, ?_⟩, ?_⟩
    · have hne5 : (Value.slice ua ul uc).ownBlock ≠ some (w.heap.size + 1) := fun e => by have := HO5.out.ge _ e; omega
      exact (HO5.out.base (by omega)).kept (grown_set (grown_set ⟨rfl, rfl, rfl, Nat.le_refl _, fun _ _ _ => rfl⟩ (w.heap.size + 1) 0 _) (w.heap.size + 1) 1 _) (.inr hne5)
    · exact (E5.out.setCell (p := ⟨w.heap.size + 1, 0, none⟩) (by simp) _).setCell (p := ⟨w.heap.size + 1, 1, none⟩) (by simp) _

theorem implHf_any (n : Int) (v : Value) (zs : List Int) (w : World) (h : Sl w v zs) (hl : zs.length ≤ 9223372036854775807) (hT : Tab w) :
    Calls Tryd.prog 10 #[.agg #[.int .i64 n, v]] w fun e w' => GRes w.heap.size (HfN n zs) (HfL n zs) (HfC n zs) e w' ∧ Below w.heap.size w w' := by
  cases hg : isG n zs with
  | false =>
    rw [show HfN n zs = 0 by simp [HfN, hfOk, hg], show HfL n zs = [] by simp [HfL, hfOk, hg], show HfC n zs = 1 by simp [HfC, hfOk, hg]]
    exact implHf_code n v zs w h hl hT 1 (by simp [cnC, hg]) (by decide)
  | true =>
    cases hcn : connB zs with
    | false =>
      rw [show HfN n zs = 0 by simp [HfN, hfOk, hcn], show HfL n zs = [] by simp [HfL, hfOk, hcn], show HfC n zs = 5 by simp [HfC, hfOk, hg, hcn]]
      exact implHf_code n v zs w h hl hT 5 (by simp [cnC, hg, hcn]) (by decide)
    | true =>
      obtain ⟨h1, _, h3, _⟩ := isG_parts hg
      obtain ⟨b, off, cap, rfl, hb, hc⟩ := sl_some h (by omega)
      obtain rfl : (zs.length : Int) = n := h3
      exact implHf_yes b off cap zs w hb hc hg hcn hT
end Go.Proofs.YthlchifmmmnagaaDoor
namespace Go.Proofs.YthlchifmmmnagaaDoor
set_option maxRecDepth 100000
open Go.RowKit

set_option maxHeartbeats 800000 in
theorem l06Code_any (n : Int) (v : Value) (zs : List Int) (w : World) (h : Sl w v zs) (hl : zs.length ≤ 9223372036854775807) :
    Calls Tryd.prog 24 #[.agg #[.int .i64 n, v]] w fun e w' => e = .returned (.int .i64 (cnC n zs)) ∧ Below w.heap.size w w' := by
  have D0 : Below w.heap.size w (w.alloc (.cells #[.int .i64 n, v] 26)) := (Below.refl _ _).alloc (Nat.le_refl _) _
  have his := l01Is_any n v zs _ (h.below D0) hl
  have HG := Lib.hid (World.alloc_heap_new w (.cells #[.int .i64 n, v] 26))
  unfold cnC
  cases hg : isG n zs with
  | false =>
    rw [hg] at his
    rw [if_neg (by simp)]
    clear h hg
    go_enter Tryd.func24, Tryd.ntmps24
    go_wp2_with (go_at_call 35; refine his.mono ?_; rintro e w1 ⟨rfl, hb1⟩)
    go_ret
    exact ⟨rfl, D0.trans (hb1.mono (by simp))⟩
  | true =>
    rw [hg] at his
    rw [if_pos rfl]
    obtain ⟨h1, _, h3, _⟩ := isG_parts hg
    obtain ⟨b, off, cap, rfl, hb, hc⟩ := sl_some h (by omega)
    have HCN := Lib.hid (fun W (hW : Below w.heap.size w W) => conn2_some n b off cap zs W (Nat.lt_of_lt_of_le hb hW.size) (hc.below hW hb) hg)
    clear h hg h3 hc hb
    cases hcn : connB zs with
    | true =>
      rw [hcn] at HCN
      rw [if_pos rfl]
      clear hcn
      go_enter Tryd.func24, Tryd.ntmps24
      go_wp2_with (first
        | (go_at_call 35; refine his.mono ?_; rintro e w1 ⟨rfl, hb1⟩; have HX := Lib.hid ((hb1.block w.heap.size (by simp)).trans HG.out); have c0 := (two_cells HX.out).1; have c1 := (two_cells HX.out).2.1; have HB1 := Lib.hid (D0.trans (hb1.mono (by simp))); clear hb1)
        | (go_at_call 48; refine (HCN.out _ HB1.out).mono ?_; rintro e w2 ⟨rfl, hb2⟩))
      go_ret
      exact ⟨rfl, HB1.out.trans (hb2.mono HB1.out.size)⟩
    | false =>
      rw [hcn] at HCN
      rw [if_neg (by simp)]
      clear hcn
      go_enter Tryd.func24, Tryd.ntmps24
      go_wp2_with (first
        | (go_at_call 35; refine his.mono ?_; rintro e w1 ⟨rfl, hb1⟩; have HX := Lib.hid ((hb1.block w.heap.size (by simp)).trans HG.out); have c0 := (two_cells HX.out).1; have c1 := (two_cells HX.out).2.1; have HB1 := Lib.hid (D0.trans (hb1.mono (by simp))); clear hb1)
        | (go_at_call 48; refine (HCN.out _ HB1.out).mono ?_; rintro e w2 ⟨rfl, hb2⟩))
      go_ret
      exact ⟨rfl, HB1.out.trans (hb2.mono HB1.out.size)⟩

theorem dz_lt {zs : List Int} {w : Nat} (hw : w < zs.length) (h : 0 ≤ dz zs w) : dz zs w < zs.length := by
  rw [dz_dOf hw] at h ⊢
  have h0 : 0 < zs.length := by omega
  by_cases he : ∃ d, lev (Rw zs 0 0) zs.length 0 d w = true
  · obtain ⟨d, hd⟩ := he
    rw [dOf_lev h0 hd]
    have := lev_few h0 hd
    omega
  · have := dOf_none (R := Rw zs 0 0) (n := zs.length) (v := 0) (w := w) fun d => by
      cases e : lev (Rw zs 0 0) zs.length 0 d w with
      | true => exact (he ⟨d, e⟩).elim
      | false => rfl
    omega
/-- The first v vertices, and w of the next one's, have no neighbours of the same parity. -/
def samI (zs : List Int) (v w : Nat) : Bool := (List.range w).any fun y => samP zs v y
theorem samI_succ (zs : List Int) (v w : Nat) : samI zs v (w + 1) = (samI zs v w || samP zs v w) := by unfold samI; rw [List.range_succ, List.any_append]; simp
theorem samB_succ (zs : List Int) (v : Nat) : samB zs (v + 1) = (samB zs v || samI zs v v) := by unfold samB; rw [List.range_succ, List.any_append]; simp [samV, samI]
theorem samB_hit {zs : List Int} {v w n : Nat} (hw : w < v) (hv : v < n) (h : samP zs v w = true) : samB zs n = true := by
  unfold samP at h
  simp only [Bool.and_eq_true, decide_eq_true_eq] at h
  exact samB_iff.2 ⟨v, w, hw, hv, h.1, h.2⟩

set_option maxHeartbeats 800000 in
theorem specHf_code (n : Int) (v : Value) (zs : List Int) (w : World) (h : Sl w v zs) (hl : zs.length ≤ 9223372036854775807) (c : Int) (hc : cnC n zs = c) (h0 : c ≠ 0) :
    Calls Tryd.prog 8 #[.agg #[.int .i64 n, v]] w fun e w' => GRes w.heap.size 0 [] c e w' ∧ Below w.heap.size w w' := by
  have D0 : Below w.heap.size w ((w.alloc (.cells #[.int .i64 n, v] 26)).alloc (.cells #[.int .i64 0, .slice none 0 0] 26)) := ((Below.refl _ _).alloc (Nat.le_refl _) _).alloc (by simp) _
  have hch := l06Code_any n v zs _ (h.below D0) hl
  rw [hc] at hch
  simp only [World.size_alloc] at hch
  have HH1 := Lib.hid (heap_new_at (w.alloc (.cells #[.int .i64 n, v] 26)) (.cells #[.int .i64 0, .slice none 0 0] 26) (w.heap.size + 1) (by simp))
  have hb0 : (c != 0) = true := by simpa using h0
  clear h hc h0
  go_enter Tryd.func8, Tryd.ntmps8
  go_wp2_with (go_at_call 24; refine hch.mono ?_; rintro e w1 ⟨rfl, hb1⟩; have RB := Lib.hid ((hb1.block (w.heap.size + 1) (by omega)).trans HH1.out); obtain ⟨r0, r1, g0, g1⟩ := two_cells RB.out)
  have hfin := two_set (a := .int .i64 0) (b := .slice none 0 0) RB.out
  refine bodyPost_ret (v := .tuple #[.agg #[.int .i64 0, .slice none 0 0], .int .i64 c]) (results_cell2 (p := 2) (u := 3) (ty := 26) rfl _ _ (w.heap.size + 1) 26 _ (0, 0) _ rfl hfin Tryd.underlying26 rfl (by exact info27)) rfl ⟨⟨_, rfl, Own.nil _ _⟩, ?_⟩
  exact ((D0.trans (hb1.mono (by omega))).setCell (p := ⟨w.heap.size + 1, 0, none⟩) (by simp) _).setCell (p := ⟨w.heap.size + 1, 1, none⟩) (by simp) _

theorem tmod_par (x : Int) : (x.tmod 2 == 0) = decide (x % 2 = 0) := by
  rw [Bool.eq_iff_iff, beq_iff_eq, decide_eq_true_iff]
  have h := Int.emod_two_eq x
  have h2 : x.tmod 2 = 0 ↔ (2 : Int) ∣ x := ⟨fun h => Int.dvd_of_tmod_eq_zero h, fun h => Int.tmod_eq_zero_of_dvd h⟩
  rw [h2]; omega
theorem wrap_y (y : Nat) (h : y ≤ 62) : IntKind.u64.wrap (y : Int) = y := by rw [IntKind.wrap_u64]; omega
def two_cellsQ (w : World) (k : Nat) : Prop := w.cell? ⟨k, 0, none⟩ = some (.int .i64 0) ∧ w.cell? ⟨k, 1, none⟩ = some (.slice none 0 0) ∧ w.frozen? ⟨k, 0, none⟩ = false ∧ w.frozen? ⟨k, 1, none⟩ = false
theorem row_sliceH {w : World} {B n size : Nat} {e : TypeId} {v : Value} {xs : List Value} (h : w.ownsRow B e size v n xs) : ∃ p l c, v = .slice p l c := by
  rcases h.2 with ⟨rfl, _⟩ | ⟨g, cap, cur, rfl, _⟩
  · exact ⟨_, _, _, rfl⟩
  · exact ⟨_, _, _, rfl⟩
theorem own_ds {w : World} {B : Nat} {u : Value} {zs : List Int} (h : Own w B u (dsL zs 0)) (h0 : 0 < zs.length) : ∃ g c, u = .slice (some ⟨g, 0, none⟩) zs.length c ∧ B ≤ g ∧ g < w.heap.size := by
  rcases h.form with ⟨_, e⟩ | ⟨g, c, e, h1, h2⟩
  · have := congrArg List.length e; rw [dsL_length, List.length_nil] at this; omega
  · rw [dsL_length] at e; exact ⟨g, c, e, h1, h2⟩
theorem own_dz {w : World} {B g c : Nat} {zs : List Int} (h : Own w B (.slice (some ⟨g, 0, none⟩) zs.length c) (dsL zs 0)) {i : Nat} (hi : i < zs.length) : w.cell? ⟨g, i, none⟩ = some (.int .i64 (dz zs i)) := by
  unfold Own at h
  rw [dsL_length] at h
  exact (World.ownsRow.cellAt h i (by omega)).trans (map_at _ i (by rw [dsL_length]; exact hi))

theorem evL_pos {zs : List Int} (h0 : 0 < zs.length) : 0 < (evL zs zs.length).length := by
  have hd0 : dz zs 0 = 0 := by
    rw [dz_dOf h0, dOf_lev (d := 0) h0 (by rw [lev_zero]; simp)]; rfl
  have hm : 0 ∈ evV zs zs.length := by
    unfold evV
    rw [List.mem_filter]
    exact ⟨List.mem_range.2 h0, by rw [hd0]; rfl⟩
  unfold evL
  rw [List.length_map]
  exact List.length_pos_of_mem hm
theorem own_at {w : World} {B g c : Nat} {L : List Int} {m : Nat} (h : Own w B (.slice (some ⟨g, 0, none⟩) m c) L) (hm : L.length = m) {i : Nat} (hi : i < m) : w.cell? ⟨g, i, none⟩ = some (.int .i64 (el L i)) := by
  subst hm
  exact (World.ownsRow.cellAt h i (by omega)).trans (map_at _ i hi)

set_option maxHeartbeats 4000000 in
theorem specHf_yes (b ob cap : Nat) (zs : List Int) (w : World) (hb : b < w.heap.size) (hc : Cells w b ob zs) (hg : isG zs.length zs = true) (hcn : connB zs = true) :
    Calls Tryd.prog 8 #[.agg #[.int .i64 zs.length, .slice (some ⟨b, ob, none⟩) zs.length cap]] w fun e w' => GRes w.heap.size (HfN zs.length zs) (HfL zs.length zs) (HfC zs.length zs) e w' ∧ Below w.heap.size w w' := by
  obtain ⟨g1, g2, -, -, -⟩ := isG_parts hg
  have hl : zs.length ≤ 62 := by omega
  have h0 : 0 < zs.length := by omega
  have hcon := dz_conn hcn
  obtain ⟨Wz, hWz⟩ : ∃ Wz, Wz = (w.alloc (.cells #[.int .i64 zs.length, .slice (some ⟨b, ob, none⟩) zs.length cap] 26)).alloc (.cells #[.int .i64 0, .slice none 0 0] 26) := ⟨_, rfl⟩
  have hsz : w.heap.size + 2 = Wz.heap.size := by rw [hWz]; simp
  have D0 : Below w.heap.size w Wz := by rw [hWz]; exact ((Below.refl _ _).alloc (Nat.le_refl _) _).alloc (by simp) _
  have HG0 : Hid (Wz.heap[w.heap.size]? = some (.cells #[.int .i64 zs.length, .slice (some ⟨b, ob, none⟩) zs.length cap] 26 (0, 0))) := by show _ = _; rw [hWz]; exact heap_old_at (World.alloc_heap_new w _) _
  have HR0 : Hid (Wz.heap[w.heap.size + 1]? = some (.cells #[.int .i64 0, .slice none 0 0] 26 (0, 0))) := by show _ = _; rw [hWz]; exact heap_new_at _ _ _ (by simp)
  have HCO : Hid (Calls Tryd.prog 24 #[.agg #[.int .i64 zs.length, .slice (some ⟨b, ob, none⟩) zs.length cap]] Wz fun e w' => e = .returned (.int .i64 0) ∧ Below Wz.heap.size Wz w') := by
    have := l06Code_any zs.length _ zs Wz (.inr ⟨b, ob, cap, rfl, Nat.lt_of_lt_of_le hb D0.size, hc.below D0 hb⟩) (by omega)
    rw [show cnC zs.length zs = 0 by simp [cnC, hg, hcn]] at this
    exact this
  have HFR : Hid (∀ W, Below w.heap.size w W → Calls Tryd.prog 25 #[.agg #[.int .i64 zs.length, .slice (some ⟨b, ob, none⟩) zs.length cap], .int .i64 0, .int .i64 (-1), .int .i64 (-1)] W fun e w' => ∃ u, e = .returned u ∧ Own w' W.heap.size u (dsL zs 0) ∧ Below W.heap.size W w') := fun W h => from_some b ob cap zs 0 W (Nat.lt_of_lt_of_le hb h.size) (hc.below h hb) hg h0
  have HRS : Hid (∀ W, Below w.heap.size w W → Calls Tryd.prog 26 #[.agg #[.int .i64 zs.length, .slice (some ⟨b, ob, none⟩) zs.length cap]] W fun e w' => (∃ u, e = .returned u ∧ TS w' W.heap.size u (dsLL zs zs.length)) ∧ Below W.heap.size W w') := fun W h =>
    rows6_some b ob cap zs W (Nat.lt_of_lt_of_le hb h.size) (hc.below h hb) hg
  have HCZ : Hid (∀ W, Below w.heap.size w W → Cells W b ob zs) := fun W h => hc.below h hb
  have HROW : Hid (∀ v, v < zs.length → 0 ≤ el zs v ∧ el zs v ≤ 9223372036854775807) := fun v hv => isG_row_ok hg v hv
  have HCON : Hid (∀ v, v < zs.length → 0 ≤ dz zs v ∧ dz zs v ≤ 62) := fun v hv => ⟨hcon v hv, by have := dz_lt hv (hcon v hv); omega⟩
  have HEV := Lib.hid (evL_lt zs zs.length)
  have HM0 : Hid (0 < (evL zs zs.length).length) := evL_pos h0
  have HEL := Lib.hid (evL_length zs)
  have HRR := Lib.hid (half_rows hg)
  have HD0 := Lib.hid D0
  have hok : hfOk zs.length zs = !samB zs zs.length := by simp [hfOk, hg, hcn]
  have hfn : ∀ B : Bool, samB zs zs.length = B → HfN zs.length zs = (if B then 0 else (evL zs zs.length).length) ∧ HfL zs.length zs = (if B then [] else onL (gaR zs 2) (evL zs zs.length)) ∧ HfC zs.length zs = if B then 5 else 0 := fun B e => by
    unfold HfN HfL HfC
    rw [hok, e]
    cases B <;> simp [hg]
  have HFN := Lib.hid hfn
  obtain ⟨N, hN⟩ : ∃ N, N = HfN zs.length zs := ⟨_, rfl⟩
  obtain ⟨LL, hLL⟩ : ∃ L, L = HfL zs.length zs := ⟨_, rfl⟩
  obtain ⟨CC, hCC⟩ : ∃ C, C = HfC zs.length zs := ⟨_, rfl⟩
  rw [← hN, ← hLL, ← hCC] at HFN ⊢
  obtain ⟨a0, a1, -, -⟩ := two_cells HG0.out
  obtain ⟨i0, hi, hz0, hz1, hz2⟩ := info_parts mk_info
  have HI := Lib.hid hi; have HI0 := Lib.hid hz0; have HI1 := Lib.hid hz1; have HI2 := Lib.hid hz2
  clear hi hz0 hz1 hz2 hc hg hcn hcon D0 hok hfn hN hLL hCC
  go_enter Tryd.func8, Tryd.ntmps8
  go_upto_region 1 with fail
  rw [← hWz]
  clear hWz
  go_wp2_with (first
    | (go_at_call 24; refine HCO.out.mono ?_; rintro e w1 ⟨rfl, hb1⟩; have E1 : Hid (Below w.heap.size w w1) := HD0.out.trans (hb1.mono HD0.out.size); have HG1 := Lib.hid ((hb1.block w.heap.size (by omega)).trans HG0.out); have HR1 := Lib.hid ((hb1.block (w.heap.size + 1) (by omega)).trans HR0.out); have s1 := hb1.size; obtain ⟨b0, b1, -, -⟩ := two_cells HG1.out; clear hb1)
    | (go_at_call 25; refine (HFR.out w1 E1.out).mono ?_; rintro e w2 ⟨ud, rfl, hO2, hb2⟩; have E2 : Hid (Below w.heap.size w w2) := E1.out.trans (hb2.mono E1.out.size); have HG2 := Lib.hid ((hb2.block w.heap.size (by omega)).trans HG1.out); have HR2 := Lib.hid ((hb2.block (w.heap.size + 1) (by omega)).trans HR1.out); have s2 := hb2.size; have HO2 := Lib.hid hO2; obtain ⟨gd, dc, rfl, hgd0, hgd1⟩ := own_ds hO2 h0; clear hb2 hO2))
  -- LOOPS
  have hE3 : Below w2.heap.size w2 (w2.alloc (.cells #[] 2)) := (Below.refl _ _).alloc (Nat.le_refl _) _
  have HL0 : Hid (Own (w2.alloc (.cells #[] 2)) w2.heap.size (.slice (some ⟨w2.heap.size, 0, none⟩) 0 0) (evL zs 0)) := World.ownsRow_made w2 #[] 0 (base := w2.heap.size) (e := 2) (size := 1) (Nat.le_refl _) (by decide) rfl
  have HS0 : Hid (samB zs 0 = false) := rfl
  clear a0 a1 b0 b1 HCO HFR
  go_loopw [6, 7] (fun l c wr => ∃ v : Nat, v ≤ zs.length ∧ c = .int .i64 v ∧ Hid (Own wr w2.heap.size l (evL zs v)) ∧ Hid (samB zs v = false) ∧ Below w2.heap.size w2 wr) (fun _ c _ => zs.length - (intOf c).toNat)
  case atStart => exact ⟨0, Nat.zero_le _, rfl, HL0, HS0, hE3⟩
  case round =>
    clear HL0 HS0 hE3
    obtain ⟨v, hv, rfl, HL, HS, hE⟩ := hrel
    obtain ⟨pa, pl, pc, rfl⟩ := own_slice9h HL.out
    obtain ⟨k0, k1, -, -⟩ := two_cells ((hE.block w.heap.size (by omega)).trans HG2.out)
    by_cases hlt : v < zs.length
    · have hlti : (v : Int) < zs.length := by omega
      have hv0 : (0 : Int) ≤ v := by omega
      have hdz := (hE.cell (p := ⟨gd, v, none⟩) hgd1).trans (own_dz HO2.out hlt)
      have hel := HEL.out v
      obtain ⟨dv1, dv2⟩ := HCON.out v hlt
      have hpar : ((dz zs v).tmod 2 == 0) = decide (dz zs v % 2 = 0) := tmod_par _
      have hpas : (dz zs v % 2 == 0) = decide (dz zs v % 2 = 0) := rfl
      by_cases hev : dz zs v % 2 = 0
      · have hnx := evL_yes hev
        rw [decide_eq_true hev] at hpar hpas
        clear hev
        generalize dz zs v = dv at *
        have HO4 := Lib.hid (HL.out.below ((Below.refl _ wr).alloc (Nat.le_refl _) (.cells #[.int .i64 v] 2)))
        have HOL : Hid (∀ q, (Value.slice pa pl pc).ownBlock = some q → w2.heap.size ≤ q) := fun q e => HL.out.ge q e
        go_wp2_with (at_builtin; refine wpList_append_own _ rfl (.tmp 34) (.tmp 36) 22 rfl w2.heap.size 2 i0 (.int .i64 0) 1 8 Tryd.underlying22 HI.out HI0.out HI1.out HI2.out rfl (by decide) _ _ _ rfl HO4.out ⟨wr.heap.size, 0, none⟩ 1 1 [.int .i64 v] rfl rfl (cell_one_new _ _ _) (ints_oneCell .i64 [(v : Int)]) (by unfold maxLen; omega) (by omega) (by have := hE.size; simp; omega) ?_; intro u2 w3 hown3 hgr3 _; obtain ⟨qa, ql, qc, rfl⟩ := row_sliceH hown3; have HO3 := Lib.hid hown3; have HG3 := Lib.hid hgr3; clear hown3 hgr3)
        have hFar : Below w2.heap.size w2 w3 := (hE.alloc hE.size (.cells #[.int .i64 v] 2)).grown HG3.out (by have := hE.size; simp; omega) (fun q e => HOL.out q e)
        have HLV : Hid (Own w3 w2.heap.size (.slice qa ql qc) (evL zs (v + 1))) := by
          show World.ownsRow _ _ _ _ _ _ _
          rw [hnx, List.length_append, List.map_append]; exact HO3.out
        clear HO4 HO3 HG3 HOL k0 k1 hdz hnx hel dv1 dv2 hpar hpas HL hE
        have HIN0 : Hid (samI zs v 0 = false) := rfl
        have HFAR := Lib.hid hFar
        go_loopw [8] (fun t wr => ∃ y : Nat, y ≤ v ∧ t = .int .i64 y ∧ Hid (samI zs v y = false) ∧ Below w2.heap.size w2 wr ∧ Hid (Own wr w2.heap.size (.slice qa ql qc) (evL zs (v + 1)))) (fun t _ => v - (intOf t).toNat)
        case atStart => exact ⟨0, Nat.zero_le _, rfl, HIN0, HFAR.out, HLV⟩
        case round =>
          clear HFAR HLV HIN0
          obtain ⟨y, hy, rfl, HSI, hF, HLV⟩ := hrel
          by_cases hly : y < v
          · have hlyi : (y : Int) < v := by omega
            have hy0 : (0 : Int) ≤ y := by omega
            have hyn : (y : Int) < zs.length := by omega
            obtain ⟨m0, m1, -, -⟩ := two_cells ((hF.block w.heap.size (by omega)).trans HG2.out)
            have hcz := HCZ.out wr (E2.out.trans (hF.mono (by omega))) v hlt
            have hdv := (hF.cell (p := ⟨gd, v, none⟩) hgd1).trans (own_dz HO2.out hlt)
            have hdy := (hF.cell (p := ⟨gd, y, none⟩) hgd1).trans (own_dz HO2.out (show y < zs.length by omega))
            obtain ⟨hz1, hz2⟩ := HROW.out v hlt
            have HSH : Hid ((bits .and .i64 (el zs v / 2 ^ y) 1 == 1) = bt (el zs v) y) := shr_bit _ _ hz1 hz2
            have hwr := wrap_y y (by omega)
            obtain ⟨dv1, dv2⟩ := HCON.out v hlt
            obtain ⟨dy1, dy2⟩ := HCON.out y (by omega)
            have hsp : samP zs v y = (bt (el zs v) y && decide ((dz zs v - dz zs y) % 2 = 0)) := rfl
            have hnx := samI_succ zs v y
            rw [HSI.out, Bool.false_or] at hnx
            have HHIT := Lib.hid (fun h : samP zs v y = true => samB_hit (n := zs.length) hly hlt h)
            have hpar : ((dz zs v - dz zs y).tmod 2 == 0) = decide ((dz zs v - dz zs y) % 2 = 0) := tmod_par _
            generalize dz zs v = dv at *
            generalize dz zs y = dy at *
            generalize el zs v = zv at *
            generalize bt zv y = bb at *
            cases bb with
            | false =>
              rw [Bool.false_and] at hsp
              have HNX : Hid (samI zs v (y + 1) = false) := hnx.trans hsp
              have hcond := HSH.out
              clear HHIT hsp hnx hpar
              go_wp2_with fail
              go_quiet (fail)
              go_wp2_with fail
              go_roundw
              case rel => exact ⟨y + 1, by omega, by go_num, HNX, drewN_below hF _, HLV.out.below (drewN_below (Below.refl _ _) _)⟩
              case measure => simp [intOf]; omega
            | true =>
              rw [Bool.true_and] at hsp
              have hcond := HSH.out
              cases hpp : decide ((dv - dy) % 2 = 0) with
              | false =>
                rw [hpp] at hsp hpar
                have HNX : Hid (samI zs v (y + 1) = false) := hnx.trans hsp
                clear HHIT hsp hnx hpp
                go_wp2_with fail
                go_quiet (fail)
                go_wp2_with fail
                go_roundw
                case rel => exact ⟨y + 1, by omega, by go_num, HNX, drewN_below hF _, HLV.out.below (drewN_below (Below.refl _ _) _)⟩
                case measure => simp [intOf]; omega
              | true =>
                rw [hpp] at hsp hpar
                have HB := Lib.hid (HHIT.out hsp)
                obtain ⟨f1, f2, f3⟩ := HFN.out true HB.out
                simp only [if_true] at f1 f2 f3
                subst f1; subst f2; subst f3
                have RBX := Lib.hid ((hF.block (w.heap.size + 1) (by omega)).trans HR2.out)
                have hrd : ∀ m, (wr.drewN m).heap[w.heap.size + 1]? = some (.cells #[.int .i64 0, .slice none 0 0] 26 (0, 0)) := fun m => ((drewN_below (Below.refl wr.heap.size wr) m).block _ (Array.getElem?_eq_some_iff.1 RBX.out).1).trans RBX.out
                have HRD := Lib.hid hrd
                clear HHIT hsp hnx hpp hrd
                go_wp2_with fail
                go_quiet (fail)
                obtain ⟨r0, r1, q0, q1⟩ := two_cells (HRD.out nq)
                have hfq : Below w.heap.size w (wr.drewN nq) := E2.out.trans (drewN_below (hF.mono (by omega)) _)
                go_wp2_with fail
                have hfin := two_set (a := .int .i64 0) (b := .slice none 0 0) (HRD.out nq)
                refine bodyPost_ret (v := .tuple #[.agg #[.int .i64 0, .slice none 0 0], .int .i64 5]) (results_cell2 (p := 2) (u := 3) (ty := 26) rfl _ _ (w.heap.size + 1) 26 _ (0, 0) _ rfl hfin Tryd.underlying26 rfl (by exact info27)) rfl ⟨⟨_, rfl, Own.nil _ _⟩, ?_⟩
                exact (hfq.setCell (p := ⟨w.heap.size + 1, 0, none⟩) (by simp) _).setCell (p := ⟨w.heap.size + 1, 1, none⟩) (by simp) _
          · obtain rfl : y = v := by omega
            have HSN : Hid (samB zs (y + 1) = false) := by show _ = _; rw [samB_succ, HS.out, HSI.out]; rfl
            go_wp2_with fail
            go_roundw
            case rel => exact ⟨y + 1, by omega, by go_num, HLV, HSN, hF⟩
            case measure => simp [intOf]; omega
      · have hnx := evL_no hev
        rw [decide_eq_false hev] at hpar hpas
        clear hev
        generalize dz zs v = dv at *
        have HLV : Hid (Own wr w2.heap.size (.slice pa pl pc) (evL zs (v + 1))) := by show Own _ _ _ _; rw [hnx]; exact HL.out
        have hFar := hE
        go_wp2_with fail
        clear k0 k1 hdz hnx hel dv1 dv2 hpar hpas HL hE
        obtain ⟨wo, rfl⟩ : ∃ wo : World, wo = wr := ⟨_, rfl⟩
        have HIN0 : Hid (samI zs v 0 = false) := rfl
        have HFAR := Lib.hid hFar
        go_loopw [8] (fun t wr => ∃ y : Nat, y ≤ v ∧ t = .int .i64 y ∧ Hid (samI zs v y = false) ∧ Below w2.heap.size w2 wr ∧ Hid (Own wr w2.heap.size (.slice pa pl pc) (evL zs (v + 1)))) (fun t _ => v - (intOf t).toNat)
        case atStart => exact ⟨0, Nat.zero_le _, rfl, HIN0, HFAR.out, HLV⟩
        case round =>
          clear HFAR HLV HIN0
          obtain ⟨y, hy, rfl, HSI, hF, HLV⟩ := hrel
          by_cases hly : y < v
          · have hlyi : (y : Int) < v := by omega
            have hy0 : (0 : Int) ≤ y := by omega
            have hyn : (y : Int) < zs.length := by omega
            obtain ⟨m0, m1, -, -⟩ := two_cells ((hF.block w.heap.size (by omega)).trans HG2.out)
            have hcz := HCZ.out wr (E2.out.trans (hF.mono (by omega))) v hlt
            have hdv := (hF.cell (p := ⟨gd, v, none⟩) hgd1).trans (own_dz HO2.out hlt)
            have hdy := (hF.cell (p := ⟨gd, y, none⟩) hgd1).trans (own_dz HO2.out (show y < zs.length by omega))
            obtain ⟨hz1, hz2⟩ := HROW.out v hlt
            have HSH : Hid ((bits .and .i64 (el zs v / 2 ^ y) 1 == 1) = bt (el zs v) y) := shr_bit _ _ hz1 hz2
            have hwr := wrap_y y (by omega)
            obtain ⟨dv1, dv2⟩ := HCON.out v hlt
            obtain ⟨dy1, dy2⟩ := HCON.out y (by omega)
            have hsp : samP zs v y = (bt (el zs v) y && decide ((dz zs v - dz zs y) % 2 = 0)) := rfl
            have hnx := samI_succ zs v y
            rw [HSI.out, Bool.false_or] at hnx
            have HHIT := Lib.hid (fun h : samP zs v y = true => samB_hit (n := zs.length) hly hlt h)
            have hpar : ((dz zs v - dz zs y).tmod 2 == 0) = decide ((dz zs v - dz zs y) % 2 = 0) := tmod_par _
            generalize dz zs v = dv at *
            generalize dz zs y = dy at *
            generalize el zs v = zv at *
            generalize bt zv y = bb at *
            cases bb with
            | false =>
              rw [Bool.false_and] at hsp
              have HNX : Hid (samI zs v (y + 1) = false) := hnx.trans hsp
              have hcond := HSH.out
              clear HHIT hsp hnx hpar
              go_wp2_with fail
              go_quiet (fail)
              go_wp2_with fail
              go_roundw
              case rel => exact ⟨y + 1, by omega, by go_num, HNX, drewN_below hF _, HLV.out.below (drewN_below (Below.refl _ _) _)⟩
              case measure => simp [intOf]; omega
            | true =>
              rw [Bool.true_and] at hsp
              have hcond := HSH.out
              cases hpp : decide ((dv - dy) % 2 = 0) with
              | false =>
                rw [hpp] at hsp hpar
                have HNX : Hid (samI zs v (y + 1) = false) := hnx.trans hsp
                clear HHIT hsp hnx hpp
                go_wp2_with fail
                go_quiet (fail)
                go_wp2_with fail
                go_roundw
                case rel => exact ⟨y + 1, by omega, by go_num, HNX, drewN_below hF _, HLV.out.below (drewN_below (Below.refl _ _) _)⟩
                case measure => simp [intOf]; omega
              | true =>
                rw [hpp] at hsp hpar
                have HB := Lib.hid (HHIT.out hsp)
                obtain ⟨f1, f2, f3⟩ := HFN.out true HB.out
                simp only [if_true] at f1 f2 f3
                subst f1; subst f2; subst f3
                have RBX := Lib.hid ((hF.block (w.heap.size + 1) (by omega)).trans HR2.out)
                have hrd : ∀ m, (wr.drewN m).heap[w.heap.size + 1]? = some (.cells #[.int .i64 0, .slice none 0 0] 26 (0, 0)) := fun m => ((drewN_below (Below.refl wr.heap.size wr) m).block _ (Array.getElem?_eq_some_iff.1 RBX.out).1).trans RBX.out
                have HRD := Lib.hid hrd
                clear HHIT hsp hnx hpp hrd
                go_wp2_with fail
                go_quiet (fail)
                obtain ⟨r0, r1, q0, q1⟩ := two_cells (HRD.out nq)
                have hfq : Below w.heap.size w (wr.drewN nq) := E2.out.trans (drewN_below (hF.mono (by omega)) _)
                go_wp2_with fail
                have hfin := two_set (a := .int .i64 0) (b := .slice none 0 0) (HRD.out nq)
                refine bodyPost_ret (v := .tuple #[.agg #[.int .i64 0, .slice none 0 0], .int .i64 5]) (results_cell2 (p := 2) (u := 3) (ty := 26) rfl _ _ (w.heap.size + 1) 26 _ (0, 0) _ rfl hfin Tryd.underlying26 rfl (by exact info27)) rfl ⟨⟨_, rfl, Own.nil _ _⟩, ?_⟩
                exact (hfq.setCell (p := ⟨w.heap.size + 1, 0, none⟩) (by simp) _).setCell (p := ⟨w.heap.size + 1, 1, none⟩) (by simp) _
          · obtain rfl : y = v := by omega
            have HSN : Hid (samB zs (y + 1) = false) := by show _ = _; rw [samB_succ, HS.out, HSI.out]; rfl
            go_wp2_with fail
            go_roundw
            case rel => exact ⟨y + 1, by omega, by go_num, HLV, HSN, hF⟩
            case measure => simp [intOf]; omega
    · obtain rfl : v = zs.length := by omega
      obtain ⟨f1, f2, f3⟩ := HFN.out false HS.out
      simp only [Bool.false_eq_true, if_false] at f1 f2 f3
      rw [HRR.out] at f2
      have hm62 : (evL zs zs.length).length ≤ 62 := by have := HEL.out zs.length; omega
      obtain ⟨m, hm⟩ : ∃ m, m = (evL zs zs.length).length := ⟨_, rfl⟩
      rw [← hm] at hm62 f1 f2
      subst f1; subst f2; subst f3
      have HMM := Lib.hid hm
      have hm0 : 0 < m := by rw [hm]; exact HM0.out
      obtain ⟨gl, lc, e, hgl0, hgl1⟩ : ∃ g c, Value.slice pa pl pc = .slice (some ⟨g, 0, none⟩) m c ∧ w2.heap.size ≤ g ∧ g < wr.heap.size := by
        rcases HL.out.form with ⟨_, e⟩ | ⟨g, c, e, h1, h2⟩
        · have := congrArg List.length e; rw [List.length_nil] at this; omega
        · rw [← hm] at e; exact ⟨g, c, e, h1, h2⟩
      injection e with e1 e2 e3
      subst e1; subst e3
      have e2 := e2.symm
      subst e2
      have HLC : Hid (∀ i, i < m → wr.cell? ⟨gl, i, none⟩ = some (.int .i64 (el (evL zs zs.length) i))) := fun i hi => own_at HL.out hm.symm hi
      have HEM := Lib.hid (fun W => specEmpty_any m W (by omega))
      have hEw := E2.out.trans (hE.mono (by omega))
      clear hm HL HS hlt HFN HRR HM0
      go_wp2_with (first
        | (go_at_call 26; refine (HRS.out wr hEw).mono ?_; rintro e w4 ⟨⟨u4, rfl, hTS⟩, hb4⟩; have HTS := Lib.hid hTS; have HB4 := Lib.hid hb4; clear hTS hb4)
        | (go_at_call 27; refine (HEM.out _).mono ?_; rintro e w5 ⟨rfl, hB5, hb5⟩; have HBK := Lib.hid hB5; have HB5 := Lib.hid hb5; clear hB5 hb5))
      obtain ⟨gu, cu, hu4, -, -⟩ : ∃ gu cu, u4 = .slice (some ⟨gu, 0, none⟩) zs.length cu ∧ wr.heap.size ≤ gu ∧ gu < w4.heap.size := by
        rcases HTS.out.form with ⟨_, e⟩ | ⟨g, c, e, h1, h2⟩
        · have := congrArg List.length e; rw [dsLL_length, List.length_nil] at this; omega
        · rw [dsLL_length] at e; exact ⟨g, c, e, h1, h2⟩
      subst hu4
      have HRD : Hid (∀ W', Below w4.heap.size w4 W' → RdD W' gu zs) := fun W' h => TS.rdD HTS.out fun k _ hk => h.block k hk
      have sB4 := HB4.out.size
      have sB5 := HB5.out.size
      have hEl := HBK.out.lt
      obtain ⟨gE, hgE⟩ : ∃ gE, gE = w4.heap.size + 1 := ⟨_, rfl⟩
      obtain ⟨hB, hhB⟩ : ∃ hB, hB = w5.heap.size := ⟨_, rfl⟩
      obtain ⟨W6, hW6⟩ : ∃ W6, W6 = w5.alloc (.cells #[.int .i64 m, .slice (some ⟨w4.heap.size + 1, 0, none⟩) m m] 26) := ⟨_, rfl⟩
      have HX6 : Hid (W6.heap[hB]? = some (.cells #[.int .i64 m, .slice (some ⟨gE, 0, none⟩) m m] 26 (0, 0))) := by show _ = _; rw [hW6, hhB, hgE]; exact World.alloc_heap_new w5 _
      have HBK6 : Hid (Blk W6 gE (rowsF m (adjS (swapS (whereS (hfF zs) 0))))) := by
        show Blk _ _ _
        rw [show adjS (swapS (whereS (hfF zs) 0)) = fun _ _ => false from rfl, rowsF_none, hW6, hgE]
        exact HBK.out.belowAll ((Below.refl _ _).alloc (Nat.le_refl _) _)
      have hE6 : Below w4.heap.size w4 W6 := by rw [hW6]; exact HB5.out.alloc sB5 _
      have h1E : w4.heap.size ≤ gE := by omega
      have h1B : w4.heap.size ≤ hB := by omega
      have hEB : gE ≠ hB := by omega
      have HLC4 : Hid (∀ W', Below w4.heap.size w4 W' → ∀ i, i < m → W'.cell? ⟨gl, i, none⟩ = some (.int .i64 (el (evL zs zs.length) i))) := fun W' h i hi =>
        (h.cell (p := ⟨gl, i, none⟩) (show gl < w4.heap.size by omega)).trans ((HB4.out.cell (p := ⟨gl, i, none⟩) hgl1).trans (HLC.out i hi))
      have HWW : Hid (∀ W', Below w4.heap.size w4 W' → Below w.heap.size w W') := fun W' h => (hEw.trans (HB4.out.mono hEw.size)).trans (h.mono (by have := hEw.size; omega))
      have HRW : Hid (∀ W', Below w4.heap.size w4 W' → W'.heap[w.heap.size + 1]? = some (.cells #[.int .i64 0, .slice none 0 0] 26 (0, 0))) := fun W' h =>
        (h.block _ (by omega)).trans ((HB4.out.block _ (by omega)).trans ((hE.block _ (by omega)).trans HR2.out))
      have k01 : w.heap.size + 1 < w4.heap.size := by omega
      rw [← hgE, ← hhB] at *
      rw [← hW6]
      clear hW6 HBK HB5 HB4 HTS HLC hgE hhB hE sB4 sB5 hEl HEM HRS
      go_loopw [11] (fun t wr => ∃ i : Nat, i ≤ m ∧ t = .int .i64 i ∧ Hid (Blk wr gE (rowsF m (adjS (swapS (whereS (hfF zs) i))))) ∧ Hid (wr.heap[hB]? = some (.cells #[.int .i64 m, .slice (some ⟨gE, 0, none⟩) m m] 26 (0, 0))) ∧ Below w4.heap.size w4 wr) (fun t _ => m - (intOf t).toNat)
      case atStart => exact ⟨0, Nat.zero_le _, rfl, HBK6, HX6, hE6⟩
      case round =>
        clear HBK6 HX6 hE6
        obtain ⟨i, hi, rfl, HB, HX, hE⟩ := hrel
        by_cases hlt : i < m
        · have hlti : (i : Int) < m := by omega
          go_wp2_with fail
          obtain ⟨wo, rfl⟩ : ∃ wo : World, wo = wr := ⟨_, rfl⟩
          have HBI : Hid (Blk wo gE (rowsF m (adjS (swapS (whereS (hfF zs) i ++ inS (hfF zs) i 0))))) := by show Blk _ _ _; rw [show whereS (hfF zs) i ++ inS (hfF zs) i 0 = whereS (hfF zs) i by simp [inS]]; exact HB.out
          go_loopw [12] (fun t wr => ∃ k : Nat, k ≤ i ∧ t = .int .i64 k ∧ Hid (Blk wr gE (rowsF m (adjS (swapS (whereS (hfF zs) i ++ inS (hfF zs) i k))))) ∧ Hid (wr.heap[hB]? = some (.cells #[.int .i64 m, .slice (some ⟨gE, 0, none⟩) m m] 26 (0, 0))) ∧ Below w4.heap.size w4 wr) (fun t _ => i - (intOf t).toNat)
          case atStart => exact ⟨0, Nat.zero_le _, rfl, HBI, HX, hE⟩
          case round =>
            clear HBI HX hE HB
            obtain ⟨k, hk, rfl, HC, HY, hF⟩ := hrel
            by_cases hlk : k < i
            · have hlki : (k : Int) < i := by omega
              have hi0 : (0 : Int) ≤ i := by omega
              have hk0 : (0 : Int) ≤ k := by omega
              have hki : (k : Int) < m := by omega
              have ci := HLC4.out wr hF i hlt
              have ck := HLC4.out wr hF k (by omega)
              have hxi := HEV.out i (by have := HMM.out; omega)
              have hxk := HEV.out k (by have := HMM.out; omega)
              have hf : hfF zs k i = decide (el (dsL zs (el (evL zs zs.length) i).toNat) (el (evL zs zs.length) k).toNat = 2) := rfl
              obtain ⟨xi, hei⟩ : ∃ x : Nat, el (evL zs zs.length) i = (x : Int) := ⟨(el (evL zs zs.length) i).toNat, by omega⟩
              obtain ⟨xk, hek⟩ : ∃ x : Nat, el (evL zs zs.length) k = (x : Int) := ⟨(el (evL zs zs.length) k).toNat, by omega⟩
              rw [hei] at ci hxi hf
              rw [hek] at ck hxk hf
              rw [Int.toNat_natCast, Int.toNat_natCast] at hf
              obtain ⟨p, c, c1, c2⟩ := HRD.out wr hF xi (by omega)
              have c3 := c2 xk (by omega)
              obtain ⟨xi0, xi1⟩ := hxi
              obtain ⟨xk0, xk1⟩ := hxk
              obtain ⟨x0, x1, y0, y1⟩ := two_cells HY.out
              clear c2 hei hek
              cases hr : hfF zs k i with
              | true =>
                have HN : Hid (swapS (whereS (hfF zs) i ++ inS (hfF zs) i (k + 1)) = swapS (whereS (hfF zs) i ++ inS (hfF zs) i k) ++ [(i, k)]) := by show _ = _; rw [inS_yes hr, ← List.append_assoc, swapS_snoc]
                have HJ := Lib.hid (fun W hW => with_at m gE m (swapS (whereS (hfF zs) i ++ inS (hfF zs) i k)) i k (i : Int) (k : Int) W hW hlt (by omega) hm62 rfl rfl)
                rw [hr] at hf
                generalize el (dsL zs xi) xk = d at *
                have hd : (d == 2) = true := hf.symm
                have HQ := Lib.hid (fun q => HC.out.below (drewN_below (Below.refl wr.heap.size wr) q) HC.out.lt)
                have HYq := Lib.hid (fun q => ((drewN_below (Below.refl wr.heap.size wr) q).block hB (Array.getElem?_eq_some_iff.1 HY.out).1).trans HY.out)
                have HFq := Lib.hid (fun q => drewN_below hF q)
                clear hr hf
                go_wp2_with fail
                go_quiet (fail)
                clear x0 x1 y0 y1
                obtain ⟨x0, x1, y0, y1⟩ := two_cells (HYq.out nq)
                go_wp2_with fail
                refine (HJ.out _ (HQ.out nq)).mono ?_
                rintro e w7 ⟨rfl, hB7, hg7⟩
                have HX7 := Lib.hid ((hg7.block hB (Array.getElem?_eq_some_iff.1 (HYq.out nq)).1 (fun e => hEB (Option.some.inj e).symm)).trans (HYq.out nq))
                have HB7 : Hid (Blk w7 gE (rowsF m (adjS (swapS (whereS (hfF zs) i ++ inS (hfF zs) i (k + 1)))))) := by show Blk _ _ _; rw [HN.out]; exact hB7
                have hE7 : Below w4.heap.size w4 w7 := (HFq.out nq).grown hg7 (HFq.out nq).size (fun j e => by have := Option.some.inj e; omega)
                obtain ⟨z0, z1, z2, z3⟩ := two_cells HX7.out
                clear x0 x1 y0 y1 c1 c3 ci ck hB7 hg7 HC HY hF HJ HQ HYq HFq
                go_wp2_with fail
                obtain ⟨w8, h8⟩ : ∃ x, x = (w7.setCell ⟨hB, 0, none⟩ (.int .i64 m)).setCell ⟨hB, 1, none⟩ (.slice (some ⟨gE, 0, none⟩) m m) := ⟨_, rfl⟩
                have HX8 : Hid (w8.heap[hB]? = some (.cells #[.int .i64 m, .slice (some ⟨gE, 0, none⟩) m m] 26 (0, 0))) := by show _ = _; rw [h8]; exact two_set HX7.out
                have HB8 : Hid (Blk w8 gE (rowsF m (adjS (swapS (whereS (hfF zs) i ++ inS (hfF zs) i (k + 1)))))) := by show Blk _ _ _; rw [h8]; exact (HB7.out.other (by simp; exact hEB) _).other (by simp; exact hEB) _
                have hE8 : Below w4.heap.size w4 w8 := by rw [h8]; exact (hE7.setCell (p := ⟨hB, 0, none⟩) (by simp; omega) _).setCell (p := ⟨hB, 1, none⟩) (by simp; omega) _
                rw [← h8]
                clear h8 HX7 HB7 hE7 z0 z1 z2 z3
                go_roundw
                case rel => exact ⟨k + 1, by omega, by go_num, HB8, HX8, hE8⟩
                case measure => simp [intOf]; omega
              | false =>
                have HN : Hid (swapS (whereS (hfF zs) i ++ inS (hfF zs) i (k + 1)) = swapS (whereS (hfF zs) i ++ inS (hfF zs) i k)) := by show _ = _; rw [inS_no hr]
                rw [hr] at hf
                generalize el (dsL zs xi) xk = d at *
                have hd : (d == 2) = false := hf.symm
                clear hr hf
                go_wp2_with fail
                go_quiet (fail)
                go_wp2_with fail
                go_roundw
                case rel => exact ⟨k + 1, by omega, by go_num, by show Blk _ _ _; rw [HN.out]; exact HC.out.below (drewN_below (Below.refl wr.heap.size wr) _) HC.out.lt, ((drewN_below (Below.refl wr.heap.size wr) _).block hB (Array.getElem?_eq_some_iff.1 HY.out).1).trans HY.out, drewN_below hF _⟩
                case measure => simp [intOf]; omega
            · obtain rfl : k = i := by omega
              have HB2 : Hid (Blk wr gE (rowsF m (adjS (swapS (whereS (hfF zs) (k + 1)))))) := HC.out
              go_wp2_with fail
              go_roundw
              case rel => exact ⟨k + 1, by omega, by go_num, HB2, HY, hF⟩
              case measure => simp [intOf]; omega
        · obtain rfl : i = m := by omega
          obtain ⟨x0, x1, y0, y1⟩ := two_cells HX.out
          have HRX := Lib.hid (HRW.out wr hE)
          obtain ⟨r0, r1, q0, q1⟩ := two_cells HRX.out
          go_wp2_with fail
          have hfin := two_set (a := .int .i64 i) (b := .slice (some ⟨gE, 0, none⟩) i i) HRX.out
          refine bodyPost_ret (v := .tuple #[.agg #[.int .i64 i, .slice (some ⟨gE, 0, none⟩) i i], .int .i64 0]) (results_cell2 (p := 2) (u := 3) (ty := 26) rfl _ _ (w.heap.size + 1) 26 _ (0, 0) _ rfl hfin Tryd.underlying26 rfl (by exact info27)) rfl ⟨⟨_, rfl, ?_⟩, ?_⟩
          · have h := Own.of_blk ((HB.out.other (a := ⟨w.heap.size + 1, 0, none⟩) (by simp; omega) (.int .i64 i)).other (a := ⟨w.heap.size + 1, 1, none⟩) (by simp; omega) (.slice (some ⟨gE, 0, none⟩) i i)) (B := w.heap.size) (by omega) (by rw [rowsF_length]; unfold maxLen; omega)
            rw [rowsF_length] at h
            exact h
          · exact ((HWW.out wr hE).setCell (p := ⟨w.heap.size + 1, 0, none⟩) (by simp) _).setCell (p := ⟨w.heap.size + 1, 1, none⟩) (by simp) _

theorem specHf_any (n : Int) (v : Value) (zs : List Int) (w : World) (h : Sl w v zs) (hl : zs.length ≤ 9223372036854775807) :
    Calls Tryd.prog 8 #[.agg #[.int .i64 n, v]] w fun e w' => GRes w.heap.size (HfN n zs) (HfL n zs) (HfC n zs) e w' ∧ Below w.heap.size w w' := by
  cases hg : isG n zs with
  | false =>
    rw [show HfN n zs = 0 by simp [HfN, hfOk, hg], show HfL n zs = [] by simp [HfL, hfOk, hg], show HfC n zs = 1 by simp [HfC, hfOk, hg]]
    exact specHf_code n v zs w h hl 1 (by simp [cnC, hg]) (by decide)
  | true =>
    cases hcn : connB zs with
    | false =>
      rw [show HfN n zs = 0 by simp [HfN, hfOk, hcn], show HfL n zs = [] by simp [HfL, hfOk, hcn], show HfC n zs = 5 by simp [HfC, hfOk, hg, hcn]]
      exact specHf_code n v zs w h hl 5 (by simp [cnC, hg, hcn]) (by decide)
    | true =>
      obtain ⟨h1, _, h3, _⟩ := isG_parts hg
      obtain ⟨b, off, cap, rfl, hb, hc⟩ := sl_some h (by omega)
      obtain rfl : (zs.length : Int) = n := h3
      exact specHf_yes b off cap zs w hb hc hg hcn
end Go.Proofs.YthlchifmmmnagaaDoor
