/-
  Several texts in one: Pq Pw Px.
-/
import Derived.Test.YtlodaeoikkjbkaaDoorMgF
import Derived.Test.YtlodaeoikkjbkaaDoorRe
import Derived.Sort.CutIn
import Derived.Shelf.RegionOpen
namespace Go.Proofs.YtlodaeoikkjbkaaDoor
set_option maxRecDepth 100000
open Go.RowKit

/-- The two rows after k rounds of the search from v. -/
def rIt (zs : List Int) (v : Nat) : Nat → Nat × Nat
  | 0 => (2 ^ v, 0)
  | k + 1 => (rEven zs (rIt zs v k).1 (rIt zs v k).2, rOdd zs (rIt zs v k).1 (rIt zs v k).2)
/-- The two rows that the search from v ends with. -/
def RD (zs : List Int) (v : Nat) (p : Nat × Nat) : Prop := ∃ k, p = rIt zs v k ∧ rIt zs v (k + 1) = rIt zs v k
theorem rIt_stay {zs : List Int} {v k : Nat} (h : rIt zs v (k + 1) = rIt zs v k) : ∀ j, rIt zs v (k + j) = rIt zs v k
  | 0 => rfl
  | j + 1 => by
    have ih := rIt_stay h j
    show (rEven zs (rIt zs v (k + j)).1 (rIt zs v (k + j)).2, rOdd zs (rIt zs v (k + j)).1 (rIt zs v (k + j)).2) = _
    rw [ih]; exact h
theorem RD.uniq {zs : List Int} {v : Nat} {p q : Nat × Nat} (h : RD zs v p) (g : RD zs v q) : p = q := by
  obtain ⟨k, rfl, hk⟩ := h
  obtain ⟨j, rfl, hj⟩ := g
  have h1 := rIt_stay hk j
  have h2 := rIt_stay hj k
  rw [Nat.add_comm] at h2
  exact h1.symm.trans h2
theorem rIt_inv {zs : List Int} {v : Nat} (hv : v < zs.length) (h62 : zs.length ≤ 62) (hz : ∀ i, i < zs.length → (el zs i).toNat < 2 ^ zs.length) : ∀ k, RInv zs v (rIt zs v k).1 (rIt zs v k).2
  | 0 => RInv.start hv
  | k + 1 => (rIt_inv hv h62 hz k).next hv h62 hz
theorem RD.ex {zs : List Int} {v : Nat} (hv : v < zs.length) (h62 : zs.length ≤ 62) (hz : ∀ i, i < zs.length → (el zs i).toNat < 2 ^ zs.length) : ∃ p, RD zs v p := by
  refine Classical.byContradiction fun hno => ?_
  have hk : ∀ k, rIt zs v (k + 1) ≠ rIt zs v k := fun k e => hno ⟨_, k, rfl, e⟩
  have grow : ∀ k, k ≤ (rIt zs v k).1 + (rIt zs v k).2 := by
    intro k
    induction k with
    | zero => omega
    | succ k ih =>
      have h1 : (rIt zs v k).1 ≤ (rIt zs v (k + 1)).1 := Nat.left_le_or
      have h2 : (rIt zs v k).2 ≤ (rIt zs v (k + 1)).2 := Nat.left_le_or
      have h3 := hk k
      have : ¬ ((rIt zs v (k + 1)).1 = (rIt zs v k).1 ∧ (rIt zs v (k + 1)).2 = (rIt zs v k).2) := fun e => h3 (Prod.ext e.1 e.2)
      omega
  have h := rIt_inv hv h62 hz (2 * 2 ^ zs.length)
  have h1 := grow (2 * 2 ^ zs.length)
  have h2 := h.elt; have h3 := h.olt
  omega
theorem RD.inv {zs : List Int} {v : Nat} {p : Nat × Nat} (h : RD zs v p) (hv : v < zs.length) (h62 : zs.length ≤ 62) (hz : ∀ i, i < zs.length → (el zs i).toNat < 2 ^ zs.length) : RInv zs v p.1 p.2 := by
  obtain ⟨k, rfl, _⟩ := h
  exact rIt_inv hv h62 hz k
theorem RD.fix {zs : List Int} {v : Nat} {p : Nat × Nat} (h : RD zs v p) : rEven zs p.1 p.2 = p.1 ∧ rOdd zs p.1 p.2 = p.2 := by
  obtain ⟨k, rfl, hk⟩ := h
  exact ⟨congrArg Prod.fst hk, congrArg Prod.snd hk⟩
theorem RD.or {zs : List Int} {v : Nat} {p : Nat × Nat} (h : RD zs v p) (hv : v < zs.length) (h62 : zs.length ≤ 62) (hz : ∀ i, i < zs.length → (el zs i).toNat < 2 ^ zs.length) :
    ∀ w, w < zs.length → (p.1 ||| p.2).testBit w = decide (rch zs v w) := (h.inv hv h62 hz).done h62 h.fix.1 h.fix.2

/-- The least place of a digit 1. -/
def lo (x : Nat) : Nat := Lib.ctz 64 x
/-- The vertices left after k parts, F the rows that the searches end with. -/
def lfN (n : Nat) (F : Nat → Nat × Nat) : Nat → Nat
  | 0 => 2 ^ n - 1
  | k + 1 => anot (lfN n F k) ((F (lo (lfN n F k))).1 ||| (F (lo (lfN n F k))).2)
/-- There are p parts. -/
def PN (n : Nat) (F : Nat → Nat × Nat) (p : Nat) : Prop := lfN n F p = 0 ∧ ∀ k, k < p → lfN n F k ≠ 0

theorem lo_mem {x : Nat} (h0 : x ≠ 0) (hx : x < 2 ^ 64) : ∃ r, mem x = lo x :: r := ⟨_, mem_step x h0 hx⟩
theorem lo_bit {x : Nat} (h0 : x ≠ 0) (hx : x < 2 ^ 64) : x.testBit (lo x) = true := by
  obtain ⟨r, h⟩ := lo_mem h0 hx
  exact (mem_iff.1 (show lo x ∈ mem x by rw [h]; simp)).2
theorem mem_sorted (x : Nat) : (mem x).Pairwise (· < ·) := by
  unfold mem
  exact List.Pairwise.filter _ List.pairwise_lt_range
theorem lo_least {x j : Nat} (h0 : x ≠ 0) (hx : x < 2 ^ 64) (hj : x.testBit j = true) : lo x ≤ j := by
  obtain ⟨r, h⟩ := lo_mem h0 hx
  have hm : j ∈ mem x := mem_iff.2 ⟨bit_lt hx hj, hj⟩
  have hs := mem_sorted x
  rw [h] at hm hs
  rcases List.mem_cons.1 hm with e | hm
  · omega
  · exact Nat.le_of_lt ((List.pairwise_cons.1 hs).1 j hm)

/-- The vertices left after k parts are those that no vertex ahead of v reaches. -/
def PI (zs : List Int) (F : Nat → Nat × Nat) (k v : Nat) : Prop := ∀ w, (lfN zs.length F k).testBit w = true ↔ w < zs.length ∧ ∀ u, u < v → ¬ rch zs u w
/-- v is the least vertex of its part. -/
def leadB (zs : List Int) (v : Nat) : Bool := (List.range v).all fun u => !decide (rch zs u v)
theorem leadB_iff {zs : List Int} {v : Nat} : leadB zs v = true ↔ ∀ u, u < v → ¬ rch zs u v := by
  unfold leadB
  rw [List.all_eq_true]
  constructor
  · intro h u hu
    have := h u (List.mem_range.2 hu)
    simpa using this
  · intro h u hu
    have := h u (List.mem_range.1 hu)
    simpa using this
def prN (zs : List Int) : Nat → List Nat
  | 0 => []
  | v + 1 => if leadB zs v then prN zs v ++ [v] else prN zs v
theorem prN_yes {zs : List Int} {v : Nat} (h : leadB zs v = true) : prN zs (v + 1) = prN zs v ++ [v] := by simp [prN, h]
theorem prN_no {zs : List Int} {v : Nat} (h : leadB zs v = false) : prN zs (v + 1) = prN zs v := by simp [prN, h]
theorem prN_length (zs : List Int) : ∀ v, (prN zs v).length ≤ v
  | 0 => Nat.le_refl _
  | v + 1 => by
    have := prN_length zs v
    cases h : leadB zs v with
    | true => rw [prN_yes h, List.length_append]; simp; omega
    | false => rw [prN_no h]; omega

section
variable {zs : List Int} {F : Nat → Nat × Nat} {k v : Nat}
variable (h62 : zs.length ≤ 62) (hz : ∀ i, i < zs.length → (el zs i).toNat < 2 ^ zs.length) (hF : ∀ v, v < zs.length → RD zs v (F v))
theorem PI.start : PI zs F 0 0 := fun w => by
  show (2 ^ zs.length - 1).testBit w = true ↔ _
  rw [Nat.testBit_two_pow_sub_one]
  simp
theorem lfN_lt : ∀ k, lfN zs.length F k < 2 ^ zs.length
  | 0 => by have := Nat.two_pow_pos zs.length; show 2 ^ zs.length - 1 < _; omega
  | k + 1 => anot_lt (lfN_lt k)
include h62 hz hF in
theorem PI.next (h : PI zs F k v) (h0 : lfN zs.length F k ≠ 0) : lo (lfN zs.length F k) < zs.length ∧ v ≤ lo (lfN zs.length F k) ∧ prN zs (lo (lfN zs.length F k) + 1) = prN zs v ++ [lo (lfN zs.length F k)] ∧ PI zs F (k + 1) (lo (lfN zs.length F k) + 1) := by
  have hlt := lfN_lt (zs := zs) (F := F) k
  have h64 : lfN zs.length F k < 2 ^ 64 := Nat.lt_of_lt_of_le hlt (Nat.pow_le_pow_right (by decide) (by omega))
  obtain ⟨y, hy⟩ : ∃ y, y = lo (lfN zs.length F k) := ⟨_, rfl⟩
  have hb := lo_bit h0 h64
  have hleast := fun j => lo_least (j := j) h0 h64
  rw [← hy] at hb hleast ⊢
  obtain ⟨hyn, hyr⟩ := (h y).1 hb
  have hvy : v ≤ y := Nat.le_of_not_lt fun e => hyr y e (rch_self hyn)
  have noLead : ∀ w, v ≤ w → w < y → leadB zs w = false := fun w hw1 hw2 => by
    cases e : leadB zs w with
    | false => rfl
    | true =>
      have := hleast w ((h w).2 ⟨by omega, fun u hu => leadB_iff.1 e u (by omega)⟩)
      omega
  have yLead : ∀ u, u < y → ¬ rch zs u y := fun u hu hr => by
    rcases Nat.lt_or_ge u v with e | e
    · exact hyr u e hr
    · have := hleast u ((h u).2 ⟨by omega, fun x hx hxr => hyr x hx (rch_trans (by omega) hxr hr)⟩)
      omega
  have hpr : ∀ j, v + j ≤ y → prN zs (v + j) = prN zs v := by
    intro j
    induction j with
    | zero => intro _; rfl
    | succ j ih =>
      intro hj
      rw [← Nat.add_assoc, prN_no (noLead (v + j) (by omega) (by omega))]
      exact ih (by omega)
  have e1 := hpr (y - v) (by omega)
  rw [show v + (y - v) = y by omega] at e1
  refine ⟨hyn, hvy, by rw [prN_yes (leadB_iff.2 yLead), e1], fun w => ?_⟩
  show (anot (lfN zs.length F k) ((F (lo (lfN zs.length F k))).1 ||| (F (lo (lfN zs.length F k))).2)).testBit w = true ↔ _
  rw [← hy, anot_bit, Bool.and_eq_true, h w]
  constructor
  · rintro ⟨⟨hw, h1⟩, h2⟩
    rw [(hF y hyn).or hyn h62 hz w hw] at h2
    refine ⟨hw, fun u hu hr => ?_⟩
    rcases Nat.lt_or_ge u v with e | e
    · exact h1 u e hr
    · by_cases e2 : u = y
      · rw [e2] at hr; simp [hr] at h2
      · have hrun : ∃ x, x < v ∧ rch zs x u := by
          refine Classical.byContradiction fun hno => ?_
          have := hleast u ((h u).2 ⟨by omega, fun x hx hxr => hno ⟨x, hx, hxr⟩⟩)
          omega
        obtain ⟨x, hx, hxr⟩ := hrun
        exact h1 x hx (rch_trans (by omega) hxr hr)
  · rintro ⟨hw, h1⟩
    refine ⟨⟨hw, fun u hu => h1 u (by omega)⟩, ?_⟩
    rw [(hF y hyn).or hyn h62 hz w hw]
    have := h1 y (by omega)
    simpa using this
theorem PI.end (h : PI zs F k v) (h0 : lfN zs.length F k = 0) : ∀ j, prN zs (v + j) = prN zs v ∨ zs.length < v + j := by
  have no : ∀ w, w < zs.length → ∃ u, u < v ∧ rch zs u w := fun w hw => by
    refine Classical.byContradiction fun hno => ?_
    have := (h w).2 ⟨hw, fun u hu hr => hno ⟨u, hu, hr⟩⟩
    rw [h0] at this; simp at this
  intro j
  induction j with
  | zero => exact .inl rfl
  | succ j ih =>
    rcases ih with ih | ih
    · by_cases hl : zs.length < v + (j + 1)
      · exact .inr hl
      · obtain ⟨u, hu, hr⟩ := no (v + j) (by omega)
        have : leadB zs (v + j) = false := by
          cases e : leadB zs (v + j) with
          | false => rfl
          | true => exact absurd hr (leadB_iff.1 e u (by omega))
        rw [← Nat.add_assoc, prN_no this]
        exact .inl ih
    · exact .inr (by omega)
theorem PI.last (h : PI zs F k v) (h0 : lfN zs.length F k = 0) (hv : v ≤ zs.length) : prN zs zs.length = prN zs v := by
  have := h.end h0 (zs.length - v)
  rw [show v + (zs.length - v) = zs.length by omega] at this
  rcases this with e | e
  · exact e
  · omega
include h62 hz hF in
/-- There are at most as many parts as vertices. -/
theorem PN.ex : ∃ p, p ≤ zs.length ∧ PN zs.length F p := by
  have key : ∀ k, (∃ p, p ≤ k ∧ p ≤ zs.length ∧ PN zs.length F p) ∨ (∃ v, k ≤ v ∧ v ≤ zs.length ∧ PI zs F k v ∧ ∀ j, j < k → lfN zs.length F j ≠ 0) := by
    intro k
    induction k with
    | zero => exact .inr ⟨0, Nat.le_refl _, Nat.zero_le _, PI.start, fun j hj => absurd hj (by omega)⟩
    | succ k ih =>
      rcases ih with ⟨p, hp, h⟩ | ⟨v, hk, hv, hP, hj⟩
      · exact .inl ⟨p, by omega, h⟩
      · by_cases h0 : lfN zs.length F k = 0
        · exact .inl ⟨k, by omega, by omega, h0, hj⟩
        · obtain ⟨h1, h2, _, h4⟩ := hP.next h62 hz hF h0
          refine .inr ⟨_, by omega, h1, h4, fun j hjk => ?_⟩
          by_cases e : j = k
          · rw [e]; exact h0
          · exact hj j (by omega)
  rcases key (zs.length + 1) with ⟨p, _, h⟩ | ⟨v, h1, h2, _⟩
  · exact ⟨p, h⟩
  · omega
end
end Go.Proofs.YtlodaeoikkjbkaaDoor
namespace Go.Proofs.YtlodaeoikkjbkaaDoor
set_option maxRecDepth 100000
open Go.RowKit

set_option maxRecDepth 100000 in
set_option maxHeartbeats 1600000 in
theorem reachedF_some (n : Int) (b off cap : Nat) (zs : List Int) (v : Nat) (w : World) (hb : b < w.heap.size) (hc : Cells w b off zs) (hT : Tab w) (hg : isG n zs = true) (hv : v < zs.length) (p : Nat × Nat) (hp : RD zs v p) :
    Calls Tryd.prog 86 #[.agg #[.int .i64 n, .slice (some ⟨b, off, none⟩) zs.length cap], .int .i64 v] w fun e w' => e = .returned (.tuple #[.int .i64 p.1, .int .i64 p.2]) ∧ Below w.heap.size w w' := by
  obtain ⟨h1, h2, h3, h4, -⟩ := isG_parts hg
  have hl62 : zs.length ≤ 62 := by omega
  have hzn : ∀ i, i < zs.length → 0 ≤ el zs i ∧ (el zs i).toNat < 2 ^ zs.length := fun i hi => by
    have q0 := (isG_row_ok hg i hi).1
    have q1 := rowOk_le (rowsOk_at h4 hi)
    rw [← h3, Int.toNat_natCast] at q1
    have e : ((2 : Int) ^ zs.length) = ((2 ^ zs.length : Nat) : Int) := by simp
    rw [e] at q1
    omega
  have hp62 : 2 ^ zs.length ≤ 2 ^ 62 := Nat.pow_le_pow_right (by decide) hl62
  have HZ2 : Hid (∀ i, i < zs.length → 0 ≤ el zs i ∧ (el zs i).toNat < 2 ^ 62) := fun i hi => ⟨(hzn i hi).1, Nat.lt_of_lt_of_le (hzn i hi).2 hp62⟩
  have HZV : Hid (∀ i, i < zs.length → (el zs i).toNat < 2 ^ zs.length) := fun i hi => (hzn i hi).2
  have D0 : Below w.heap.size w (w.alloc (.cells #[.int .i64 n, .slice (some ⟨b, off, none⟩) zs.length cap] 28)) := (Below.refl _ _).alloc (Nat.le_refl _) _
  have HG0 := Lib.hid (GBox.new (n := n) (cap := cap) hb hc)
  have HT := Lib.hid (hT.belowAll D0)
  have hTl := hT.lt
  have hv0 : (0 : Int) ≤ v := by omega
  have hv62 : (v : Int) ≤ 61 := by omega
  obtain ⟨pv0, pv1⟩ := pow_bounds v (by omega)
  have e8 : (2 : Int) ^ v = ((2 ^ v : Nat) : Int) := by simp
  have HE8 := Lib.hid e8
  have HST : Hid (∃ k, ((2 ^ v : Nat), (0 : Nat)) = rIt zs v k) := ⟨0, rfl⟩
  have HPP := Lib.hid hp; clear hp
  have HIV : Hid (∀ k, RInv zs v (rIt zs v k).1 (rIt zs v k).2) := rIt_inv hv hl62 HZV.out
  clear hc hT hg h3 h4 hzn e8
  go_enter Tryd.func86, Tryd.ntmps86
  go_wp2
  go_loopw [6, 7] (fun e o wr => ∃ ev od : Nat, e = .int .i64 ev ∧ o = .int .i64 od ∧ Hid (∃ k, (ev, od) = rIt zs v k) ∧ Below (w.heap.size + 1) (w.alloc (.cells #[.int .i64 n, .slice (some ⟨b, off, none⟩) zs.length cap] 28)) wr) (fun e o _ => 18446744073709551616 - ((intOf e).toNat + (intOf o).toNat))
  case atStart => exact ⟨2 ^ v, 0, congrArg (Value.int .i64) HE8.out, rfl, HST, Below.refl _ _⟩
  case round =>
    clear pv0 pv1
    obtain ⟨ev, od, rfl, rfl, HK, hB⟩ := hrel
    have HI : Hid (RInv zs v ev od) := by
      obtain ⟨k, e⟩ := HK.out
      have := HIV.out k
      rw [← e] at this; exact this
    have G1 := HG0.out.below hB
    have b0 := G1.b0
    have b1 := G1.b1
    have l1 := G1.lt
    have T1 := HT.out.below hB (by omega)
    have elt := HI.out.elt
    have olt := HI.out.olt
    have HN := Lib.hid (HI.out.next hv hl62 HZV.out)
    obtain ⟨mo, hmo⟩ : ∃ mo, mo = rOdd zs ev od := ⟨_, rfl⟩
    obtain ⟨me, hme⟩ : ∃ me, me = rEven zs ev od := ⟨_, rfl⟩
    have mlt : mo < 2 ^ zs.length := by rw [hmo]; exact HN.out.olt
    have melt : me < 2 ^ zs.length := by rw [hme]; exact HN.out.elt
    have hor1 : bits .or .i64 (od : Int) ((arN zs (mem ev) : Nat) : Int) = (mo : Int) := by
      rw [hmo]; exact or_i64 _ _ (by omega) (Nat.lt_of_lt_of_le (arN_lt zs _ HZV.out _) (by omega))
    have hor2 : bits .or .i64 (ev : Int) ((arN zs (mem mo) : Nat) : Int) = (me : Int) := by
      rw [hme, hmo]; exact or_i64 _ _ (by omega) (Nat.lt_of_lt_of_le (arN_lt zs _ HZV.out _) (by omega))
    have gro : od ≤ mo := by rw [hmo]; exact Nat.left_le_or
    have gre : ev ≤ me := by rw [hme]; exact Nat.left_le_or
    have HMO := Lib.hid hmo; have HME := Lib.hid hme
    clear hmo hme
    have ha1 := around_any n b off cap zs ev wr G1.lb G1.cells T1 hl62 elt HZ2.out
    go_wp2_with fail
    refine ha1.mono ?_
    rintro e w2 ⟨rfl, hb2⟩
    have B2 := hB.trans (hb2.mono l1)
    have G2 := HG0.out.below B2
    have b0 := G2.b0
    have b1 := G2.b1
    have l2 := G2.lt
    have T2 := HT.out.below B2 (by omega)
    have ha2 := around_any n b off cap zs mo w2 G2.lb G2.cells T2 hl62 mlt HZ2.out
    clear hb2 ha1 hB G1 T1
    go_wp2_with fail
    refine ha2.mono ?_
    rintro e w3 ⟨rfl, hb3⟩
    have B3 := Lib.hid (B2.trans (hb3.mono l2))
    clear hb3 ha2 B2 G2 T2 b0 b1
    by_cases he : me = ev
    · by_cases ho : mo = od
      · have t1 : ((me : Int) == (ev : Int)) = true := by rw [beq_iff_eq]; omega
        have t2 : ((mo : Int) == (od : Int)) = true := by rw [beq_iff_eq]; omega
        have HD : Hid (p = (ev, od)) := by
          obtain ⟨k, e⟩ := HK.out
          refine HPP.out.uniq ⟨k, e, ?_⟩
          show (rEven zs (rIt zs v k).1 (rIt zs v k).2, rOdd zs (rIt zs v k).1 (rIt zs v k).2) = _
          rw [← e, ← HMO.out, ← HME.out, he, ho]
        clear he ho
        go_wp2
        go_ret2
        exact ⟨by rw [HD.out]; rfl, D0.trans (B3.out.mono (by simp))⟩
      · have t1 : ((me : Int) == (ev : Int)) = true := by rw [beq_iff_eq]; omega
        have t2 : ((mo : Int) == (od : Int)) = false := by rw [beq_eq_false_iff_ne]; omega
        have HN2 : Hid (∃ k, (me, mo) = rIt zs v k) := by
          obtain ⟨k, e⟩ := HK.out
          refine ⟨k + 1, ?_⟩
          show _ = (rEven zs (rIt zs v k).1 (rIt zs v k).2, rOdd zs (rIt zs v k).1 (rIt zs v k).2)
          rw [← e, ← HMO.out, ← HME.out]
        clear HN
        go_wp2
        go_roundw
        case rel => exact ⟨me, mo, by rw [he], rfl, HN2, B3.out⟩
        case measure => simp [intOf]; omega
    · have t1 : ((me : Int) == (ev : Int)) = false := by rw [beq_eq_false_iff_ne]; omega
      have HN2 : Hid (∃ k, (me, mo) = rIt zs v k) := by
        obtain ⟨k, e⟩ := HK.out
        refine ⟨k + 1, ?_⟩
        show _ = (rEven zs (rIt zs v k).1 (rIt zs v k).2, rOdd zs (rIt zs v k).1 (rIt zs v k).2)
        rw [← e, ← HMO.out, ← HME.out]
      clear HN
      go_wp2
      go_roundw
      case rel => exact ⟨me, mo, rfl, rfl, HN2, B3.out⟩
      case measure => simp [intOf]; omega

end Go.Proofs.YtlodaeoikkjbkaaDoor
namespace Go.Proofs.YtlodaeoikkjbkaaDoor
set_option maxRecDepth 100000
open Go.RowKit Go.Shelf

attribute [local go_sem] Oper.semAt_some

/-- What a round of a loop over the parts keeps: what lies below n₀, and the box of the graph. -/
def KpG (n₀ a : Nat) (W W' : World) : Prop := Below n₀ W W' ∧ W'.heap[a]? = W.heap[a]?
theorem KpG.tr {n₀ a : Nat} {A B C : World} (h : KpG n₀ a A B) (k : KpG n₀ a B C) : KpG n₀ a A C := ⟨h.1.trans k.1, k.2.trans h.2⟩
theorem KpG.put {n₀ a : Nat} {w : World} (h0 : n₀ ≤ w.heap.size) (ha : a < w.heap.size) (W : World) (l : Nat) (o o' : Obj) (hl : w.heap.size ≤ l) (h : W.heap[l]? = some o) (_ : o.isCells = false) (_ : o.isWalk = false) : KpG n₀ a W (W.putObj l o') := by
  have hlt := (Array.getElem?_eq_some_iff.1 h).1
  have hg := grownBy_putObj' W l o'
  exact ⟨(Below.refl n₀ W).grown hg (by omega) (fun k e => by cases e; omega), hg.block a (by omega) (fun e => by cases e; omega)⟩
theorem KpG.of_below {n₀ a B : Nat} {W W' : World} (h : Below B W W') (h0 : n₀ ≤ B) (ha : a < B) : KpG n₀ a W W' := ⟨h.mono h0, h.block a ha⟩

theorem take_finP {m k : Nat} (h : k < m) : (List.finRange m).take (k + 1) = (List.finRange m).take k ++ [⟨k, h⟩] := by
  rw [List.take_succ_eq_append_getElem (by simpa using h)]
  congr 1
  simp
theorem u64_same (x : Nat) (h : x < 2 ^ 62) : IntKind.u64.wrap (x : Int) = (x : Int) := by rw [IntKind.wrap_u64]; omega

theorem lo_lt {zs : List Int} {F : Nat → Nat × Nat} {k : Nat} (h62 : zs.length ≤ 62) (h0 : lfN zs.length F k ≠ 0) : lo (lfN zs.length F k) < zs.length := by
  have hlt := lfN_lt (zs := zs) (F := F) k
  exact bit_lt hlt (lo_bit h0 (Nat.lt_of_lt_of_le hlt (Nat.pow_le_pow_right (by decide) (by omega))))

set_option maxRecDepth 100000 in
set_option maxHeartbeats 4000000 in
theorem parts1_in (n : Nat) (hn : 1 ≤ n) (l B a n₀ b off cap : Nat) (zs : List Int) (F : Nat → Nat × Nat) (p : Nat) (hg : isG zs.length zs = true) (hF : ∀ v, v < zs.length → RD zs v (F v)) (hp : PN zs.length F p) (J Jx : List (Fin p) → World → Prop) (hA : AbidesFrom B J)
    (hY : ∀ pre (x : Fin p) W, J pre W → pre.length < p → YieldAt Fence.wide (n - 1) Tryd.prog l #[.int .i64 ((F (lo (lfN zs.length F x.1))).1 : Nat), .int .i64 ((F (lo (lfN zs.length F x.1))).2 : Nat)] W fun e W' =>
      (e = .returned (.bool true) ∧ J (pre ++ [x]) W' ∧ KpG n₀ a W W') ∨ (e = .returned (.bool false) ∧ Jx (pre ++ [x]) W'))
    (W : World) (ha : W.heap[a]? = some (.cells #[.int .i64 zs.length, .slice (some ⟨b, off, none⟩) zs.length cap] 28 (0, 0))) (hb : b < n₀) (hc : Cells W b off zs) (hT : Tab W) (hT0 : 0 < n₀) (hn0 : n₀ ≤ W.heap.size) (h0 : J [] W) :
    CallsIn Fence.wide n Tryd.prog 85 #[.func (.yield l) #[] #[], .pointer (some ⟨a, 0, none⟩)] W fun e W' => (∃ v, e = .returned v) ∧
      ((∃ ys, ys = List.finRange p ∧ J ys W') ∨ (∃ pre, pre <+: List.finRange p ∧ Jx pre W')) := by
  obtain ⟨g1, g2, g3, g4, -⟩ := isG_parts hg
  have h62 : zs.length ≤ 62 := by omega
  have hzn : ∀ i, i < zs.length → 0 ≤ el zs i ∧ (el zs i).toNat < 2 ^ zs.length := fun i hi => by
    have q0 := (isG_row_ok hg i hi).1
    have q1 := rowOk_le (rowsOk_at g4 hi)
    rw [← g3, Int.toNat_natCast] at q1
    have e : ((2 : Int) ^ zs.length) = ((2 ^ zs.length : Nat) : Int) := by simp
    rw [e] at q1
    omega
  have hp62 : 2 ^ zs.length ≤ 2 ^ 62 := Nat.pow_le_pow_right (by decide) h62
  have hav := fun W => allV_any zs.length W (by omega) (by omega)
  rw [Int.toNat_natCast] at hav
  have e0 : (2 : Int) ^ zs.length - 1 = ((lfN zs.length F 0 : Nat) : Int) := by
    have h1 : lfN zs.length F 0 = 2 ^ zs.length - 1 := rfl
    have h2 := Nat.two_pow_pos zs.length
    have e : ((2 : Int) ^ zs.length) = ((2 ^ zs.length : Nat) : Int) := by simp
    rw [h1, e]; omega
  rw [e0] at hav
  have HA := Lib.hid hA; have HY := Lib.hid hY; have HF := Lib.hid hF; have HPN := Lib.hid hp; have HG := Lib.hid hg; have HAV := Lib.hid hav
  have HZ : Hid (∀ i, i < zs.length → (el zs i).toNat < 2 ^ zs.length) := fun i hi => (hzn i hi).2
  obtain ⟨a0, a1, -, -⟩ := two_cells ha
  have HAA := Lib.hid ha; have HC := Lib.hid hc; have HT := Lib.hid hT
  have haW : a < W.heap.size := (Array.getElem?_eq_some_iff.1 ha).1
  clear hA hY ha hc hF hp hg hav hT e0 hzn g3 g4
  refine callsIn_of_wp Tryd.func85 rfl trivial ?_ rfl
  simp only [Tryd.ntmps85, List.size_toArray, List.length_cons, List.length_nil, Nat.reduceAdd, Nat.reduceSub, Array.replicate_succ, Array.replicate_zero, List.push_toArray, List.append_toArray, List.nil_append, List.cons_append]
  gi_wp2_with (refine ⟨trivial, ?_⟩; gi_at_call 64; refine (callsIn_wide.2 (HAV.out _)).mono ?_; rintro e w5 ⟨rfl, rfl⟩)
  gi_loopw [3, 4, 5] (fun v _ _ wr => ∃ k : Nat, k ≤ p ∧ v = .int .i64 (lfN zs.length F k : Nat) ∧ J ((List.finRange p).take k) wr ∧ KpG n₀ a W wr ∧ n₀ ≤ wr.heap.size) (fun v _ _ _ => (intOf v).toNat)
  case atStart =>
    exact ⟨0, Nat.zero_le _, rfl, by simpa using h0, ⟨Below.refl _ _, rfl⟩, hn0⟩
  case round =>
    clear a0 a1 h0
    obtain ⟨k, hk, rfl, hJ, hK, hs⟩ := hrel
    have HAr : Hid (wr.heap[a]? = some (.cells #[.int .i64 zs.length, .slice (some ⟨b, off, none⟩) zs.length cap] 28 (0, 0))) := hK.2.trans HAA.out
    have hl := lfN_lt (zs := zs) (F := F) k
    by_cases hkp : k < p
    · have hne := HPN.out.2 k hkp
      have hlo := lo_lt h62 hne
      have hx64 : lfN zs.length F k < 18446744073709551616 := by omega
      have hTr : Tab wr := HT.out.below hK.1 hT0
      have HTZ : Hid (∀ W1, Below wr.heap.size wr W1 → Calls Tryd.prog 68 #[.int .i64 (lfN zs.length F k)] W1 fun e w' => e = .returned (.int .i64 (lo (lfN zs.length F k))) ∧ W1 = w') := fun W1 h => first_any (lfN zs.length F k) (by omega) hne W1 (hTr.belowAll h)
      have hRD := HF.out _ hlo
      have hcw : Cells wr b off zs := HC.out.below hK.1 hb
      have HRE : Hid (∀ W1, Below wr.heap.size wr W1 → Calls Tryd.prog 86 #[.agg #[.int .i64 zs.length, .slice (some ⟨b, off, none⟩) zs.length cap], .int .i64 (lo (lfN zs.length F k))] W1 fun e w' => e = .returned (.tuple #[.int .i64 (F (lo (lfN zs.length F k))).1, .int .i64 (F (lo (lfN zs.length F k))).2]) ∧ Below W1.heap.size W1 w') := fun W1 h => reachedF_some zs.length b off cap zs (lo (lfN zs.length F k)) W1 (Nat.lt_of_lt_of_le (show b < wr.heap.size by omega) h.size) (hcw.below h (by omega)) (hTr.belowAll h) HG.out hlo _ hRD
      have hinv := hRD.inv hlo h62 HZ.out
      have HYY : Hid (∀ W1, J ((List.finRange p).take k) W1 → YieldAt Fence.wide (n - 1) Tryd.prog l #[.int .i64 ((F (lo (lfN zs.length F k))).1 : Nat), .int .i64 ((F (lo (lfN zs.length F k))).2 : Nat)] W1 fun e W' => (e = .returned (.bool true) ∧ J ((List.finRange p).take (k + 1)) W' ∧ KpG n₀ a W1 W') ∨ (e = .returned (.bool false) ∧ Jx ((List.finRange p).take (k + 1)) W')) := fun W1 h1 => by
        have h := HY.out _ ⟨k, hkp⟩ W1 h1 (by simp; omega)
        rw [← take_finP hkp] at h
        exact h
      have HSU : Hid (lfN zs.length F (k + 1) = anot (lfN zs.length F k) ((F (lo (lfN zs.length F k))).1 ||| (F (lo (lfN zs.length F k))).2)) := rfl
      have HDEC : Hid (lfN zs.length F (k + 1) < lfN zs.length F k) := by
        show _ < _
        rw [HSU.out]
        have hbit := lo_bit hne (by omega)
        refine Nat.lt_of_le_of_ne ?_ fun e => ?_
        · refine Nat.le_of_testBit fun i hi => ?_
          rw [anot_bit, Bool.and_eq_true] at hi; exact hi.1
        · have h2 := congrArg (fun y : Nat => y.testBit (lo (lfN zs.length F k))) e
          simp only [anot_bit, hbit, Bool.true_and] at h2
          rw [Nat.testBit_or, hinv.at0] at h2
          simp at h2
      generalize lfN zs.length F k = x at *
      generalize lo x = v at *
      generalize (F v).1 = f1 at *
      generalize (F v).2 = f2 at *
      have hu := u64_same x (by omega)
      have hxne : ((x : Int) != 0) = true := by rw [bne_iff_ne]; omega
      have hor := or_i64 f1 f2 (Nat.lt_of_lt_of_le hinv.elt (by omega)) (Nat.lt_of_lt_of_le hinv.olt (by omega))
      have han := andNot_nat x (f1 ||| f2) (by omega)
      have a0 := (two_cells HAr.out).1; have a1 := (two_cells HAr.out).2.1
      have HSU2 := Lib.hid HSU.out.symm
      clear hRD hinv hne hcw hTr hlo
      have hmix := mixed
      gi_wp2
      gi_cut [4, 5] from 11 (fun s t wx => s = .int .i64 f1 ∧ t = .int .i64 f2 ∧ Below wr.heap.size wr wx)
      case first =>
        gi_region_with_o (first
          | (refine ⟨trivial, ?_⟩; gi_at_call 68; refine (callsIn_wide.2 (HTZ.out _ (Below.refl _ _).drew)).mono ?_; rintro e w' ⟨rfl, rfl⟩)
          | (refine ⟨trivial, ?_⟩; gi_at_call 86; refine (callsIn_wide.2 (HRE.out _ (Below.refl _ _).drew)).mono ?_; rintro e w5 ⟨rfl, hb5⟩))
        all_goals
          gi_wp2_with fail
          gi_meet
          exact ⟨rfl, rfl, (Below.refl _ _).drew.trans (hb5.mono (Nat.le_refl _))⟩
      case rest =>
        obtain ⟨rfl, rfl, hb5⟩ := hcut
        obtain ⟨fn, tmps, assign, body, hyy, hRR⟩ := HYY.out _ (HA.out _ _ _ none hJ (grown_of_below hb5 none) (fun r e => by cases e))
        gi_wp2
        refine hRR.mono ?_
        rintro e W3 (⟨rfl, hJ3, hk3⟩ | ⟨rfl, hJx3⟩)
        · have hK3 : KpG n₀ a W W3 := (hK.tr (KpG.of_below hb5 hs (Array.getElem?_eq_some_iff.1 HAr.out).1)).tr hk3
          have hs3 : n₀ ≤ W3.heap.size := Nat.le_trans (Nat.le_trans hs hb5.size) hk3.1.size
          have HOR := Lib.hid hor; have HAN := Lib.hid han
          gi_wp2
          go_roundw
          case rel => exact ⟨k + 1, hkp, by first | rw [HSU2.out] | (rw [HOR.out, HAN.out, HSU2.out]), hJ3, hK3, hs3⟩
          case measure =>
            have h := HDEC.out
            rw [HSU.out] at h
            show ((anot x (f1 ||| f2) : Nat) : Int).toNat < ((x : Nat) : Int).toNat
            omega
        · gi_wp2
          refine bodyPost_ret (results_none rfl _ _ _) rfl ?_
          exact ⟨⟨_, rfl⟩, .inr ⟨_, List.take_prefix _ _, hJx3⟩⟩
    · obtain rfl : k = p := by omega
      have e1 := HPN.out.1
      rw [e1]
      rw [List.take_of_length_le (by simp)] at hJ
      gi_wp2
      go_end0
      exact ⟨⟨_, rfl⟩, .inl ⟨_, rfl, hJ⟩⟩
end Go.Proofs.YtlodaeoikkjbkaaDoor
