/-
  What ParametersOf answers, and what the model's loops keep, plain.
-/
import Derived.Test.YthlchifmmmnagaaDoorCnp
import Derived.Test.YthlchifmmmnagaaDoorCoS
import Derived.Test.YthlchifmmmnagaaDoorLm
import Derived.Test.YthlchifmmmnagaaDoorPe7
namespace Go.Proofs.YthlchifmmmnagaaDoor
set_option maxRecDepth 100000
open Go.RowKit Go.Shelf

/-- A row of the complement. -/
theorem cn_bt {zs : List Int} (hg : isG (zs.length : Int) zs = true) {v : Nat} (hv : v < zs.length) (w : Nat) : bt (el (compL zs.length zs) v) w = (decide (w < zs.length) && !bt (el zs v) w && !decide (w = v)) ∧ 0 ≤ el (compL zs.length zs) v ∧ (el (compL zs.length zs) v).toNat < 2 ^ zs.length := by
  obtain ⟨h1, h2, -, h4, -⟩ := isG_parts hg
  have hl : zs.length ≤ 62 := by omega
  have h := rowsOk_at h4 hv
  have h0 := rowOk_ge h
  have h1' := rowOk_le h
  have hnot := rowOk_not h
  rw [Int.toNat_natCast] at h1'
  obtain ⟨k, hk⟩ := Int.eq_ofNat_of_zero_le h0
  have e : ((2 : Int) ^ zs.length) = ((2 ^ zs.length : Nat) : Int) := by simp
  have hkl : k < 2 ^ zs.length := by rw [e] at h1'; omega
  have hp : 2 ^ zs.length ≤ 2 ^ 62 := Nat.pow_le_pow_right (by decide) hl
  obtain ⟨y, hy⟩ : ∃ y, y = 2 ^ zs.length - (k + 1) := ⟨_, rfl⟩
  have hyb : ∀ i, y.testBit i = (decide (i < zs.length) && !k.testBit i) := fun i => by rw [hy, Nat.testBit_two_pow_sub_succ hkl]
  have hbv : k.testBit v = false := by unfold bt at hnot; rw [hk, Int.toNat_natCast] at hnot; exact hnot
  have hyv : bt (y : Int) v = true := by unfold bt; rw [Int.toNat_natCast, hyb, hbv]; simp [hv]
  have hcut := por_cut (z := (y : Int)) (b := v) (by omega) (by omega) (by omega) hyv
  have hpor : por (y : Int) v = y := by
    unfold por; rw [Int.toNat_natCast]; congr 1
    apply Nat.eq_of_testBit_eq; intro i
    rw [Nat.testBit_or, Nat.testBit_two_pow]
    by_cases hi : v = i
    · subst hi; unfold bt at hyv; rw [Int.toNat_natCast] at hyv; simp [hyv]
    · simp [hi]
  rw [hpor] at hcut
  have hel : el (compL zs.length zs) v = flip (y : Int) v := by
    rw [el_compL _ _ _ hv, cm_len, hk, ← hcut, hy, e]; omega
  have hf0 : (0 : Int) ≤ flip (y : Int) v := by unfold flip; omega
  have h2v : (0 : Int) ≤ 2 ^ v := Int.le_of_lt (Int.pow_pos (by decide))
  refine ⟨?_, by rw [hel]; exact hf0, by rw [hel, ← hcut]; omega⟩
  rw [hel, hk]
  unfold bt flip
  rw [Int.toNat_natCast, Int.toNat_natCast, Int.toNat_natCast, Nat.testBit_xor, Nat.testBit_two_pow, hyb]
  by_cases e1 : v = w
  · subst e1; simp [hv, hbv]
  · have : ¬ w = v := fun h => e1 h.symm
    simp [e1, this]

theorem co_isG {zs : List Int} (hg : isG (zs.length : Int) zs = true) : isG (zs.length : Int) (compL zs.length zs) = true := by
  obtain ⟨h1, h2, -, -, -⟩ := isG_parts hg
  refine isG_mk h1 h2 (by rw [compL_length]) ?_ ?_
  · unfold rowsOk
    rw [List.all_eq_true, compL_length]
    intro i hi
    obtain ⟨a, b, c⟩ := cn_bt hg (List.mem_range.1 hi) i
    refine rowOk_mk b ?_ (by rw [a]; simp)
    rw [Int.toNat_natCast]
    have e : ((2 : Int) ^ zs.length) = ((2 ^ zs.length : Nat) : Int) := by simp
    rw [e]; omega
  · unfold symTo symAt
    rw [List.all_eq_true, compL_length]
    intro i hi
    rw [List.all_eq_true]
    intro j hj
    have hi' := List.mem_range.1 hi
    have hj' : j < zs.length := Nat.lt_trans (List.mem_range.1 hj) hi'
    rw [(cn_bt hg hi' j).1, (cn_bt hg hj' i).1, isG_symm hg hi' hj']
    simp [hi', hj', eq_comm]

/-- The pairs that are neighbours (true), and those that are not. -/
def kdL (zs : List Int) (kd : Bool) : List (Nat × Nat) := if kd then edL zs else edL (compL zs.length zs)
theorem mem_kd {zs : List Int} (hg : isG (zs.length : Int) zs = true) {kd : Bool} {a b : Nat} : (a, b) ∈ kdL zs kd ↔ a < b ∧ b < zs.length ∧ bt (el zs b) a = kd := by
  obtain ⟨h1, h2, -, h4, -⟩ := isG_parts hg
  have hrow : ∀ i, i < zs.length → ∀ j, bt (el zs i) j = true → j < zs.length := fun i hi j hj => by
    refine Nat.lt_of_not_le fun hle => ?_
    have h := rowsOk_at h4 hi
    have q1 := rowOk_le h
    have q0 := rowOk_ge h
    rw [Int.toNat_natCast] at q1
    have e : ((2 : Int) ^ zs.length) = ((2 ^ zs.length : Nat) : Int) := by simp
    rw [e] at q1
    unfold bt at hj
    rw [Nat.testBit_lt_two_pow (Nat.lt_of_lt_of_le (show (el zs i).toNat < 2 ^ zs.length by omega) (Nat.pow_le_pow_right (by decide) hle))] at hj
    cases hj
  cases kd with
  | true =>
    show (a, b) ∈ edL zs ↔ _
    rw [edL_mem]
    constructor
    · rintro ⟨q1, q2, q3, q4⟩
      have hb := hrow a q1 b q4
      exact ⟨q3, hb, (isG_symm hg q1 hb).trans q4⟩
    · rintro ⟨q1, q2, q3⟩
      exact ⟨by omega, by omega, q1, (isG_symm hg q2 (by omega)).trans q3⟩
  | false =>
    show (a, b) ∈ edL (compL zs.length zs) ↔ _
    rw [edL_mem, compL_length]
    constructor
    · rintro ⟨q1, q2, q3, q4⟩
      rw [(cn_bt hg q1 b).1] at q4
      simp only [Bool.and_eq_true, decide_eq_true_eq, Bool.not_eq_true', decide_eq_false_iff_not] at q4
      exact ⟨q3, q4.1.1, (isG_symm hg q1 q4.1.1).trans q4.1.2⟩
    · rintro ⟨q1, q2, q3⟩
      refine ⟨by omega, by omega, q1, ?_⟩
      rw [(cn_bt hg (show a < zs.length by omega) b).1, isG_symm hg q2 (show a < zs.length by omega), q3]
      simp [q2]; omega

theorem cF_comm (zs : List Int) (a b : Nat) : cF zs (a, b) = cF zs (b, a) := by unfold cF; rw [Nat.and_comm]

/-- The pairs before (v, w), and what the model's number of a kind says of them. -/
def Dp (v w a b : Nat) : Prop := b < a ∧ (a < v ∨ (a = v ∧ b < w))
def CI (zs : List Int) (kd : Bool) (v w : Nat) (c : Int) : Prop :=
  (c = -1 ∧ ∀ a b, Dp v w a b → bt (el zs a) b = kd → False) ∨
  (∃ m : Nat, c = m ∧ (∃ a b, Dp v w a b ∧ bt (el zs a) b = kd ∧ cF zs (a, b) = m) ∧ ∀ a b, Dp v w a b → bt (el zs a) b = kd → cF zs (a, b) = m)
theorem CI.start (zs : List Int) (kd : Bool) : CI zs kd 0 0 (-1) := .inl ⟨rfl, fun a b h _ => by have := h.2; omega⟩
theorem CI.conv {zs : List Int} {kd : Bool} {v w v' w' : Nat} {c : Int} (h : CI zs kd v w c) (e : ∀ a b, Dp v w a b ↔ Dp v' w' a b) : CI zs kd v' w' c := by
  rcases h with ⟨h1, h2⟩ | ⟨m, h1, ⟨a, b, h2, h3, h4⟩, h5⟩
  · exact .inl ⟨h1, fun a b h => h2 a b ((e a b).2 h)⟩
  · exact .inr ⟨m, h1, ⟨a, b, (e a b).1 h2, h3, h4⟩, fun a b h => h5 a b ((e a b).2 h)⟩
theorem CI.row {zs : List Int} {kd : Bool} {v : Nat} {c : Int} (h : CI zs kd v v c) : CI zs kd (v + 1) 0 c := h.conv fun a b => by unfold Dp; omega
theorem Dp_succ {v w a b : Nat} (hw : w < v) : Dp v (w + 1) a b ↔ Dp v w a b ∨ (a = v ∧ b = w) := by unfold Dp; omega
theorem CI.other {zs : List Int} {kd : Bool} {v w : Nat} {c : Int} (h : CI zs kd v w c) (hw : w < v) (hne : bt (el zs v) w = !kd) : CI zs kd v (w + 1) c := by
  have hn : ¬ bt (el zs v) w = kd := by rw [hne]; cases kd <;> simp
  rcases h with ⟨h1, h2⟩ | ⟨m, h1, ⟨a, b, h2, h3, h4⟩, h5⟩
  · refine .inl ⟨h1, fun a b h hk => ?_⟩
    rcases (Dp_succ hw).1 h with h | ⟨rfl, rfl⟩
    · exact h2 a b h hk
    · exact hn hk
  · refine .inr ⟨m, h1, ⟨a, b, (Dp_succ hw).2 (.inl h2), h3, h4⟩, fun a b h hk => ?_⟩
    rcases (Dp_succ hw).1 h with h | ⟨rfl, rfl⟩
    · exact h5 a b h hk
    · exact absurd hk hn
theorem CI.put {zs : List Int} {kd : Bool} {v w : Nat} {c : Int} (h : CI zs kd v w c) (hw : w < v) (he : bt (el zs v) w = kd) (hc : c < 0 ∨ c = cF zs (v, w)) : CI zs kd v (w + 1) (cF zs (v, w)) := by
  refine .inr ⟨_, rfl, ⟨v, w, (Dp_succ hw).2 (.inr ⟨rfl, rfl⟩), he, rfl⟩, fun a b hd hk => ?_⟩
  rcases (Dp_succ hw).1 hd with hd | ⟨rfl, rfl⟩
  · rcases h with ⟨h1, h2⟩ | ⟨m, h1, h2, h5⟩
    · exact (h2 a b hd hk).elim
    · have := h5 a b hd hk
      omega
  · rfl
theorem CI.bad {zs : List Int} (hg : isG (zs.length : Int) zs = true) {kd : Bool} {v w : Nat} {c : Int} (h : CI zs kd v w c) (hv : v < zs.length) (hw : w < v) (he : bt (el zs v) w = kd) (hc : 0 ≤ c) (hn : c ≠ cF zs (v, w)) : alk zs (kdL zs kd) = false := by
  rcases h with ⟨h1, h2⟩ | ⟨m, h1, ⟨a, b, h2, h3, h4⟩, h5⟩
  · omega
  · cases e : alk zs (kdL zs kd) with
    | false => rfl
    | true =>
      have hd := h2
      unfold Dp at hd
      have := alk_iff.1 e (w, v) (b, a) ((mem_kd hg).2 ⟨hw, hv, he⟩) ((mem_kd hg).2 ⟨hd.1, by omega, h3⟩)
      rw [cF_comm zs w v, cF_comm zs b a, h4] at this
      omega
theorem CI.whole {zs : List Int} (hg : isG (zs.length : Int) zs = true) {kd : Bool} {c : Int} (h : CI zs kd zs.length 0 c) (hne : neB (kdL zs kd) = true) : c = cmR zs (kdL zs kd) ∧ cmB zs (kdL zs kd) = true := by
  have hd : ∀ {a b}, (a, b) ∈ kdL zs kd → Dp zs.length 0 b a ∧ bt (el zs b) a = kd := fun hm => by
    obtain ⟨q1, q2, q3⟩ := (mem_kd hg).1 hm
    exact ⟨⟨q1, .inl q2⟩, q3⟩
  obtain ⟨p, hp⟩ : ∃ p, p ∈ kdL zs kd := by
    cases e : kdL zs kd with
    | nil => rw [e] at hne; cases hne
    | cons p r => exact ⟨p, List.mem_cons_self⟩
  rcases h with ⟨h1, h2⟩ | ⟨m, h1, -, h5⟩
  · exact (h2 _ _ (hd (a := p.1) (b := p.2) hp).1 (hd (a := p.1) (b := p.2) hp).2).elim
  · have key : ∀ q, q ∈ kdL zs kd → cF zs q = m := fun q hq => by
      have := h5 q.2 q.1 (hd (a := q.1) (b := q.2) hq).1 (hd (a := q.1) (b := q.2) hq).2
      rw [cF_comm] at this; exact this
    have ha : alk zs (kdL zs kd) = true := alk_iff.2 fun a b h1 h2 => by rw [key a h1, key b h2]
    refine ⟨?_, by unfold cmB; rw [ha, hne]; rfl⟩
    unfold cmR
    rw [if_pos ha, h1, ← cmN_mem ha hp, key p hp]

/-- The degree says whether there are pairs of a kind. -/
theorem few_len {r n : Nat} (hr : r < 2 ^ n) (hn : n ≤ 64) : pc r + ((List.range n).filter fun j => !r.testBit j).length = n := by
  rw [pc_few hr hn]
  have : ∀ l : List Nat, (l.filter fun j => r.testBit j).length + (l.filter fun j => !r.testBit j).length = l.length := fun l => by
    induction l with
    | nil => rfl
    | cons a l ih => cases h : r.testBit a <;> simp [h] <;> omega
  rw [this, List.length_range]
theorem nat_row {zs : List Int} (hg : isG (zs.length : Int) zs = true) {v : Nat} (hv : v < zs.length) : (el zs v).toNat < 2 ^ zs.length ∧ bt (el zs v) v = false := by
  obtain ⟨h1, h2, -, h4, -⟩ := isG_parts hg
  have h := rowsOk_at h4 hv
  have q1 := rowOk_le h
  have q0 := rowOk_ge h
  rw [Int.toNat_natCast] at q1
  have e : ((2 : Int) ^ zs.length) = ((2 ^ zs.length : Nat) : Int) := by simp
  rw [e] at q1
  exact ⟨by omega, rowOk_not h⟩
theorem neB_iff {ps : List (Nat × Nat)} : neB ps = true ↔ ∃ a b, (a, b) ∈ ps := by
  cases ps with
  | nil => simp [neB]
  | cons p r => exact ⟨fun _ => ⟨p.1, p.2, List.mem_cons_self⟩, fun _ => rfl⟩
theorem same_dg {zs : List Int} (h : same zs zs.length = true) {v : Nat} (hv : v < zs.length) : dg zs v = dg zs 0 := eq_of_beq (List.all_eq_true.1 h v (List.mem_range.2 hv))
theorem dg_pc (zs : List Int) (v : Nat) : dg zs v = pc (el zs v).toNat := by unfold dg; rfl
theorem kd_row {zs : List Int} (hg : isG (zs.length : Int) zs = true) {kd : Bool} {v w : Nat} (hv : v < zs.length) (hw : w < zs.length) (hne : w ≠ v) (h : bt (el zs v) w = kd) : neB (kdL zs kd) = true := by
  rcases Nat.lt_or_ge w v with hlt | hge
  · exact neB_iff.2 ⟨w, v, (mem_kd hg).2 ⟨hlt, hv, h⟩⟩
  · exact neB_iff.2 ⟨v, w, (mem_kd hg).2 ⟨by omega, hw, (isG_symm hg hv hw).trans h⟩⟩
theorem edges_dg {zs : List Int} (hg : isG (zs.length : Int) zs = true) (hs : same zs zs.length = true) : neB (kdL zs true) = true ↔ 1 ≤ dg zs 0 := by
  obtain ⟨h1, h2, -, -, -⟩ := isG_parts hg
  constructor
  · intro h
    obtain ⟨a, b, hm⟩ := neB_iff.1 h
    obtain ⟨q1, q2, q3⟩ := (mem_kd hg).1 hm
    rw [← same_dg hs q2, dg_pc, pc_few (nat_row hg q2).1 (by omega)]
    exact List.length_pos_of_mem (List.mem_filter.2 ⟨List.mem_range.2 (show a < zs.length by omega), q3⟩)
  · intro h
    have h0 : 0 < zs.length := by omega
    rw [dg_pc, pc_few (nat_row hg h0).1 (by omega)] at h
    obtain ⟨a, ha⟩ := List.exists_mem_of_length_pos h
    obtain ⟨q1, q2⟩ := List.mem_filter.1 ha
    refine kd_row hg h0 (List.mem_range.1 q1) (fun e => ?_) (show bt (el zs 0) a = true from q2)
    subst e
    have := (nat_row hg h0).2
    unfold bt at this
    rw [this] at q2; cases q2
theorem apart_dg {zs : List Int} (hg : isG (zs.length : Int) zs = true) (hs : same zs zs.length = true) : neB (kdL zs false) = true ↔ dg zs 0 + 1 ≠ zs.length := by
  obtain ⟨h1, h2, -, -, -⟩ := isG_parts hg
  constructor
  · intro h e
    obtain ⟨a, b, hm⟩ := neB_iff.1 h
    obtain ⟨q1, q2, q3⟩ := (mem_kd hg).1 hm
    have hf := few_len (nat_row hg q2).1 (by omega)
    rw [← dg_pc, same_dg hs q2] at hf
    have m1 : a ∈ (List.range zs.length).filter fun j => !(el zs b).toNat.testBit j := List.mem_filter.2 ⟨List.mem_range.2 (by omega), by unfold bt at q3; rw [q3]; rfl⟩
    have m2 : b ∈ (List.range zs.length).filter fun j => !(el zs b).toNat.testBit j := List.mem_filter.2 ⟨List.mem_range.2 q2, by have := (nat_row hg q2).2; unfold bt at this; rw [this]; rfl⟩
    generalize (List.range zs.length).filter (fun j => !(el zs b).toNat.testBit j) = l at *
    match l, hf with
    | [], _ => cases m1
    | [x], _ => simp at m1 m2; omega
    | _ :: _ :: _, hf => simp at hf; omega
  · intro h
    have h0 : 0 < zs.length := by omega
    have hf := few_len (nat_row hg h0).1 (by omega)
    rw [← dg_pc] at hf
    have m2 : 0 ∈ (List.range zs.length).filter fun j => !(el zs 0).toNat.testBit j := List.mem_filter.2 ⟨List.mem_range.2 h0, by have := (nat_row hg h0).2; unfold bt at this; rw [this]; rfl⟩
    have hnd : ((List.range zs.length).filter fun j => !(el zs 0).toNat.testBit j).Nodup := List.nodup_range.filter _
    have key : ∀ x, x ∈ ((List.range zs.length).filter fun j => !(el zs 0).toNat.testBit j) → x < zs.length ∧ bt (el zs 0) x = false := fun x hx => by
      obtain ⟨q1, q2⟩ := List.mem_filter.1 hx
      exact ⟨List.mem_range.1 q1, by unfold bt; simpa using q2⟩
    generalize (List.range zs.length).filter (fun j => !(el zs 0).toNat.testBit j) = l at *
    match l, hf, m2, hnd, key with
    | [], _, m2, _, _ => cases m2
    | [x], hf, _, _, _ => simp at hf; omega
    | x :: y :: r, _, _, hnd, key =>
      have hxy : x ≠ y := fun e => by subst e; simp at hnd
      by_cases hx : x = 0
      · obtain ⟨k1, k2⟩ := key y (by simp)
        exact kd_row hg h0 k1 (by omega) k2
      · obtain ⟨k1, k2⟩ := key x (by simp)
        exact kd_row hg h0 k1 hx k2

/-- The answer of ParametersOf. -/
def okP (zs : List Int) : Bool := same zs zs.length && cmB zs (kdL zs true) && cmB zs (kdL zs false)
def PML (n : Int) (zs : List Int) : List Int := if isG n zs then (if okP zs then [n, dg zs 0, cmR zs (kdL zs true), cmR zs (kdL zs false)] else []) else []
def PMC (n : Int) (zs : List Int) : Int := if isG n zs then (if okP zs then 0 else 4) else 1
theorem okP_yes {zs : List Int} (h1 : same zs zs.length = true) (h2 : cmB zs (kdL zs true) = true) (h3 : cmB zs (kdL zs false) = true) : okP zs = true := by unfold okP; rw [h1, h2, h3]; rfl
theorem okP_no1 {zs : List Int} (h1 : same zs zs.length = false) : okP zs = false := by unfold okP; rw [h1]; rfl
theorem okP_no2 {zs : List Int} {kd : Bool} (h1 : cmB zs (kdL zs kd) = false) : okP zs = false := by unfold okP; cases kd <;> rw [h1] <;> simp
theorem cmB_no1 {zs : List Int} {ps : List (Nat × Nat)} (h : alk zs ps = false) : cmB zs ps = false := by unfold cmB; rw [h]; rfl
theorem cmB_no2 {zs : List Int} {ps : List (Nat × Nat)} (h : neB ps = false) : cmB zs ps = false := by unfold cmB; rw [h]; simp
theorem PML_length (n : Int) (zs : List Int) : (PML n zs).length ≤ 4 := by unfold PML; split <;> (try split) <;> simp
theorem cF_le (zs : List Int) (p : Nat × Nat) : cF zs p ≤ 64 := by unfold cF; exact pc_le _
theorem cmR_ok (zs : List Int) (ps : List (Nat × Nat)) : 0 ≤ cmR zs ps ∧ cmR zs ps ≤ 64 := by
  unfold cmR
  split
  · cases ps with
    | nil => unfold cmN; simp
    | cons p r => have := cF_le zs p; show (0 : Int) ≤ (cF zs p : Int) ∧ ((cF zs p : Nat) : Int) ≤ 64; omega
  · simp
end Go.Proofs.YthlchifmmmnagaaDoor
