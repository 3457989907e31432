/-
  Pairs that may be joined: plain facts.
-/
import Derived.Test.YtibpnemeehkdbaaDoorCy7
import Derived.Test.YtibpnemeehkdbaaDoorDeg
namespace Go.Proofs.YtibpnemeehkdbaaDoor
set_option maxRecDepth 100000
set_option maxRecDepth 100000
open Go.RowKit

theorem and_add_anot : ∀ (n a b : Nat), a < 2 ^ n → (a &&& b) + anot a b = a
  | 0, a, b, h => by
    obtain rfl : a = 0 := by simpa using h
    simp [anot]
  | n + 1, a, b, h => by
    have ih := and_add_anot n (a / 2) (b / 2) (by rw [Nat.pow_succ] at h; omega)
    unfold anot at ih ⊢
    have d1 : (a &&& b) / 2 = a / 2 &&& b / 2 := by have := @Nat.and_div_two_pow a b 1; simpa using this
    have d2 : (a ^^^ (a &&& b)) / 2 = a / 2 ^^^ (a / 2 &&& b / 2) := by have := @Nat.xor_div_two_pow a (a &&& b) 1; rw [← d1]; simpa using this
    have m1 : (a &&& b) % 2 = (a % 2) &&& (b % 2) := by have := @Nat.and_mod_two_pow a b 1; simpa using this
    have m2 : (a ^^^ (a &&& b)) % 2 = (a % 2) ^^^ ((a % 2) &&& (b % 2)) := by have := @Nat.xor_mod_two_pow a (a &&& b) 1; rw [← m1]; simpa using this
    have e1 := Nat.div_add_mod (a &&& b) 2
    have e2 := Nat.div_add_mod (a ^^^ (a &&& b)) 2
    have e3 := Nat.div_add_mod a 2
    rw [d1] at e1
    rw [d2] at e2
    have hs : (a &&& b) % 2 + (a ^^^ (a &&& b)) % 2 = a % 2 := by
      rw [m1, m2]
      rcases Nat.mod_two_eq_zero_or_one a with ha | ha <;> rcases Nat.mod_two_eq_zero_or_one b with hb | hb <;> rw [ha, hb] <;> rfl
    omega
theorem sub_and (a b : Nat) : (a : Int) - ((a &&& b : Nat) : Int) = ((anot a b : Nat) : Int) := by
  obtain ⟨n, hn⟩ : ∃ n, a < 2 ^ n := ⟨a, Nat.lt_two_pow_self⟩
  have := and_add_anot n a b hn
  omega

theorem el_at_lt {zs : List Int} {i : Nat} (h : i < zs.length) : el zs i = zs[i] := by unfold el; simp [h]
theorem el_flip {hs : List Int} {a b i : Nat} (ha : a < hs.length) (hb : b < hs.length) (hi : i < hs.length) : el (flipL hs a b) i = if i = b then flip (el hs b) a else if i = a then flip (el hs a) b else el hs i := by
  unfold flipL
  rw [el_at_lt (by simpa using hi)]
  by_cases e1 : i = b
  · subst e1; simp
  · have e1' : ¬ b = i := fun e => e1 e.symm
    by_cases e2 : i = a
    · subst e2; simp [e1, e1']
    · have e2' : ¬ a = i := fun e => e2 e.symm
      simp [e1, e1', e2, e2', el_at_lt hi]
theorem bt_flip (z : Int) (b c : Nat) : bt (flip z b) c = (bt z c ^^ decide (b = c)) := by
  unfold bt flip
  rw [Int.toNat_natCast, Nat.testBit_xor, Nat.testBit_two_pow]
theorem isG_iff {n : Int} {zs : List Int} : isG n zs = true ↔ 1 ≤ n ∧ n ≤ 62 ∧ (zs.length : Int) = n ∧ (∀ i, i < zs.length → 0 ≤ el zs i ∧ (el zs i).toNat < 2 ^ zs.length ∧ bt (el zs i) i = false) ∧ (∀ i j, i < zs.length → j < zs.length → bt (el zs i) j = bt (el zs j) i) := by
  constructor
  · intro hg
    obtain ⟨h1, h2, h3, h4, -⟩ := isG_parts hg
    refine ⟨h1, h2, h3, fun i hi => ?_, fun i j hi hj => (isG_symm hg hj hi)⟩
    have q0 := rowsOk_at h4 hi
    have q1 := rowOk_le q0
    rw [← h3, Int.toNat_natCast] at q1
    have e : ((2 : Int) ^ zs.length) = ((2 ^ zs.length : Nat) : Int) := by simp
    rw [e] at q1
    have := rowOk_ge q0
    exact ⟨this, by omega, rowOk_not q0⟩
  · rintro ⟨h1, h2, h3, h4, h5⟩
    refine isG_mk h1 h2 h3 ?_ ?_
    · unfold rowsOk
      rw [List.all_eq_true]
      intro i hi
      obtain ⟨a, b, c⟩ := h4 i (List.mem_range.1 hi)
      refine rowOk_mk a ?_ c
      rw [← h3, Int.toNat_natCast]
      have e : ((2 : Int) ^ zs.length) = ((2 ^ zs.length : Nat) : Int) := by simp
      rw [e]; omega
    · unfold symTo symAt
      rw [List.all_eq_true]
      intro i hi
      rw [List.all_eq_true]
      intro j hj
      have h6 := List.mem_range.1 hi
      have h7 := List.mem_range.1 hj
      rw [h5 i j h6 (by omega)]; simp
theorem flip_lt {z : Int} {b m : Nat} (h : z.toNat < 2 ^ m) (hb : b < m) : 0 ≤ flip z b ∧ (flip z b).toNat < 2 ^ m := by
  unfold flip
  rw [Int.toNat_natCast]
  exact ⟨by omega, Nat.xor_lt_two_pow h (Nat.pow_lt_pow_right (by decide) hb)⟩
theorem isG_flip {n : Int} {hs : List Int} {a b : Nat} (hg : isG n hs = true) (ha : a < hs.length) (hb : b < hs.length) (hne : a ≠ b) : isG n (flipL hs a b) = true := by
  obtain ⟨h1, h2, h3, h4, h5⟩ := isG_iff.1 hg
  rw [isG_iff, flipL_length]
  refine ⟨h1, h2, h3, fun i hi => ?_, fun i j hi hj => ?_⟩
  · rw [el_flip ha hb hi]
    by_cases e1 : i = b
    · subst e1
      rw [if_pos rfl]
      obtain ⟨q1, q2⟩ := flip_lt (h4 i hi).2.1 ha
      exact ⟨q1, q2, by rw [bt_flip, (h4 i hi).2.2, decide_eq_false hne]; rfl⟩
    · rw [if_neg e1]
      by_cases e2 : i = a
      · subst e2
        rw [if_pos rfl]
        obtain ⟨q1, q2⟩ := flip_lt (h4 i hi).2.1 hb
        exact ⟨q1, q2, by rw [bt_flip, (h4 i hi).2.2, decide_eq_false (fun e => e1 e.symm)]; rfl⟩
      · rw [if_neg e2]; exact h4 i hi
  · have key : ∀ x y, x < hs.length → y < hs.length → bt (el (flipL hs a b) x) y = (bt (el hs x) y ^^ decide ((x = a ∧ y = b) ∨ (x = b ∧ y = a))) := by
      intro x y hx hy
      rw [el_flip ha hb hx]
      by_cases e1 : x = b
      · subst e1
        rw [if_pos rfl, bt_flip]
        congr 1
        exact decide_eq_decide.2 ⟨fun e => .inr ⟨rfl, e.symm⟩, fun e => by rcases e with ⟨e, _⟩ | ⟨_, e⟩; exact absurd e.symm hne; exact e.symm⟩
      · rw [if_neg e1]
        by_cases e2 : x = a
        · subst e2
          rw [if_pos rfl, bt_flip]
          congr 1
          exact decide_eq_decide.2 ⟨fun e => .inl ⟨rfl, e.symm⟩, fun e => by rcases e with ⟨_, e⟩ | ⟨e, _⟩; exact e.symm; exact absurd e e1⟩
        · rw [if_neg e2, decide_eq_false (by rintro (⟨e, _⟩ | ⟨e, _⟩); exact e2 e; exact e1 e)]
          simp
    rw [key i j hi hj, key j i hj hi, h5 i j hi hj]
    congr 1
    exact decide_eq_decide.2 ⟨fun e => e.elim (fun ⟨x, y⟩ => .inr ⟨y, x⟩) (fun ⟨x, y⟩ => .inl ⟨y, x⟩), fun e => e.elim (fun ⟨x, y⟩ => .inr ⟨y, x⟩) (fun ⟨x, y⟩ => .inl ⟨y, x⟩)⟩

theorem one_len7 (f : Nat → Bool) (m : Nat) : ([m].filter f).length = if f m then 1 else 0 := by cases h : f m <;> simp [h]
theorem pc_or7 (a p : Nat) (hp : p < 64) (ha : a.testBit p = false) : pc (a ||| 2 ^ p) = pc a + 1 := by
  have key : ∀ m, ((List.range m).filter fun j => (a ||| 2 ^ p).testBit j).length = ((List.range m).filter fun j => a.testBit j).length + if p < m then 1 else 0 := by
    intro m
    induction m with
    | zero => simp
    | succ m ih =>
      rw [List.range_succ, List.filter_append, List.filter_append, List.length_append, List.length_append, ih, one_len7, one_len7]
      have hb : (a ||| 2 ^ p).testBit m = (a.testBit m || decide (p = m)) := by rw [Nat.testBit_or, Nat.testBit_two_pow]
      rw [hb]
      by_cases e : p = m
      · subst e
        rw [ha]; simp
      · rw [decide_eq_false e, Bool.or_false]
        by_cases h : p < m
        · rw [if_pos h, if_pos (show p < m + 1 by omega)]; omega
        · rw [if_neg h, if_neg (show ¬ p < m + 1 by omega)]; omega
  have := key 64
  unfold pc
  rw [pcF_filter, pcF_filter, this, if_pos hp]
theorem dg_flip {hs : List Int} {a b i : Nat} (ha : a < hs.length) (hb : b < hs.length) (h62 : hs.length ≤ 62) (h1 : bt (el hs a) b = false) (h2 : bt (el hs b) a = false) (hi : i < hs.length) :
    dg (flipL hs a b) i ≤ dg hs i + (if i = a ∨ i = b then 1 else 0) := by
  have key : ∀ z : Int, ∀ c, c < 64 → bt z c = false → pc (flip z c).toNat = pc z.toNat + 1 := by
    intro z c hc hb
    have := por_flip hb
    rw [← this]
    unfold por
    rw [Int.toNat_natCast]
    exact pc_or7 _ _ hc hb
  unfold dg
  rw [el_flip ha hb hi]
  by_cases e1 : i = b
  · rw [if_pos e1, if_pos (.inr e1), key _ a (by omega) h2, e1]; exact Nat.le_refl _
  · rw [if_neg e1]
    by_cases e2 : i = a
    · rw [if_pos e2, if_pos (.inl e2), key _ b (by omega) h1, e2]; exact Nat.le_refl _
    · rw [if_neg e2]; omega

/-- Two different vertices of a graph that fits may be joined. -/
def mayB (hs : List Int) (k c : Int) (v w : Nat) : Bool := !bt (el hs v) w && decide ((dg hs v : Int) < k) && decide ((dg hs w : Int) < k) && decide (c ≤ cyc hs v w)
theorem mayB_parts {hs : List Int} {k c : Int} {v w : Nat} (h : mayB hs k c v w = true) : bt (el hs v) w = false ∧ (dg hs v : Int) < k ∧ (dg hs w : Int) < k ∧ c ≤ cyc hs v w := by
  unfold mayB at h
  simp only [Bool.and_eq_true, decide_eq_true_eq, Bool.not_eq_true'] at h
  exact ⟨h.1.1.1, h.1.1.2, h.1.2, h.2⟩

section
variable (Rf : List (Nat × Nat) → List Int) (k c : Int)
/-- The pairs behind q that are joined, of those of v and the vertices ahead of w. -/
def pjW (v : Nat) (q : List (Nat × Nat)) : Nat → List (Nat × Nat)
  | 0 => q
  | w + 1 => if decide (v < w) && mayB (Rf (pjW v q w)) k c v w then pjW v q w ++ [(v, w)] else pjW v q w
/-- Those of the first v vertices. -/
def pjV (n : Nat) : Nat → List (Nat × Nat)
  | 0 => []
  | v + 1 => pjW Rf k c v (pjV n v) n
end
variable {Rf : List (Nat × Nat) → List Int} {k c : Int}
theorem pjW_start (v : Nat) (q : List (Nat × Nat)) : ∀ w, w ≤ v + 1 → pjW Rf k c v q w = q
  | 0, _ => rfl
  | w + 1, h => by
    show (if _ then _ else _) = _
    rw [decide_eq_false (by omega : ¬ v < w), Bool.false_and, if_neg (by simp)]
    exact pjW_start v q w (by omega)
theorem pjW_yes {v w : Nat} {q : List (Nat × Nat)} (h : v < w) (hm : mayB (Rf (pjW Rf k c v q w)) k c v w = true) : pjW Rf k c v q (w + 1) = pjW Rf k c v q w ++ [(v, w)] := by
  show (if _ then _ else _) = _
  rw [hm, decide_eq_true h, Bool.true_and, if_pos rfl]
theorem pjW_no {v w : Nat} {q : List (Nat × Nat)} (hm : mayB (Rf (pjW Rf k c v q w)) k c v w = false) : pjW Rf k c v q (w + 1) = pjW Rf k c v q w := by
  show (if _ then _ else _) = _
  rw [hm, Bool.and_false, if_neg (by simp)]
/-- A vertex of the degree k is joined with none. -/
theorem pjW_stuck {v w : Nat} {q : List (Nat × Nat)} (hd : k ≤ (dg (Rf (pjW Rf k c v q w)) v : Int)) : ∀ m, pjW Rf k c v q (w + m) = pjW Rf k c v q w
  | 0 => rfl
  | m + 1 => by
    have ih := pjW_stuck hd m
    rw [← Nat.add_assoc, pjW_no, ih]
    cases hm : mayB (Rf (pjW Rf k c v q (w + m))) k c v (w + m) with
    | false => rfl
    | true => have := (mayB_parts hm).2.1; rw [ih] at this; omega

/-- The rows with the edges put in. -/
def FR (hs : List Int) (q : List (Nat × Nat)) : List Int := q.foldl (fun r p => flipL r p.1 p.2) hs
theorem FR_snoc (hs : List Int) (q : List (Nat × Nat)) (v w : Nat) : FR hs (q ++ [(v, w)]) = flipL (FR hs q) v w := by unfold FR; rw [List.foldl_append]; rfl
theorem FR_length (hs : List Int) (q : List (Nat × Nat)) : (FR hs q).length = hs.length := by
  unfold FR
  induction q generalizing hs with
  | nil => rfl
  | cons p q ih => rw [List.foldl_cons, ih, flipL_length]
/-- A graph whose degrees are at most k. -/
def FitD (n : Nat) (k : Int) (hs : List Int) : Prop := hs.length = n ∧ isG n hs = true ∧ ∀ u, u < n → (dg hs u : Int) ≤ k
theorem FitD.join {n : Nat} {hs : List Int} {v w : Nat} (h : FitD n k hs) (hv : v < w) (hw : w < n) (hm : mayB hs k c v w = true) : FitD n k (flipL hs v w) := by
  obtain ⟨h1, h2, h3⟩ := h
  obtain ⟨m1, m2, m3, -⟩ := mayB_parts hm
  subst h1
  have hs2 : bt (el hs w) v = false := by rw [isG_symm (a := v) (b := w) h2 (by omega) (by omega)]; exact m1
  refine ⟨flipL_length _ _ _, isG_flip (a := v) (b := w) h2 (by omega) hw (by omega), fun u hu => ?_⟩
  have := dg_flip (a := v) (b := w) (by omega) hw (by have := isG_parts h2; omega) m1 hs2 hu
  have h4 := h3 u hu
  by_cases e : u = v ∨ u = w
  · rw [if_pos e] at this
    rcases e with rfl | rfl <;> omega
  · rw [if_neg e] at this; omega
theorem fill_ok {n : Nat} {hs : List Int} (h0 : FitD n k hs) : ∀ v, v ≤ n → FitD n k (FR hs (pjV (FR hs) k c n v)) ∧ ∀ w, w ≤ n → FitD n k (FR hs (pjW (FR hs) k c v (pjV (FR hs) k c n v) w)) := by
  have inner : ∀ v, FitD n k (FR hs (pjV (FR hs) k c n v)) → ∀ w, w ≤ n → FitD n k (FR hs (pjW (FR hs) k c v (pjV (FR hs) k c n v) w)) := by
    intro v hv w
    induction w with
    | zero => exact fun _ => hv
    | succ w ih =>
      intro hw
      have h := ih (by omega)
      by_cases hvw : v < w
      · cases hm : mayB (FR hs (pjW (FR hs) k c v (pjV (FR hs) k c n v) w)) k c v w with
        | true => rw [pjW_yes hvw hm, FR_snoc]; exact h.join hvw (by omega) hm
        | false => rw [pjW_no hm]; exact h
      · rw [pjW_start _ _ _ (by omega)]; exact hv
  intro v
  induction v with
  | zero => exact fun _ => ⟨h0, inner 0 h0⟩
  | succ v ih =>
    intro hv
    have h := (ih (by omega)).2 n (Nat.le_refl _)
    exact ⟨h, inner (v + 1) h⟩
end Go.Proofs.YtibpnemeehkdbaaDoor
