/-
  Folded graphs: the numbers of the fibres, and when two of them are joined. Plain facts.
-/
import Derived.Test.YtlodaeoikkjbkaaDoorMgI
namespace Go.Proofs.YtlodaeoikkjbkaaDoor
set_option maxRecDepth 100000
open Go.RowKit

/-- The least number below k that reaches v. -/
def ldU (fz : List Int) (v : Nat) : Nat → Option Nat
  | 0 => none
  | k + 1 => match ldU fz v k with
    | some u => some u
    | none => if rch fz k v then some k else none
/-- The first vertex of the part of v, and the number of that part. -/
def ldV (fz : List Int) (v : Nat) : Nat := (ldU fz v (v + 1)).getD v
def fbK (fz : List Int) (v : Nat) : Nat := (prN fz (ldV fz v)).length
variable {fz : List Int}
theorem ldU_some {v : Nat} : ∀ k u, ldU fz v k = some u → u < k ∧ rch fz u v ∧ ∀ x, x < u → ¬ rch fz x v
  | 0, u, h => by cases h
  | k + 1, u, h => by
    have key : ∀ j, ldU fz v j = none → ∀ x, x < j → ¬ rch fz x v := by
      intro j
      induction j with
      | zero => intro _ x hx; omega
      | succ j ih =>
        intro hn x hx
        unfold ldU at hn
        cases hj : ldU fz v j with
        | some y => rw [hj] at hn; cases hn
        | none =>
          rw [hj] at hn
          simp only at hn
          by_cases hr : rch fz j v
          · rw [if_pos hr] at hn; cases hn
          · by_cases e : x = j
            · rw [e]; exact hr
            · exact ih hj x (by omega)
    unfold ldU at h
    cases hk : ldU fz v k with
    | some y =>
      rw [hk] at h
      simp only at h
      obtain rfl : y = u := Option.some.inj h
      obtain ⟨h1, h2, h3⟩ := ldU_some k y hk
      exact ⟨by omega, h2, h3⟩
    | none =>
      rw [hk] at h
      simp only at h
      by_cases hr : rch fz k v
      · rw [if_pos hr] at h
        obtain rfl : k = u := Option.some.inj h
        exact ⟨by omega, hr, key k hk⟩
      · rw [if_neg hr] at h; cases h
theorem ldU_ex {v : Nat} : ∀ k u, u < k → rch fz u v → ∃ y, ldU fz v k = some y
  | 0, u, h, _ => by omega
  | k + 1, u, h, hr => by
    unfold ldU
    cases hk : ldU fz v k with
    | some y => exact ⟨y, rfl⟩
    | none =>
      simp only
      by_cases e : u = k
      · subst e; rw [if_pos hr]; exact ⟨_, rfl⟩
      · obtain ⟨y, hy⟩ := ldU_ex k u (by omega) hr
        rw [hk] at hy; cases hy
theorem ldV_spec {v : Nat} (hv : v < fz.length) : ldV fz v ≤ v ∧ rch fz (ldV fz v) v ∧ ∀ x, x < ldV fz v → ¬ rch fz x v := by
  obtain ⟨y, hy⟩ := ldU_ex (v + 1) v (by omega) (rch_self hv)
  obtain ⟨h1, h2, h3⟩ := ldU_some (v + 1) y hy
  unfold ldV
  rw [hy]
  exact ⟨by show y ≤ v; omega, h2, h3⟩
theorem ldV_lead {v : Nat} (hv : v < fz.length) : leadB fz (ldV fz v) = true := by
  obtain ⟨h1, h2, h3⟩ := ldV_spec hv
  exact leadB_iff.2 fun u hu hr => h3 u hu (rch_trans (by omega) hr h2)
theorem ldV_self {v : Nat} (hv : v < fz.length) (h : leadB fz v = true) : ldV fz v = v := by
  obtain ⟨h1, h2, _⟩ := ldV_spec hv
  rcases Nat.lt_or_ge (ldV fz v) v with e | e
  · exact absurd h2 (leadB_iff.1 h _ e)
  · omega
theorem ldV_same (sym : ∀ a b, a < fz.length → b < fz.length → bt (el fz b) a = bt (el fz a) b) {v w : Nat} (hv : v < fz.length) (hw : w < fz.length) (h : rch fz v w) : ldV fz v = ldV fz w := by
  obtain ⟨h1, h2, h3⟩ := ldV_spec hv
  obtain ⟨g1, g2, g3⟩ := ldV_spec hw
  rcases Nat.lt_trichotomy (ldV fz v) (ldV fz w) with e | e | e
  · exact absurd (rch_trans (by omega) h2 h) (g3 _ e)
  · exact e
  · exact absurd (rch_trans (by omega) g2 (rch_symm sym hv h)) (h3 _ e)
theorem prN_at {u : Nat} (h : leadB fz u = true) : ∀ k, u < k → (prN fz k)[(prN fz u).length]? = some u
  | k + 1, hu => by
    by_cases e : u = k
    · subst e; rw [prN_yes h]; simp
    · have ih := prN_at h k (by omega)
      cases hk : leadB fz k with
      | true =>
        rw [prN_yes hk, List.getElem?_append_left (List.getElem?_eq_some_iff.1 ih).1]; exact ih
      | false => rw [prN_no hk]; exact ih
theorem prN_inv : ∀ k i u, (prN fz k)[i]? = some u → u < k ∧ leadB fz u = true ∧ (prN fz u).length = i
  | 0, i, u, h => by simp [prN] at h
  | k + 1, i, u, h => by
    cases hk : leadB fz k with
    | true =>
      rw [prN_yes hk] at h
      rcases Nat.lt_or_ge i (prN fz k).length with e | e
      · rw [List.getElem?_append_left e] at h
        obtain ⟨h1, h2, h3⟩ := prN_inv k i u h
        exact ⟨by omega, h2, h3⟩
      · rw [List.getElem?_append_right e] at h
        have : i - (prN fz k).length = 0 := by
          have := (List.getElem?_eq_some_iff.1 h).1
          simpa using this
        rw [this] at h
        obtain rfl : k = u := by simpa using h
        exact ⟨by omega, hk, by omega⟩
    | false =>
      rw [prN_no hk] at h
      obtain ⟨h1, h2, h3⟩ := prN_inv k i u h
      exact ⟨by omega, h2, h3⟩
theorem fbK_at {v : Nat} (hv : v < fz.length) : (prN fz fz.length)[fbK fz v]? = some (ldV fz v) :=
  prN_at (ldV_lead hv) _ (by have := (ldV_spec hv).1; omega)
theorem fbK_lt {v : Nat} (hv : v < fz.length) : fbK fz v < (prN fz fz.length).length := (List.getElem?_eq_some_iff.1 (fbK_at hv)).1
theorem fbK_lead {v : Nat} (hv : v < fz.length) (h : leadB fz v = true) : fbK fz v = (prN fz v).length := by unfold fbK; rw [ldV_self hv h]
theorem fbK_same (sym : ∀ a b, a < fz.length → b < fz.length → bt (el fz b) a = bt (el fz a) b) {v w : Nat} (hv : v < fz.length) (hw : w < fz.length) (h : rch fz v w) : fbK fz v = fbK fz w := by unfold fbK; rw [ldV_same sym hv hw h]
/-- A vertex lies in the fibre of its number, and in no other. -/
theorem fbR_bit (sym : ∀ a b, a < fz.length → b < fz.length → bt (el fz b) a = bt (el fz a) b) {k w : Nat} (hk : k < (prN fz fz.length).length) (hw : w < fz.length) : (el (fbR fz) k).toNat.testBit w = true ↔ fbK fz w = k := by
  obtain ⟨u, hu⟩ : ∃ u, (prN fz fz.length)[k]? = some u := ⟨_, List.getElem?_eq_getElem hk⟩
  obtain ⟨h1, h2, h3⟩ := prN_inv _ _ _ hu
  have e : el (fbR fz) k = ((bitsN (fun w => decide (rch fz u w)) fz.length : Nat) : Int) := by
    unfold el fbR
    rw [List.getD_eq_getElem?_getD, List.getElem?_map, hu]; rfl
  rw [e, Int.toNat_natCast, bitsN_testBit, decide_eq_true hw, Bool.true_and, decide_eq_true_eq]
  constructor
  · intro hr
    rw [← fbK_same sym h1 hw hr, fbK_lead h1 h2, h3]
  · intro hr
    have := fbK_at hw
    rw [hr, hu] at this
    obtain rfl : u = ldV fz w := Option.some.inj this
    exact (ldV_spec hw).2.1
theorem fbR_len : (fbR fz).length = (prN fz fz.length).length := prN_len fz
theorem fbR_nat (k : Nat) : el (fbR fz) k = ((el (fbR fz) k).toNat : Int) ∧ (el (fbR fz) k).toNat < 2 ^ fz.length := by
  unfold el fbR
  rw [List.getD_eq_getElem?_getD, List.getElem?_map]
  cases (prN fz fz.length)[k]? with
  | none => exact ⟨rfl, Nat.two_pow_pos _⟩
  | some u => exact ⟨rfl, by show (bitsN _ _) < _; exact bitsN_lt _ _⟩

/-- Whether the program joins two fibres. -/
def fdF (zs fz : List Int) (a b : Nat) : Bool := arN zs (mem (el (fbR fz) a).toNat) &&& (el (fbR fz) b).toNat != 0
/-- Two fibres with an edge between them. -/
def fdJ (zs fz : List Int) (a b : Nat) : Prop := ∃ x y, x < zs.length ∧ y < zs.length ∧ fbK fz x = a ∧ fbK fz y = b ∧ bt (el zs x) y = true
theorem fdF_iff {zs : List Int} (hl : fz.length = zs.length) (h62 : zs.length ≤ 62) (sym : ∀ a b, a < fz.length → b < fz.length → bt (el fz b) a = bt (el fz a) b) {a b : Nat} (ha : a < (prN fz fz.length).length) (hb : b < (prN fz fz.length).length) : fdF zs fz a b = true ↔ fdJ zs fz a b := by
  have r1 := (fbR_nat (fz := fz) a).2
  have r2 := (fbR_nat (fz := fz) b).2
  have har : ∀ w, (arN zs (mem (el (fbR fz) a).toNat)).testBit w = true ↔ ∃ x, x < zs.length ∧ (el (fbR fz) a).toNat.testBit x = true ∧ bt (el zs x) w = true := fun w => ar_iff (by rw [← hl]; exact r1) h62
  unfold fdF fdJ
  rw [bne_iff_ne]
  constructor
  · intro h
    have hlt : arN zs (mem (el (fbR fz) a).toNat) &&& (el (fbR fz) b).toNat < 2 ^ 64 := Nat.lt_of_le_of_lt Nat.and_le_right (Nat.lt_of_lt_of_le r2 (Nat.pow_le_pow_right (by decide) (by omega)))
    have hb1 := lo_bit h hlt
    rw [Nat.testBit_and, Bool.and_eq_true] at hb1
    obtain ⟨x, hx, hx1, hx2⟩ := (har _).1 hb1.1
    have hy := bit_lt r2 hb1.2
    exact ⟨x, _, hx, by omega, (fbR_bit sym ha (by omega)).1 hx1, (fbR_bit sym hb hy).1 hb1.2, hx2⟩
  · rintro ⟨x, y, hx, hy, h1, h2, h3⟩ h0
    have t1 : (arN zs (mem (el (fbR fz) a).toNat)).testBit y = true := (har y).2 ⟨x, hx, (fbR_bit sym ha (by omega)).2 h1, h3⟩
    have t2 : (el (fbR fz) b).toNat.testBit y = true := (fbR_bit sym hb (by omega)).2 h2
    have := congrArg (fun z : Nat => z.testBit y) h0
    simp only [Nat.testBit_and, t1, t2, Nat.zero_testBit] at this
    cases this

/-- The pairs of fibres that the model joins, in its order. -/
def fdI (zs : List Int) (K : Nat → Nat) (v : Nat) : Nat → List (Nat × Nat)
  | 0 => []
  | k + 1 => if bt (el zs v) k && (K v != K k) then fdI zs K v k ++ [(K v, K k)] else fdI zs K v k
def fdO (zs : List Int) (K : Nat → Nat) : Nat → List (Nat × Nat)
  | 0 => []
  | v + 1 => fdO zs K v ++ fdI zs K v v
theorem fdI_yes {zs : List Int} {K : Nat → Nat} {v k : Nat} (h : bt (el zs v) k = true) (h2 : K v ≠ K k) : fdI zs K v (k + 1) = fdI zs K v k ++ [(K v, K k)] := by
  have : (K v != K k) = true := by rw [bne_iff_ne]; exact h2
  simp [fdI, h, this]
theorem fdI_no {zs : List Int} {K : Nat → Nat} {v k : Nat} (h : bt (el zs v) k = false ∨ K v = K k) : fdI zs K v (k + 1) = fdI zs K v k := by
  rcases h with h | h
  · simp [fdI, h]
  · simp [fdI, h]
theorem fdI_mem {zs : List Int} {K : Nat → Nat} {v : Nat} {p : Nat × Nat} : ∀ k, p ∈ fdI zs K v k ↔ ∃ w, w < k ∧ bt (el zs v) w = true ∧ K v ≠ K w ∧ p = (K v, K w)
  | 0 => by simp [fdI]
  | k + 1 => by
    by_cases h : bt (el zs v) k = true ∧ K v ≠ K k
    · rw [fdI_yes h.1 h.2, List.mem_append, fdI_mem k, List.mem_singleton]
      constructor
      · rintro (⟨w, h1, h2⟩ | h1)
        · exact ⟨w, by omega, h2⟩
        · exact ⟨k, by omega, h.1, h.2, h1⟩
      · rintro ⟨w, h1, h2, h3, h4⟩
        by_cases e : w = k
        · subst e; exact .inr h4
        · exact .inl ⟨w, by omega, h2, h3, h4⟩
    · have h' : bt (el zs v) k = false ∨ K v = K k := by
        cases hb : bt (el zs v) k with
        | false => exact .inl rfl
        | true => exact .inr (Classical.byContradiction fun hn => h ⟨hb, hn⟩)
      rw [fdI_no h', fdI_mem k]
      constructor
      · rintro ⟨w, h1, h2⟩; exact ⟨w, by omega, h2⟩
      · rintro ⟨w, h1, h2, h3, h4⟩
        by_cases e : w = k
        · subst e; exact absurd ⟨h2, h3⟩ h
        · exact ⟨w, by omega, h2, h3, h4⟩
theorem fdO_mem {zs : List Int} {K : Nat → Nat} {p : Nat × Nat} : ∀ n, p ∈ fdO zs K n ↔ ∃ v w, v < n ∧ w < v ∧ bt (el zs v) w = true ∧ K v ≠ K w ∧ p = (K v, K w)
  | 0 => by simp [fdO]
  | n + 1 => by
    show p ∈ fdO zs K n ++ fdI zs K n n ↔ _
    rw [List.mem_append, fdO_mem n, fdI_mem n]
    constructor
    · rintro (⟨v, w, h1, h2⟩ | ⟨w, h1, h2⟩)
      · exact ⟨v, w, by omega, h2⟩
      · exact ⟨n, w, by omega, h1, h2⟩
    · rintro ⟨v, w, h1, h2, h3⟩
      by_cases e : v = n
      · subst e; exact .inr ⟨w, h2, h3⟩
      · exact .inl ⟨v, w, by omega, h2, h3⟩
theorem rowsF_congr9 {n : Nat} {f g : Nat → Nat → Bool} (h : ∀ a b, a < n → b < n → f a b = g a b) : rowsF n f = rowsF n g := by
  unfold rowsF
  refine List.map_congr_left fun a ha => ?_
  have ha' := List.mem_range.1 ha
  congr 1
  apply Nat.eq_of_testBit_eq
  intro i
  rw [bitsN_testBit, bitsN_testBit]
  by_cases hi : i < n
  · rw [h a i ha' hi]
  · rw [decide_eq_false hi]; rfl
/-- Both programs join the same fibres. -/
theorem fold_rows {zs : List Int} (hl : fz.length = zs.length) (h62 : zs.length ≤ 62) (sym : ∀ a b, a < fz.length → b < fz.length → bt (el fz b) a = bt (el fz a) b) (symz : ∀ a b, a < zs.length → b < zs.length → bt (el zs b) a = bt (el zs a) b) :
    rowsF (prN fz fz.length).length (adjS (fdO zs (fbK fz) zs.length)) = rowsF (prN fz fz.length).length (adjS (whereS (fdF zs fz) (prN fz fz.length).length)) := by
  refine rowsF_congr9 fun a b ha hb => ?_
  rw [Bool.eq_iff_iff, adjW, adjS_iff]
  have hJs : ∀ p q, fdJ zs fz p q → fdJ zs fz q p := fun p q ⟨x, y, h1, h2, h3, h4, h5⟩ => ⟨y, x, h2, h1, h4, h3, by rw [symz x y h1 h2]; exact h5⟩
  constructor
  · rintro ⟨p, hp, h1, h2⟩
    obtain ⟨v, w, hv, hw, hbt, hne, rfl⟩ := (fdO_mem _).1 hp
    simp only at h1 h2
    refine ⟨by omega, by omega, (fdF_iff hl h62 sym (by omega) (by omega)).2 ?_⟩
    rcases Nat.lt_or_ge (fbK fz v) (fbK fz w) with e | e
    · rw [show min a b = fbK fz v by omega, show max a b = fbK fz w by omega]
      exact ⟨v, w, by omega, by omega, rfl, rfl, hbt⟩
    · rw [show min a b = fbK fz w by omega, show max a b = fbK fz v by omega]
      exact hJs _ _ ⟨v, w, by omega, by omega, rfl, rfl, hbt⟩
  · rintro ⟨hne, hm, hf⟩
    obtain ⟨x, y, hx, hy, h1, h2, h3⟩ := (fdF_iff hl h62 sym (by omega) (by omega)).1 hf
    have hxy : fbK fz x ≠ fbK fz y := by omega
    rcases Nat.lt_trichotomy x y with e | e | e
    · exact ⟨(fbK fz y, fbK fz x), (fdO_mem _).2 ⟨y, x, hy, e, by rw [symz x y hx hy]; exact h3, Ne.symm hxy, rfl⟩, by simp only; omega, by simp only; omega⟩
    · rw [e] at hxy; exact absurd rfl hxy
    · exact ⟨(fbK fz x, fbK fz y), (fdO_mem _).2 ⟨x, y, hx, e, h3, hxy, rfl⟩, by simp only; omega, by simp only; omega⟩

/-- The folded graph: its size, its rows, and the code. -/
noncomputable def fdM (zs : List Int) : Nat := (prN (gaR zs (dmX zs)) (gaR zs (dmX zs)).length).length
noncomputable def fdR (zs : List Int) : List Int := rowsF (fdM zs) (adjS (whereS (fdF zs (gaR zs (dmX zs))) (fdM zs)))
noncomputable def FdN (n : Int) (zs : List Int) : Int := if apD n zs then (fdM zs : Int) else 0
noncomputable def FdL (n : Int) (zs : List Int) : List Int := if apD n zs then fdR zs else []
noncomputable def FdC (n : Int) (zs : List Int) : Int := if apD n zs then 0 else if cnC n zs = 0 then 5 else cnC n zs
theorem apD_parts {n : Int} {zs : List Int} (h : apD n zs = true) : isG n zs = true ∧ connB zs = true ∧ ¬ dmX zs < 2 ∧ anB zs (dmX zs) = true := by
  unfold apD anQ at h
  simp only [Bool.and_eq_true, decide_eq_true_eq] at h
  exact ⟨h.1, h.2.1, by omega, h.2.2.2⟩
theorem fdM_le {n : Int} {zs : List Int} (h : isG n zs = true) : fdM zs ≤ 62 := by
  have h1 := prN_length (gaR zs (dmX zs)) (gaR zs (dmX zs)).length
  have h2 := gaR_length' zs (dmX zs)
  have h3 := (isG_parts h).2.2.1
  have h4 := (isG_parts h).2.1
  unfold fdM
  omega
theorem FdL_length {n : Int} {zs : List Int} : (FdL n zs).length ≤ 62 := by
  unfold FdL
  cases h : apD n zs with
  | false => simp
  | true =>
    rw [if_pos rfl]
    unfold fdR
    rw [rowsF_length]
    exact fdM_le (apD_parts h).1
end Go.Proofs.YtlodaeoikkjbkaaDoor
