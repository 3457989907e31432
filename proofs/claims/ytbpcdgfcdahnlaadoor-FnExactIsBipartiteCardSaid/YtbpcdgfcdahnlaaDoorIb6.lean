/-
  Two kinds of vertices such that edges join both: plain facts, for the model's search and for the program's.
-/
import Derived.Test.YtbpcdgfcdahnlaaDoorLwF
import Derived.Test.YtbpcdgfcdahnlaaDoorPq
namespace Go.Proofs.YtbpcdgfcdahnlaaDoor
set_option maxRecDepth 100000
set_option maxRecDepth 100000
open Go.RowKit

/-- c gives the ends of each edge two kinds. -/
def ColB (zs : List Int) (c : Nat → Bool) : Prop := ∀ a b, a < zs.length → b < zs.length → bt (el zs a) b = true → c a ≠ c b
def bipP (zs : List Int) : Prop := ∃ c, ColB zs c
open Classical in
noncomputable def bipB (zs : List Int) : Bool := decide (bipP zs)
open Classical in
theorem bipB_yes {zs : List Int} (h : bipP zs) : bipB zs = true := decide_eq_true h
open Classical in
theorem bipB_no {zs : List Int} (h : ¬ bipP zs) : bipB zs = false := decide_eq_false h

/-- What the numbers K say, D naming the least vertex of the part of each vertex that was met. -/
structure KO (zs D K : List Int) : Prop where
  len : K.length = zs.length
  vis : ∀ w, w < zs.length → (0 ≤ el K w ↔ 0 ≤ el D w)
  rng : ∀ w, w < zs.length → el K w = -1 ∨ el K w = 0 ∨ el K w = 1
  col : ∀ c, ColB zs c → ∀ w, w < zs.length → 0 ≤ el D w → (c w = c (el D w).toNat ↔ el K w = 0)
  don : ∀ w, w < zs.length → 0 ≤ el D w → ∀ z, z < zs.length → bt (el zs w) z = true → el K z ≠ el K w
structure KI (zs : List Int) (D0 D : List Int) (Q : List Nat) (K : List Int) (i k : Nat) : Prop where
  len : K.length = zs.length
  vis : ∀ w, w < zs.length → (0 ≤ el K w ↔ 0 ≤ el D w)
  rng : ∀ w, w < zs.length → el K w = -1 ∨ el K w = 0 ∨ el K w = 1
  col : ∀ c, ColB zs c → ∀ w, w < zs.length → 0 ≤ el D w → (c w = c (el D w).toNat ↔ el K w = 0)
  cl0 : ∀ w, w < zs.length → 0 ≤ el D0 w → ∀ z, z < zs.length → bt (el zs w) z = true → 0 ≤ el D0 z
  old : ∀ w, w < zs.length → 0 ≤ el D0 w → ∀ z, z < zs.length → bt (el zs w) z = true → el K z ≠ el K w
  clo : ∀ (j q : Nat), j < i → Q[j]? = some q → ∀ z, z < zs.length → bt (el zs q) z = true → el K z ≠ el K q
  cur : ∀ x, Q[i]? = some x → ∀ (j z : Nat), j < k → (nbN zs x)[j]? = some z → el K z ≠ el K x

variable {zs D0 D K : List Int} {v i k : Nat} {Q : List Nat}
theorem LdF.closed (h : LdF zs D v) (hv : v ≤ zs.length) : ∀ w, w < zs.length → 0 ≤ el D w → ∀ z, z < zs.length → bt (el zs w) z = true → 0 ≤ el D z := by
  intro w hw h0 z hz hb
  have hex : ∃ u, u < v ∧ rch zs u w := by
    refine Classical.byContradiction fun hno => ?_
    have := h.far w hw fun u hu hr => hno ⟨u, hu, hr⟩
    omega
  obtain ⟨u, hu, hr⟩ := hex
  have hrz := rch_step (by omega) hr hb hz
  obtain ⟨y, hy, hl⟩ := ldB_ex hz
  have hyu : y ≤ u := Nat.le_of_not_lt fun e => hl.2 u e hrz
  have := h.met z y hz (by omega) hl
  omega
theorem LdF.first (h : LdF zs D v) (hv : v < zs.length) : (el D v < 0) ↔ leadB zs v = true := by
  constructor
  · intro hn
    exact leadB_iff.2 (h.new hv hn)
  · intro hl
    refine Classical.byContradiction fun hno => ?_
    obtain ⟨u, hu, hr⟩ := h.old hv (by omega)
    exact leadB_iff.1 hl u hu hr
theorem KO.start : KO zs (List.replicate zs.length (-1)) (List.replicate zs.length (-1)) :=
  ⟨by simp, fun _ _ => Iff.rfl, fun w hw => .inl (elRep hw), fun c _ w hw h0 => by rw [elRep hw] at h0; omega, fun w hw h0 => by rw [elRep hw] at h0; omega⟩
theorem KI.start (hL : LdF zs D0 v) (h : KO zs D0 K) (hv : v < zs.length) (hn : el D0 v < 0) : KI zs D0 (D0.set v (v : Int)) [v] (K.set v 0) 0 0 := by
  have hk : el K v = -1 := by
    have h1 := h.rng v hv
    have h2 := h.vis v hv
    omega
  have nD : el (D0.set v (v : Int)) v = (v : Int) := elSet_eq (by rw [hL.len]; exact hv)
  have nK : el (K.set v 0) v = 0 := elSet_eq (by rw [h.len]; exact hv)
  have sD : ∀ p, p ≠ v → el (D0.set v (v : Int)) p = el D0 p := fun p hp => elSet_ne hp
  have sK : ∀ p, p ≠ v → el (K.set v 0) p = el K p := fun p hp => elSet_ne hp
  refine ⟨by rw [List.length_set]; exact h.len, fun w hw => ?_, fun w hw => ?_, fun c hc w hw h0 => ?_, hL.closed (by omega), fun w hw h0 z hz hb => ?_, fun j q hj => absurd hj (by omega), fun x _ j z hj => absurd hj (by omega)⟩
  · by_cases e : w = v
    · rw [e, nD, nK]; omega
    · rw [sD w e, sK w e]; exact h.vis w hw
  · by_cases e : w = v
    · rw [e, nK]; exact .inr (.inl rfl)
    · rw [sK w e]; exact h.rng w hw
  · by_cases e : w = v
    · subst e; rw [nD, nK]; simp
    · rw [sD w e] at h0 ⊢; rw [sK w e]; exact h.col c hc w hw h0
  · have hwv : w ≠ v := fun e => by rw [e] at h0; omega
    have hzv : z ≠ v := fun e => by have := hL.closed (by omega) w hw h0 z hz hb; rw [e] at this; omega
    rw [sK w hwv, sK z hzv]; exact h.don w hw h0 z hz hb
theorem KI.push (h : KI zs D0 D Q K i k) (hp : PInv zs v D0 D Q i k) {x y : Nat} (hx : Q[i]? = some x) (hy : (nbN zs x)[k]? = some y) (hn : el D y < 0) : KI zs D0 (D.set y (v : Int)) (Q ++ [y]) (K.set y (1 - el K x)) i (k + 1) := by
  obtain ⟨hyl, hR⟩ := nbN_mem.1 (List.mem_of_getElem? hy)
  have hxq : x ∈ Q := List.mem_of_getElem? hx
  have hxl := hp.qlt x hxq
  have hDx := hp.inQ x hxq
  have hxy : x ≠ y := fun e => by rw [← e, hDx] at hn; omega
  have hky : el K y = -1 := by
    have h1 := h.rng y hyl
    have h2 := h.vis y hyl
    omega
  have hkx : el K x = 0 ∨ el K x = 1 := by
    have h1 := h.rng x hxl
    have h2 := (h.vis x hxl).2 (by rw [hDx]; omega)
    omega
  have nD : el (D.set y (v : Int)) y = (v : Int) := elSet_eq (by rw [hp.len]; exact hyl)
  have nK : el (K.set y (1 - el K x)) y = 1 - el K x := elSet_eq (by rw [h.len]; exact hyl)
  have sD : ∀ p, p ≠ y → el (D.set y (v : Int)) p = el D p := fun p hp => elSet_ne hp
  have sK : ∀ p, p ≠ y → el (K.set y (1 - el K x)) p = el K p := fun p hp => elSet_ne hp
  have hil : i < Q.length := (List.getElem?_eq_some_iff.1 hx).1
  have hy0 : el D0 y < 0 := by
    refine Classical.byContradiction fun e => ?_
    have := hp.keep y hyl (by omega)
    omega
  refine ⟨by rw [List.length_set]; exact h.len, fun w hw => ?_, fun w hw => ?_, fun c hc w hw h0 => ?_, h.cl0, fun w hw h0 z hz hb => ?_, fun j q hj hq z hz hb => ?_, fun x' hx' j z hj hz => ?_⟩
  · by_cases e : w = y
    · rw [e, nD, nK]; omega
    · rw [sD w e, sK w e]; exact h.vis w hw
  · by_cases e : w = y
    · rw [e, nK]; omega
    · rw [sK w e]; exact h.rng w hw
  · by_cases e : w = y
    · subst e
      rw [nD, nK, Int.toNat_natCast]
      have h1 := h.col c hc x hxl (by rw [hDx]; omega)
      rw [hDx, Int.toNat_natCast] at h1
      have h2 := hc x w hxl hyl hR
      rcases hkx with e0 | e0
      · have h3 := h1.2 e0
        rw [e0]
        constructor
        · intro h4; exact absurd (h3.trans h4.symm) h2
        · intro h4; omega
      · have h3 : c x ≠ c v := fun h4 => by have := h1.1 h4; omega
        rw [e0]
        constructor
        · intro _; rfl
        · intro _
          cases hcw : c w <;> cases hcx : c x <;> cases hcv : c v <;> simp_all
    · rw [sD w e] at h0 ⊢; rw [sK w e]; exact h.col c hc w hw h0
  · have hzy : z ≠ y := fun e => by have := h.cl0 w hw h0 z hz hb; rw [e] at this; omega
    have hwy : w ≠ y := fun e => by rw [e] at h0; omega
    rw [sK w hwy, sK z hzy]; exact h.old w hw h0 z hz hb
  · have hjq : Q[j]? = some q := by rw [List.getElem?_append_left (by omega)] at hq; exact hq
    have hzy : z ≠ y := fun e => by have := hp.clo j q hj hjq z hz hb; rw [e] at this; omega
    have hqy : q ≠ y := fun e => by have := hp.inQ q (List.mem_of_getElem? hjq); rw [e] at this; omega
    rw [sK z hzy, sK q hqy]; exact h.clo j q hj hjq z hz hb
  · have hxx : x' = x := by
      rw [List.getElem?_append_left hil, hx] at hx'
      exact (Option.some.inj hx').symm
    subst hxx
    rw [sK x' hxy]
    by_cases e : j = k
    · rw [e, hy] at hz
      obtain rfl : y = z := by simpa using hz
      rw [nK]; omega
    · have hzy : z ≠ y := fun e2 => by have := hp.cur x' hx j z (by omega) hz; rw [e2] at this; omega
      rw [sK z hzy]; exact h.cur x' hx j z (by omega) hz
theorem KI.skip (h : KI zs D0 D Q K i k) {x y : Nat} (hx : Q[i]? = some x) (hy : (nbN zs x)[k]? = some y) (hne : el K y ≠ el K x) : KI zs D0 D Q K i (k + 1) :=
  { h with
    cur := fun x' hx' j z hj hz => by
      rw [hx] at hx'
      obtain rfl : x = x' := by simpa using hx'
      by_cases e : j = k
      · rw [e, hy] at hz
        obtain rfl : y = z := by simpa using hz
        exact hne
      · exact h.cur x hx j z (by omega) hz }
theorem KI.next {x : Nat} (hx : Q[i]? = some x) (h : KI zs D0 D Q K i (nbN zs x).length) : KI zs D0 D Q K (i + 1) 0 :=
  { h with
    clo := fun j q hj hq z hz hR => by
      by_cases e : j = i
      · rw [e, hx] at hq
        obtain rfl : x = q := by simpa using hq
        obtain ⟨m, hm, he⟩ := List.getElem_of_mem (nbN_mem.2 ⟨hz, hR⟩)
        exact h.cur x hx m z hm (by rw [List.getElem?_eq_getElem hm, he])
      · exact h.clo j q (by omega) hq z hz hR
    cur := fun x' _ j z hj => absurd hj (by omega) }
theorem KI.pass (h : KI zs D0 D Q K Q.length 0) (hp : PInv zs v D0 D Q Q.length 0) : KO zs D K :=
  ⟨h.len, h.vis, h.rng, h.col, fun w hw h0 z hz hb => by
    by_cases hq : w ∈ Q
    · obtain ⟨j, hj, e⟩ := List.getElem_of_mem hq
      exact h.clo j w hj (by rw [List.getElem?_eq_getElem hj, e]) z hz hb
    · rw [hp.notQ w hw hq] at h0
      exact h.old w hw h0 z hz hb⟩
/-- An edge within a kind: there are no two kinds. -/
theorem KI.clash (hL : LdF zs D0 v) (hv : v < zs.length) (hn : el D0 v < 0) (h : KI zs D0 D Q K i k) (hp : PInv zs v D0 D Q i k) {x y : Nat} (hx : Q[i]? = some x) (hy : (nbN zs x)[k]? = some y) (he : el K y = el K x) : ¬ bipP zs := by
  rintro ⟨c, hc⟩
  obtain ⟨hyl, hR⟩ := nbN_mem.1 (List.mem_of_getElem? hy)
  have hxq : x ∈ Q := List.mem_of_getElem? hx
  have hxl := hp.qlt x hxq
  have hDx := hp.inQ x hxq
  have hkx : 0 ≤ el K x := (h.vis x hxl).2 (by rw [hDx]; omega)
  have hDy : 0 ≤ el D y := (h.vis y hyl).1 (by rw [he]; exact hkx)
  have hyq : y ∈ Q := by
    refine Classical.byContradiction fun hq => ?_
    rw [hp.notQ y hyl hq] at hDy
    have hsx := h.cl0 y hyl hDy x hxl (by rw [hL.sym x y hxl hyl]; exact hR)
    have hex : ∃ u, u < v ∧ rch zs u x := by
      refine Classical.byContradiction fun hno => ?_
      have := hL.far x hxl fun u hu hr => hno ⟨u, hu, hr⟩
      omega
    obtain ⟨u, hu, hr⟩ := hex
    exact hL.new hv hn u hu (rch_trans (by omega) hr (rch_symm hL.sym hv (hp.ok x hxq)))
  have h1 := h.col c hc x hxl (by rw [hDx]; omega)
  have h2 := h.col c hc y hyl hDy
  rw [hp.inQ y hyq, he] at h2
  rw [hDx] at h1
  have h3 := hc x y hxl hyl hR
  cases hcx : c x <;> cases hcy : c y <;> cases hcv : c (v : Int).toNat <;> simp_all
/-- All vertices met: there are two kinds. -/
theorem KO.done (hL : LdF zs D zs.length) (h : KO zs D K) : bipP zs := by
  have hall : ∀ w, w < zs.length → el K w = 0 ∨ el K w = 1 := fun w hw => by
    obtain ⟨u, hu, hl⟩ := ldB_ex hw
    have := hL.met w u hw (by omega) hl
    have h1 := (h.vis w hw).2 (by omega)
    have h2 := h.rng w hw
    omega
  refine ⟨fun w => decide (el K w = 0), fun a b ha hb hR e => ?_⟩
  obtain ⟨u, hu, hl⟩ := ldB_ex ha
  have hD := hL.met a u ha (by omega) hl
  have h3 := h.don a ha (by omega) b hb hR
  have h4 := hall a ha
  have h5 := hall b hb
  have h6 : (el K a = 0 ↔ el K b = 0) := by simpa using e
  omega
end Go.Proofs.YtbpcdgfcdahnlaaDoor
