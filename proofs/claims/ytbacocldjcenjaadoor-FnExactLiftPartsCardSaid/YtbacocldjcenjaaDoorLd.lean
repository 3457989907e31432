/-
  The least vertices of parts, as the model's l01Leaders finds them: plain facts.
-/
import Derived.Test.YtbacocldjcenjaaDoorRm
import Derived.Test.YtbacocldjcenjaaDoorNbS
namespace Go.Proofs.YtbacocldjcenjaaDoor
set_option maxRecDepth 100000
open Go.RowKit

/-- The neighbours of x. -/
def nbN (zs : List Int) (x : Nat) : List Nat := (List.range zs.length).filter (bt (el zs x))
theorem nbN_map (zs : List Int) (x : Nat) : nbL zs x zs.length = (nbN zs x).map fun j : Nat => (j : Int) := rfl
theorem nbN_mem {zs : List Int} {x z : Nat} : z ∈ nbN zs x ↔ z < zs.length ∧ bt (el zs x) z = true := by unfold nbN; rw [List.mem_filter, List.mem_range]
abbrev rch (zs : List Int) (v w : Nat) : Prop := 0 ≤ dOf (Rw zs v 0) zs.length v w

/-- A pass from v: D0 the list ahead of it, Q the queue, the places ahead of i done, at the place i the neighbours ahead of k. -/
structure PInv (zs : List Int) (v : Nat) (D0 D : List Int) (Q : List Nat) (i k : Nat) : Prop where
  len : D.length = zs.length
  keep : ∀ w, w < zs.length → 0 ≤ el D0 w → el D w = el D0 w
  inQ : ∀ w, w ∈ Q → el D w = (v : Int)
  notQ : ∀ w, w < zs.length → w ∉ Q → el D w = el D0 w
  qlt : ∀ q, q ∈ Q → q < zs.length
  nodup : Q.Nodup
  vin : v ∈ Q
  ok : ∀ q, q ∈ Q → rch zs v q
  clo : ∀ (j q : Nat), j < i → Q[j]? = some q → ∀ z, z < zs.length → bt (el zs q) z = true → 0 ≤ el D z
  cur : ∀ x, Q[i]? = some x → ∀ (j z : Nat), j < k → (nbN zs x)[j]? = some z → 0 ≤ el D z
variable {zs : List Int} {v : Nat} {D0 D : List Int} {Q : List Nat} {i k : Nat}

theorem PInv.qlen (h : PInv zs v D0 D Q i k) : Q.length ≤ zs.length := nodup_len _ Q h.nodup h.qlt
theorem rch_self (hv : v < zs.length) : rch zs v v := by
  unfold rch
  rw [dOf_lev (R := Rw zs v 0) hv (d := 0) (by rw [lev_zero]; simp)]; omega
theorem PInv.start (hl : D0.length = zs.length) (hv : v < zs.length) (hn : el D0 v < 0) : PInv zs v D0 (D0.set v (v : Int)) [v] 0 0 := by
  refine ⟨by rw [List.length_set]; exact hl, fun w _ h0 => ?_, fun w hw => ?_, fun w _ hw => ?_, fun q hq => ?_, by simp, by simp, fun q hq => ?_, fun j q hj => absurd hj (by omega), fun x _ j z hj => absurd hj (by omega)⟩
  · exact elSet_ne (fun e => by rw [e] at h0; omega)
  · have : w = v := by simpa using hw
    rw [this, elSet_eq (by rw [hl]; exact hv)]
  · exact elSet_ne (fun e => hw (by simp [e]))
  · have : q = v := by simpa using hq
    omega
  · have : q = v := by simpa using hq
    rw [this]; exact rch_self hv
theorem PInv.push (h : PInv zs v D0 D Q i k) (hv : v < zs.length) {x y : Nat} (hx : Q[i]? = some x) (hy : (nbN zs x)[k]? = some y) (hn : el D y < 0) : PInv zs v D0 (D.set y (v : Int)) (Q ++ [y]) i (k + 1) := by
  obtain ⟨hyl, hR⟩ := nbN_mem.1 (List.mem_of_getElem? hy)
  have hxq : x ∈ Q := List.mem_of_getElem? hx
  have hyq : y ∉ Q := fun hm => by have := h.inQ y hm; omega
  have same : ∀ p, p ≠ y → el (D.set y (v : Int)) p = el D p := fun p hp => elSet_ne hp
  have new : el (D.set y (v : Int)) y = (v : Int) := elSet_eq (by rw [h.len]; exact hyl)
  have hil : i < Q.length := (List.getElem?_eq_some_iff.1 hx).1
  have mono : ∀ z, 0 ≤ el D z → 0 ≤ el (D.set y (v : Int)) z := fun z hz => by
    by_cases e : z = y
    · rw [e, new]; omega
    · rw [same z e]; exact hz
  refine ⟨by rw [List.length_set]; exact h.len, fun w hw h0 => ?_, fun w hw => ?_, fun w hw hq => ?_, fun q hq => ?_, ?_, List.mem_append.2 (.inl h.vin), fun q hq => ?_, fun j q hj hq z hz hRz => ?_, fun x' hx' j z hj hz => ?_⟩
  · have := h.keep w hw h0
    rw [same w (fun e => by rw [e] at this; rw [e] at h0; omega)]; exact this
  · rcases List.mem_append.1 hw with hw | hw
    · rw [same w (fun e => hyq (e ▸ hw))]; exact h.inQ w hw
    · have : w = y := by simpa using hw
      rw [this, new]
  · have h1 : w ∉ Q := fun hm => hq (List.mem_append.2 (.inl hm))
    have h2 : w ≠ y := fun e => hq (by simp [e])
    rw [same w h2]; exact h.notQ w hw h1
  · rcases List.mem_append.1 hq with hq | hq
    · exact h.qlt q hq
    · have : q = y := by simpa using hq
      omega
  · rw [List.nodup_append]
    refine ⟨h.nodup, by simp, fun a ha b hb => ?_⟩
    have : b = y := by simpa using hb
    rw [this]; exact fun e => hyq (e ▸ ha)
  · rcases List.mem_append.1 hq with hq | hq
    · exact h.ok q hq
    · have : q = y := by simpa using hq
      rw [this]
      exact reach_step hv (h.qlt x hxq) (h.ok x hxq) (by unfold Rw; simp [hR]) hyl
  · have hjl : j < Q.length := by omega
    rw [List.getElem?_append_left hjl] at hq
    exact mono z (h.clo j q hj hq z hz hRz)
  · rw [List.getElem?_append_left hil, hx] at hx'
    obtain rfl : x = x' := by simpa using hx'
    by_cases e : j = k
    · rw [e, hy] at hz
      obtain rfl : y = z := by simpa using hz
      rw [new]; omega
    · exact mono z (h.cur x hx j z (by omega) hz)
theorem PInv.skip (h : PInv zs v D0 D Q i k) {x y : Nat} (hx : Q[i]? = some x) (hy : (nbN zs x)[k]? = some y) (hn : 0 ≤ el D y) : PInv zs v D0 D Q i (k + 1) :=
  { h with
    cur := fun x' hx' j z hj hz => by
      rw [hx] at hx'
      obtain rfl : x = x' := by simpa using hx'
      by_cases e : j = k
      · rw [e, hy] at hz
        obtain rfl : y = z := by simpa using hz
        exact hn
      · exact h.cur x hx j z (by omega) hz }
theorem PInv.next {x : Nat} (hx : Q[i]? = some x) (h : PInv zs v D0 D Q i (nbN zs x).length) : PInv zs v D0 D Q (i + 1) 0 :=
  { h with
    clo := fun j q hj hq z hz hR => by
      by_cases e : j = i
      · rw [e, hx] at hq
        obtain rfl : x = q := by simpa using hq
        obtain ⟨m, hm, he⟩ := List.getElem_of_mem (nbN_mem.2 ⟨hz, hR⟩)
        exact h.cur x hx m z hm (by rw [List.getElem?_eq_getElem hm, he])
      · exact h.clo j q (by omega) hq z hz hR
    cur := fun x' _ j z hj => absurd hj (by omega) }

/-- What holds ahead of the pass with the number v. -/
structure LdInv (zs : List Int) (D : List Int) (v : Nat) : Prop where
  len : D.length = zs.length
  first : v = 0 → ∀ w, w < zs.length → el D w = -1
  zero : 1 ≤ v → ∀ w, w < zs.length → rch zs 0 w → el D w = 0
  least : 1 ≤ v → ∀ u, u < zs.length → ¬ rch zs 0 u → (∀ w, w < u → rch zs 0 w) → (v ≤ u → el D u < 0) ∧ (u < v → el D u = (u : Int))
theorem LdInv.start : LdInv zs (List.replicate zs.length (-1)) 0 :=
  ⟨by simp, fun _ w hw => elRep hw, fun h => absurd h (by omega), fun h => absurd h (by omega)⟩
theorem LdInv.skip (h : LdInv zs D v) (hv : v < zs.length) (hn : 0 ≤ el D v) : LdInv zs D (v + 1) := by
  have hv1 : 1 ≤ v := by
    refine Nat.pos_of_ne_zero fun e => ?_
    have := h.first e v hv
    omega
  refine ⟨h.len, fun e => absurd e (by omega), fun _ => h.zero hv1, fun _ u hu hr hw => ⟨fun hle => (h.least hv1 u hu hr hw).1 (by omega), fun hlt => ?_⟩⟩
  rcases Nat.lt_or_ge u v with h1 | h1
  · exact (h.least hv1 u hu hr hw).2 h1
  · obtain rfl : u = v := by omega
    have := (h.least hv1 u hu hr hw).1 (Nat.le_refl _)
    omega
theorem LdInv.pass (h : LdInv zs D0 v) (hv : v < zs.length) (hn : el D0 v < 0) (hp : PInv zs v D0 D Q Q.length 0) : LdInv zs D (v + 1) := by
  have closed : ∀ w, w ∈ Q → ∀ z, z < zs.length → bt (el zs w) z = true → 0 ≤ el D z := fun w hw z hz hR => by
    obtain ⟨j, hj, e⟩ := List.getElem_of_mem hw
    exact hp.clo j w hj (by rw [List.getElem?_eq_getElem hj, e]) z hz hR
  rcases Nat.eq_zero_or_pos v with e | hv1
  · subst e
    have hall := h.first rfl
    have key : ∀ d w, lev (Rw zs 0 0) zs.length 0 d w = true → w ∈ Q := by
      intro d
      induction d with
      | zero =>
        intro w hw
        rw [lev_zero] at hw
        have : w = 0 := by simpa using hw
        rw [this]; exact hp.vin
      | succ d ih =>
        intro w hw
        obtain ⟨hwl, _, x, hx, hl, hR⟩ := lev_succ_iff.1 hw
        have hR2 : bt (el zs x) w = true := by unfold Rw at hR; simp only [Bool.and_eq_true] at hR; exact hR.1
        have h0 := closed x (ih x hl) w hwl hR2
        refine Classical.byContradiction fun hq => ?_
        have := hp.notQ w hwl hq
        rw [hall w hwl] at this; omega
    refine ⟨hp.len, fun e => absurd e (by omega), fun _ w hw hr => ?_, fun _ u hu hr hw => ⟨fun _ => ?_, fun hlt => ?_⟩⟩
    · obtain ⟨d, hd⟩ := dOf_nat hr
      have := hp.inQ w (key d w (dOf_lt hd))
      rw [this]; rfl
    · have hq : u ∉ Q := fun hm => hr (hp.ok u hm)
      rw [hp.notQ u hu hq, hall u hu]; omega
    · have : u = 0 := by omega
      subst this
      exact absurd (rch_self hv) hr
  · refine ⟨hp.len, fun e => absurd e (by omega), fun _ w hw hr => ?_, fun _ u hu hr hw => ⟨fun hle => ?_, fun hlt => ?_⟩⟩
    · have := h.zero hv1 w hw hr
      rw [hp.keep w hw (by omega)]; exact this
    · have hvr := hw v (by omega)
      have := h.zero hv1 v hv hvr
      omega
    · rcases Nat.lt_or_ge u v with h1 | h1
      · have := (h.least hv1 u hu hr hw).2 h1
        rw [hp.keep u hu (by omega)]; exact this
      · obtain rfl : u = v := by omega
        exact hp.inQ u hp.vin

/-- How many of the first k numbers stand at their own places. -/
def ownC (D : List Int) (k : Nat) : Nat := ((List.range k).filter fun w => el D w == (w : Int)).length
theorem ownC_succ (D : List Int) (k : Nat) : ownC D (k + 1) = ownC D k + if el D k = (k : Int) then 1 else 0 := by
  unfold ownC
  rw [List.range_succ, List.filter_append, List.length_append]
  by_cases h : el D k = (k : Int) <;> simp [h]
theorem ownC_le (D : List Int) (k : Nat) : ownC D k ≤ k := by
  unfold ownC; exact Nat.le_trans (List.length_filter_le _ _) (by simp)
theorem ownC_mono (D : List Int) (a : Nat) : ∀ j, ownC D a ≤ ownC D (a + j)
  | 0 => Nat.le_refl _
  | j + 1 => by
    have := ownC_mono D a j
    rw [← Nat.add_assoc, ownC_succ]; omega
theorem LdInv.parts (h : LdInv zs D zs.length) (hp : 0 < zs.length) : (ownC D zs.length = 1) ↔ connB zs = true := by
  have z0 : el D 0 = 0 := h.zero hp 0 hp (rch_self hp)
  have o1 : ownC D 1 = 1 := by rw [ownC_succ, z0]; rfl
  constructor
  · intro e
    refine Classical.byContradiction fun hc => ?_
    have hex : ∃ u, u < zs.length ∧ ¬ rch zs 0 u := by
      refine Classical.byContradiction fun hn => hc ?_
      unfold connB
      rw [List.all_eq_true]
      intro w hw
      rw [List.mem_range] at hw
      rw [dsL_at hw, decide_eq_true_iff]
      exact Classical.byContradiction fun h1 => hn ⟨w, hw, h1⟩
    obtain ⟨u, hu, hr, hmin⟩ : ∃ u, u < zs.length ∧ ¬ rch zs 0 u ∧ ∀ w, w < u → rch zs 0 w := by
      obtain ⟨u, hu⟩ := hex
      induction u using Nat.strongRecOn with
      | ind u ih =>
        by_cases hm : ∀ w, w < u → rch zs 0 w
        · exact ⟨u, hu.1, hu.2, hm⟩
        · have : ∃ w, w < u ∧ ¬ rch zs 0 w := Classical.byContradiction fun hn => hm fun w hw => Classical.byContradiction fun h1 => hn ⟨w, hw, h1⟩
          obtain ⟨w, hw, h1⟩ := this
          exact ih w hw ⟨by omega, h1⟩
    have hu0 : 1 ≤ u := Nat.pos_of_ne_zero fun e0 => hr (by rw [e0]; exact rch_self hp)
    have eu := (h.least hp u hu hr hmin).2 hu
    have m1 := ownC_mono D 1 (u - 1)
    have m2 := ownC_mono D (u + 1) (zs.length - (u + 1))
    rw [show 1 + (u - 1) = u by omega] at m1
    rw [show u + 1 + (zs.length - (u + 1)) = zs.length by omega, ownC_succ, if_pos eu] at m2
    omega
  · intro hc
    unfold connB at hc
    rw [List.all_eq_true] at hc
    have hz : ∀ w, w < zs.length → el D w = 0 := fun w hw => h.zero hp w hw (by
      have := hc w (List.mem_range.2 hw)
      rw [dsL_at hw, decide_eq_true_iff] at this; exact this)
    have key : ∀ j, 1 + j ≤ zs.length → ownC D (1 + j) = 1 := by
      intro j
      induction j with
      | zero => intro _; exact o1
      | succ j ih =>
        intro hj
        rw [← Nat.add_assoc, ownC_succ, ih (by omega), hz (1 + j) (by omega), if_neg (by omega)]
    have := key (zs.length - 1) (by omega)
    rw [show 1 + (zs.length - 1) = zs.length by omega] at this
    exact this
end Go.Proofs.YtbacocldjcenjaaDoor
