/-
  The least vertices of parts, as the model's l01Leaders finds them, all of them: plain facts.
-/
import Derived.Test.YtbacocldjcenjaaDoorLd
import Derived.Test.YtbacocldjcenjaaDoorSy
namespace Go.Proofs.YtbacocldjcenjaaDoor
set_option maxRecDepth 100000
open Go.RowKit

variable {zs : List Int} {v : Nat} {D0 D : List Int} {Q : List Nat}
theorem rch_lt {u w : Nat} (hu : u < zs.length) (h : rch zs u w) : w < zs.length := by
  obtain ⟨d, hd⟩ := dOf_nat h
  exact lev_lt hu (dOf_lt hd)
theorem rch_step {u x w : Nat} (hu : u < zs.length) (h : rch zs u x) (hR : bt (el zs x) w = true) (hw : w < zs.length) : rch zs u w :=
  reach_step hu (rch_lt hu h) h (by rw [Rw_zero]; exact hR) hw
theorem rch_trans {u x w : Nat} (hu : u < zs.length) (h1 : rch zs u x) (h2 : rch zs x w) : rch zs u w := by
  have hx := rch_lt hu h1
  obtain ⟨d, hd⟩ := dOf_nat h2
  have key : ∀ d w, lev (Rw zs x 0) zs.length x d w = true → rch zs u w := by
    intro d
    induction d with
    | zero =>
      intro w hw
      rw [lev_zero] at hw
      have : w = x := by simpa using hw
      rw [this]; exact h1
    | succ d ih =>
      intro w hw
      obtain ⟨hwl, _, y, _, hl, hR⟩ := lev_succ_iff.1 hw
      rw [Rw_zero] at hR
      exact rch_step hu (ih y hl) hR hwl
  exact key d w (dOf_lt hd)
theorem rch_symm (sym : ∀ a b, a < zs.length → b < zs.length → bt (el zs b) a = bt (el zs a) b) {u w : Nat} (hu : u < zs.length) (h : rch zs u w) : rch zs w u := by
  have hw := rch_lt hu h
  unfold rch
  rw [Rw_same zs w u, dOf_symm (fun a b ha hb => by rw [Rw_zero, Rw_zero]; exact sym a b ha hb) hw hu]
  exact h
/-- u is the least vertex of the part of w. -/
def ldB (zs : List Int) (u w : Nat) : Prop := rch zs u w ∧ ∀ y, y < u → ¬ rch zs y w
theorem ldB_ex {w : Nat} (hw : w < zs.length) : ∃ u, u ≤ w ∧ ldB zs u w := by
  have : ∀ k, (∃ y, y < k ∧ rch zs y w) → ∃ u, u < k ∧ ldB zs u w := by
    intro k
    induction k with
    | zero => rintro ⟨y, hy, _⟩; omega
    | succ k ih =>
      rintro ⟨y, hy, h⟩
      by_cases hex : ∃ y, y < k ∧ rch zs y w
      · obtain ⟨u, hu, h⟩ := ih hex
        exact ⟨u, by omega, h⟩
      · have hyk : y = k := by
          refine Classical.byContradiction fun hne => hex ⟨y, by omega, h⟩
        subst hyk
        exact ⟨y, by omega, h, fun z hz hr => hex ⟨z, hz, hr⟩⟩
  obtain ⟨u, hu, h⟩ := this (w + 1) ⟨w, by omega, rch_self hw⟩
  exact ⟨u, by omega, h⟩
theorem ldB_uniq {u y w : Nat} (h : ldB zs u w) (g : ldB zs y w) : u = y := by
  rcases Nat.lt_trichotomy u y with e | e | e
  · exact absurd h.1 (g.2 u e)
  · exact e
  · exact absurd g.1 (h.2 y e)

/-- What holds ahead of the pass with the number v. -/
structure LdF (zs : List Int) (D : List Int) (v : Nat) : Prop where
  sym : ∀ a b, a < zs.length → b < zs.length → bt (el zs b) a = bt (el zs a) b
  len : D.length = zs.length
  met : ∀ w u, w < zs.length → u < v → ldB zs u w → el D w = (u : Int)
  far : ∀ w, w < zs.length → (∀ u, u < v → ¬ rch zs u w) → el D w = -1
theorem LdF.start (sym : ∀ a b, a < zs.length → b < zs.length → bt (el zs b) a = bt (el zs a) b) : LdF zs (List.replicate zs.length (-1)) 0 :=
  ⟨sym, by simp, fun _ u _ hu => absurd hu (by omega), fun w hw _ => elRep hw⟩
theorem LdF.old (h : LdF zs D v) (hv : v < zs.length) (hn : 0 ≤ el D v) : ∃ u, u < v ∧ rch zs u v := by
  refine Classical.byContradiction fun hno => ?_
  have := h.far v hv fun u hu hr => hno ⟨u, hu, hr⟩
  omega
theorem LdF.new (h : LdF zs D v) (hv : v < zs.length) (hn : el D v < 0) : ∀ u, u < v → ¬ rch zs u v := by
  intro u hu hr
  obtain ⟨y, hy, hl⟩ := ldB_ex hv
  have hyu : y ≤ u := Nat.le_of_not_lt fun e => hl.2 u e hr
  have := h.met v y hv (by omega) hl
  omega
theorem LdF.skip (h : LdF zs D v) (hv : v < zs.length) (hn : 0 ≤ el D v) : LdF zs D (v + 1) := by
  obtain ⟨u0, hu0, hr0⟩ := h.old hv hn
  refine ⟨h.sym, h.len, fun w u hw hu hl => ?_, fun w hw hf => h.far w hw fun u hu => hf u (by omega)⟩
  rcases Nat.lt_or_ge u v with h1 | h1
  · exact h.met w u hw h1 hl
  · obtain rfl : u = v := by omega
    exact absurd (rch_trans (by omega) hr0 hl.1) (hl.2 u0 hu0)
theorem LdF.inQ (h : LdF zs D0 v) (hv : v < zs.length) (hn : el D0 v < 0) (hp : PInv zs v D0 D Q Q.length 0) : ∀ w, w < zs.length → (w ∈ Q ↔ rch zs v w) := by
  have hnew := h.new hv hn
  have far : ∀ w, w < zs.length → rch zs v w → el D0 w = -1 := fun w hw hr => h.far w hw fun u hu hru =>
    hnew u hu (rch_trans (by omega) hru (rch_symm h.sym hv hr))
  have closed : ∀ w, w ∈ Q → ∀ z, z < zs.length → bt (el zs w) z = true → 0 ≤ el D z := fun w hw z hz hR => by
    obtain ⟨j, hj, e⟩ := List.getElem_of_mem hw
    exact hp.clo j w hj (by rw [List.getElem?_eq_getElem hj, e]) z hz hR
  have key : ∀ d w, lev (Rw zs v 0) zs.length v d w = true → w ∈ Q := by
    intro d
    induction d with
    | zero =>
      intro w hw
      rw [lev_zero] at hw
      have : w = v := by simpa using hw
      rw [this]; exact hp.vin
    | succ d ih =>
      intro w hw
      obtain ⟨hwl, _, x, hx, hl, hR⟩ := lev_succ_iff.1 hw
      have hR2 : bt (el zs x) w = true := by rw [Rw_zero] at hR; exact hR
      have h0 := closed x (ih x hl) w hwl hR2
      refine Classical.byContradiction fun hq => ?_
      have h1 := hp.notQ w hwl hq
      have h2 := far w hwl (rch_step hv (hp.ok x (ih x hl)) hR2 hwl)
      omega
  intro w _
  constructor
  · exact hp.ok w
  · intro hr
    obtain ⟨d, hd⟩ := dOf_nat hr
    exact key d w (dOf_lt hd)
theorem LdF.pass (h : LdF zs D0 v) (hv : v < zs.length) (hn : el D0 v < 0) (hp : PInv zs v D0 D Q Q.length 0) : LdF zs D (v + 1) := by
  have hq := h.inQ hv hn hp
  have hnew := h.new hv hn
  refine ⟨h.sym, hp.len, fun w u hw hu hl => ?_, fun w hw hf => ?_⟩
  · rcases Nat.lt_or_ge u v with h1 | h1
    · have hne : w ∉ Q := fun hm => hnew u h1 (rch_trans (by omega) hl.1 (rch_symm h.sym hv ((hq w hw).1 hm)))
      rw [hp.notQ w hw hne]
      exact h.met w u hw h1 hl
    · obtain rfl : u = v := by omega
      exact hp.inQ w ((hq w hw).2 hl.1)
  · have hne : w ∉ Q := fun hm => hf v (by omega) ((hq w hw).1 hm)
    rw [hp.notQ w hw hne]
    exact h.far w hw fun u hu => hf u (by omega)
/-- The list of leaders. -/
theorem LdF.all (h : LdF zs D zs.length) {w : Nat} (hw : w < zs.length) : ∃ u, u ≤ w ∧ ldB zs u w ∧ el D w = (u : Int) := by
  obtain ⟨u, hu, hl⟩ := ldB_ex hw
  exact ⟨u, hu, hl, h.met w u hw (by omega) hl⟩
end Go.Proofs.YtbacocldjcenjaaDoor
