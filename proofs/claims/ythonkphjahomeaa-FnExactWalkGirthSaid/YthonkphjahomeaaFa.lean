/-
  When a lift is faithful: plain facts. (A plain seat of bases and graphs of pairs.)
-/
import Derived.Test.YthonkphjahomeaaLj
namespace Go.Proofs.Ythonkphjahomeaa
set_option maxRecDepth 100000
open Go.RowKit

theorem md2 {m x : Nat} (h : x < m + m) : x % m = if x < m then x else x - m := by
  split
  · rename_i h1; exact Nat.mod_eq_of_lt h1
  · rename_i h1; rw [Nat.mod_eq_sub_mod (by omega), Nat.mod_eq_of_lt (by omega)]
theorem mul_two {m a b i j : Nat} (hi : i < m) (hj : j < m) (h : a * m + i = b * m + j) : a = b ∧ i = j := by
  have h1 : (a * m + i) / m = a := by rw [Nat.add_comm, Nat.add_mul_div_right _ _ (by omega), Nat.div_eq_of_lt hi, Nat.zero_add]
  have h2 : (b * m + j) / m = b := by rw [Nat.add_comm, Nat.add_mul_div_right _ _ (by omega), Nat.div_eq_of_lt hj, Nat.zero_add]
  rw [h] at h1
  have e : a = b := h1.symm.trans h2
  subst e
  exact ⟨rfl, by omega⟩

def opp (m c : Nat) : Nat := (m - c) % m
theorem opp_eq {m c : Nat} (h : c < m) : opp m c = if c = 0 then 0 else m - c := by
  unfold opp
  rw [md2 (by omega)]
  split <;> split <;> omega
/-- The three numbers of step s: arc s / 2, the other way around where s is odd. -/
def stA (m : Nat) (fs : List Int) (s d : Nat) : Nat :=
  if s % 2 = 0 then av fs (s / 2) d else if d = 0 then av fs (s / 2) 1 else if d = 1 then av fs (s / 2) 0 else opp m (av fs (s / 2) 2)
def stE (m : Nat) (fs : List Int) (s t : Nat) : Prop := stA m fs s 0 = stA m fs t 0 ∧ stA m fs s 1 = stA m fs t 1 ∧ stA m fs s 2 = stA m fs t 2
def sameA (fs : List Int) (j i : Nat) : Prop := av fs j 0 = av fs i 0 ∧ av fs j 1 = av fs i 1 ∧ av fs j 2 = av fs i 2
def revA (m : Nat) (fs : List Int) (j i : Nat) : Prop := av fs i 0 = av fs j 1 ∧ av fs i 1 = av fs j 0 ∧ av fs i 2 = opp m (av fs j 2)
def okA (m : Nat) (fs : List Int) (j : Nat) : Prop := ¬ revA m fs j j ∧ ∀ i, i < j → ¬ sameA fs j i ∧ ¬ revA m fs j i

theorem stA_even (m : Nat) (fs : List Int) (j d : Nat) : stA m fs (2 * j) d = av fs j d := by
  unfold stA; rw [if_pos (by omega), show 2 * j / 2 = j by omega]
theorem stA_odd0 (m : Nat) (fs : List Int) (j : Nat) : stA m fs (2 * j + 1) 0 = av fs j 1 := by
  unfold stA; rw [if_neg (by omega), show (2 * j + 1) / 2 = j by omega, if_pos rfl]
theorem stA_odd1 (m : Nat) (fs : List Int) (j : Nat) : stA m fs (2 * j + 1) 1 = av fs j 0 := by
  unfold stA; rw [if_neg (by omega), show (2 * j + 1) / 2 = j by omega, if_neg (by omega), if_pos rfl]
theorem stA_odd2 (m : Nat) (fs : List Int) (j : Nat) : stA m fs (2 * j + 1) 2 = opp m (av fs j 2) := by
  unfold stA; rw [if_neg (by omega), show (2 * j + 1) / 2 = j by omega, if_neg (by omega), if_neg (by omega)]

theorem steps_iff {n m k : Nat} {fs : List Int} (h : AvOk n m k fs) : (∀ s, s < 2 * k → ∀ t, t < s → ¬ stE m fs s t) ↔ ∀ j, j < k → okA m fs j := by
  constructor
  · intro H j hj
    have hc := (h.two hj).2
    have ho := opp_eq hc
    refine ⟨fun ⟨r0, r1, r2⟩ => H (2 * j + 1) (by omega) (2 * j) (by omega) ⟨?_, ?_, ?_⟩, fun i hi => ⟨fun ⟨r0, r1, r2⟩ => H (2 * j) (by omega) (2 * i) (by omega) ⟨?_, ?_, ?_⟩, fun ⟨r0, r1, r2⟩ => H (2 * j + 1) (by omega) (2 * i) (by omega) ⟨?_, ?_, ?_⟩⟩⟩ <;>
      simp only [stA_even, stA_odd0, stA_odd1, stA_odd2] <;> omega
  · intro H s hs t ht ⟨e0, e1, e2⟩
    obtain ⟨H1, H2⟩ := H (s / 2) (by omega)
    have hcs := (h.two (show s / 2 < k by omega)).2
    have hct := (h.two (show t / 2 < k by omega)).2
    have hos := opp_eq hcs
    have hot := opp_eq hct
    rcases (by omega : (s = 2 * (s / 2)) ∨ (s = 2 * (s / 2) + 1)) with es | es <;> rcases (by omega : (t = 2 * (t / 2)) ∨ (t = 2 * (t / 2) + 1)) with et | et <;>
      rw [es, et] at e0 e1 e2 <;> simp only [stA_even, stA_odd0, stA_odd1, stA_odd2] at e0 e1 e2
    · exact (H2 (t / 2) (by omega)).1 ⟨e0, e1, e2⟩
    · exact (H2 (t / 2) (by omega)).2 ⟨by omega, by omega, by
        split at hos <;> split at hot <;> omega⟩
    · by_cases hj : s / 2 = t / 2
      · rw [← hj] at e0 e1 e2
        exact H1 ⟨by omega, by omega, by omega⟩
      · exact (H2 (t / 2) (by omega)).2 ⟨by omega, by omega, by omega⟩
    · exact (H2 (t / 2) (by omega)).1 ⟨by omega, by omega, by split at hos <;> split at hot <;> omega⟩

theorem fthO_iff (m : Nat) (fs : List Int) : ∀ k, fthO m fs k = true ↔ ∀ j, j < k → fthI m fs j m = true
  | 0 => by simp [fthO]
  | k + 1 => by
    rw [fthO, Bool.and_eq_true, fthO_iff m fs k]
    constructor
    · rintro ⟨h1, h2⟩ j hj
      by_cases e : j = k
      · subst e; exact h2
      · exact h1 j (by omega)
    · intro h
      exact ⟨fun j hj => h j (by omega), h k (by omega)⟩
theorem fthI_iff (m : Nat) (fs : List Int) (j : Nat) : ∀ x, fthI m fs j x = true ↔ ∀ i, i < x → (arcP m fs j i).1 ≠ (arcP m fs j i).2 ∧ adjS (lfS m fs j ++ arcN m fs j (List.range i)) (arcP m fs j i).1 (arcP m fs j i).2 = false
  | 0 => by simp [fthI]
  | x + 1 => by
    rw [fthI, Bool.and_eq_true, fthI_iff m fs j x, Bool.not_eq_true', Bool.or_eq_false_iff, beq_eq_false_iff_ne]
    constructor
    · rintro ⟨h1, h2⟩ i hi
      by_cases e : i = x
      · subst e; exact h2
      · exact h1 i (by omega)
    · intro h
      exact ⟨fun i hi => h i (by omega), h x (by omega)⟩
theorem mem_arcN {m : Nat} {fs : List Int} {j : Nat} {is : List Nat} {p : Nat × Nat} : p ∈ arcN m fs j is ↔ ∃ i, i ∈ is ∧ arcP m fs j i = p ∧ p.1 ≠ p.2 := by
  unfold arcN
  rw [List.mem_filter, List.mem_map]
  constructor
  · rintro ⟨⟨i, h1, h2⟩, h3⟩; exact ⟨i, h1, h2, by simpa using h3⟩
  · rintro ⟨i, h1, h2, h3⟩; exact ⟨⟨i, h1, h2⟩, by simpa using h3⟩
theorem mem_lfS {m : Nat} {fs : List Int} {p : Nat × Nat} : ∀ {j}, p ∈ lfS m fs j ↔ ∃ a, a < j ∧ p ∈ arcN m fs a (List.range m)
  | 0 => by simp [lfS]
  | j + 1 => by
    rw [lfS, List.mem_append, mem_lfS]
    constructor
    · rintro (⟨a, h1, h2⟩ | h)
      · exact ⟨a, by omega, h2⟩
      · exact ⟨j, by omega, h⟩
    · rintro ⟨a, h1, h2⟩
      by_cases e : a = j
      · subst e; exact .inr h2
      · exact .inl ⟨a, by omega, h2⟩
theorem arcP_in {m : Nat} {fs : List Int} {j i : Nat} (hc : av fs j 2 < m) (hi : i < m) : ∃ r, r < m ∧ arcP m fs j i = (av fs j 0 * m + i, av fs j 1 * m + r) ∧ r = if i + av fs j 2 < m then i + av fs j 2 else i + av fs j 2 - m :=
  ⟨(i + av fs j 2) % m, Nat.mod_lt _ (by omega), rfl, md2 (by omega)⟩
/-- An arc of the lift that was joined before. -/
theorem adj_of {S : List (Nat × Nat)} {p : Nat × Nat} (hp : p ∈ S) {a b : Nat} (h : (p.1 = a ∧ p.2 = b) ∨ (p.1 = b ∧ p.2 = a)) : adjS S a b = true :=
  (adjS_iff S a b).2 ⟨p, hp, by omega, by omega⟩
theorem adj_to {S : List (Nat × Nat)} {a b : Nat} (h : adjS S a b = true) : ∃ p, p ∈ S ∧ ((p.1 = a ∧ p.2 = b) ∨ (p.1 = b ∧ p.2 = a)) := by
  obtain ⟨p, hp, h1, h2⟩ := (adjS_iff S a b).1 h
  exact ⟨p, hp, by omega⟩

theorem fthI_ok {n m k : Nat} {fs : List Int} (h : AvOk n m k fs) {j : Nat} (hj : j < k) : fthI m fs j m = true ↔ okA m fs j := by
  have hc := (h.two hj).2
  have ho := opp_eq hc
  rw [fthI_iff]
  constructor
  · intro H
    have hm : 0 < m := by omega
    obtain ⟨r, hr, hP, er⟩ := arcP_in (fs := fs) hc hm
    obtain ⟨g1, g2⟩ := H 0 hm
    rw [hP] at g1 g2
    simp only at g1 g2
    refine ⟨fun ⟨r0, r1, r2⟩ => ?_, fun i hi => ⟨fun ⟨r0, r1, r2⟩ => ?_, fun ⟨r0, r1, r2⟩ => ?_⟩⟩
    · by_cases hz : av fs j 2 = 0
      · exact g1 (by rw [r0, show r = 0 by rw [er, if_pos (by omega)]; omega])
      · rw [if_neg hz] at ho
        obtain ⟨q, hq, hQ, eq⟩ := arcP_in (fs := fs) (i := av fs j 2) hc hc
        obtain ⟨g3, g4⟩ := H (av fs j 2) hc
        rw [hQ] at g3 g4
        simp only at g3 g4
        have e0 : r = av fs j 2 := by rw [er, if_pos (by omega)]; omega
        have e1 : q = 0 := by rw [eq, if_neg (by omega)]; omega
        have : adjS (lfS m fs j ++ arcN m fs j (List.range (av fs j 2))) (av fs j 0 * m + av fs j 2) (av fs j 1 * m + q) = true := by
          refine adj_of (p := arcP m fs j 0) (List.mem_append_right _ (mem_arcN.2 ⟨0, List.mem_range.2 (by omega), rfl, by rw [hP]; exact g1⟩)) (.inr ?_)
          rw [hP, e0, e1]
          simp only [r0]
          exact ⟨trivial, trivial⟩
        rw [g4] at this; cases this
    · have hci := (h.two (show i < k by omega)).2
      obtain ⟨q, hq, hQ, eq⟩ := arcP_in (fs := fs) hci hm
      have e : q = r := by rw [eq, er, r2]
      have : adjS (lfS m fs j ++ arcN m fs j (List.range 0)) (av fs j 0 * m + 0) (av fs j 1 * m + r) = true := by
        refine adj_of (p := arcP m fs i 0) (List.mem_append_left _ (mem_lfS.2 ⟨i, hi, mem_arcN.2 ⟨0, List.mem_range.2 hm, rfl, ?_⟩⟩)) (.inl ?_)
        · rw [hQ, e, ← r0, ← r1]; exact g1
        · rw [hQ, e, ← r0, ← r1]; exact ⟨rfl, rfl⟩
      rw [g2] at this; cases this
    · have hci := (h.two (show i < k by omega)).2
      have hr0 : r = av fs j 2 := by rw [er, if_pos (by omega)]; omega
      obtain ⟨q, hq, hQ, eq⟩ := arcP_in (fs := fs) (i := r) hci hr
      have e : q = 0 := by
        rw [eq, hr0, r2, ho]
        split <;> split <;> omega
      have : adjS (lfS m fs j ++ arcN m fs j (List.range 0)) (av fs j 0 * m + 0) (av fs j 1 * m + r) = true := by
        refine adj_of (p := arcP m fs i r) (List.mem_append_left _ (mem_lfS.2 ⟨i, hi, mem_arcN.2 ⟨r, List.mem_range.2 hr, rfl, ?_⟩⟩)) (.inr ?_)
        · rw [hQ, e, r0, r1]; exact fun x => g1 x.symm
        · rw [hQ, e, r0, r1]; exact ⟨rfl, rfl⟩
      rw [g2] at this; cases this
  · rintro ⟨H1, H2⟩ i hi
    obtain ⟨r, hr, hP, er⟩ := arcP_in (fs := fs) hc hi
    rw [hP]
    simp only
    refine ⟨fun hV => ?_, ?_⟩
    · obtain ⟨x0, x1⟩ := mul_two hi hr hV
      refine H1 ⟨x0, x0.symm, ?_⟩
      split at er <;> rw [ho] <;> split <;> omega
    · cases hA : adjS (lfS m fs j ++ arcN m fs j (List.range i)) (av fs j 0 * m + i) (av fs j 1 * m + r)
      · rfl
      · exfalso
        obtain ⟨p, hp, hpp⟩ := adj_to hA
        rcases List.mem_append.1 hp with hp | hp
        · obtain ⟨a, ha, hp⟩ := mem_lfS.1 hp
          obtain ⟨b, hb, hp, hne⟩ := mem_arcN.1 hp
          have hca := (h.two (show a < k by omega)).2
          have hb := List.mem_range.1 hb
          obtain ⟨q, hq, hQ, eq⟩ := arcP_in (fs := fs) hca hb
          rw [hQ] at hp
          subst hp
          simp only at hpp
          rcases hpp with ⟨y0, y1⟩ | ⟨y0, y1⟩
          · obtain ⟨u0, u1⟩ := mul_two hb hi y0
            obtain ⟨v0, v1⟩ := mul_two hq hr y1
            refine (H2 a ha).1 ⟨u0.symm, v0.symm, ?_⟩
            split at er <;> split at eq <;> omega
          · obtain ⟨u0, u1⟩ := mul_two hb hr y0
            obtain ⟨v0, v1⟩ := mul_two hq hi y1
            refine (H2 a ha).2 ⟨u0, v0, ?_⟩
            rw [ho]
            split at er <;> split at eq <;> split <;> omega
        · obtain ⟨b, hb, hp, hne⟩ := mem_arcN.1 hp
          have hb := List.mem_range.1 hb
          obtain ⟨q, hq, hQ, eq⟩ := arcP_in (fs := fs) hc (show b < m by omega)
          rw [hQ] at hp
          subst hp
          simp only at hpp
          rcases hpp with ⟨y0, y1⟩ | ⟨y0, y1⟩
          · obtain ⟨u0, u1⟩ := mul_two (show b < m by omega) hi y0
            omega
          · obtain ⟨u0, u1⟩ := mul_two (show b < m by omega) hr y0
            obtain ⟨v0, v1⟩ := mul_two hq hi y1
            refine H1 ⟨u0, v0, ?_⟩
            rw [ho]
            split at er <;> split at eq <;> split <;> omega

/-- Whether the steps differ, pair by pair. -/
def ndI (m : Nat) (fs : List Int) (s t : Nat) : Prop := ∀ x, x < t → ¬ stE m fs s x
theorem faith_iff {n m k : Nat} {fs : List Int} (h : AvOk n m k fs) : fthO m fs k = true ↔ ∀ s, s < 2 * k → ndI m fs s s := by
  rw [fthO_iff]
  refine Iff.trans ⟨fun H j hj => (fthI_ok h hj).1 (H j hj), fun H j hj => (fthI_ok h hj).2 (H j hj)⟩ (steps_iff h).symm
end Go.Proofs.Ythonkphjahomeaa
