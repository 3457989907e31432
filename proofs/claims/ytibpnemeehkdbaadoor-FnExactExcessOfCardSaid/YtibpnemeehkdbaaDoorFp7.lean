/-
  Distances without an edge, owned lists read: plain facts (Fb7 and Fi7 hold the same under other names; here for claims that need no filled graphs).
-/
import Derived.Test.YtibpnemeehkdbaaDoorMj7
import Derived.Test.YtibpnemeehkdbaaDoorTl7
namespace Go.Proofs.YtibpnemeehkdbaaDoor
set_option maxRecDepth 100000
set_option maxRecDepth 100000
open Go.RowKit

theorem own_some9 {w : World} {B : Nat} {u : Value} {L : List Int} {m : Nat} (h : Own w B u L) (hl : L.length = m) (hm : 0 < m) : ∃ g cap, u = .slice (some ⟨g, 0, none⟩) m cap ∧ B ≤ g ∧ g < w.heap.size := by
  subst hl
  rcases h.form with ⟨_, h0⟩ | ⟨g, cap, h1, h2, h3⟩
  · rw [h0] at hm; cases hm
  · exact ⟨g, cap, h1, h2, h3⟩
theorem own_cells9 {w : World} {B g cap m : Nat} {L : List Int} (h : Own w B (.slice (some ⟨g, 0, none⟩) m cap) L) (hl : L.length = m) : Cells w g 0 L := fun i hi => by
  subst hl
  rw [Nat.zero_add]
  exact (World.ownsRow.cellAt h i (by simpa using hi)).trans (map_at L i hi)

theorem lm_agree9 {R R' : Nat → Nat → Bool} {n v w : Nat} (hR : ∀ a b, a < n → b < n → a ≠ w → R a b = R' a b) : ∀ d, (∀ e, e < d → lev R n v e w = false) → ∀ u, lev R n v d u = lev R' n v d u ∧ met R n v d u = met R' n v d u
  | 0, _, _ => ⟨rfl, rfl⟩
  | d + 1, h, u => by
    have ih := lm_agree9 hR d (fun e he => h e (by omega))
    have hl : lev R n v (d + 1) u = lev R' n v (d + 1) u := by
      have hne : ∀ x, lev R n v d x = true → x ≠ w := by
        rintro x h1 rfl
        rw [h d (by omega)] at h1; cases h1
      rw [Bool.eq_iff_iff, lev_succ_iff, lev_succ_iff, (ih u).2]
      constructor
      · rintro ⟨hu, hm, x, hx, h1, h2⟩
        exact ⟨hu, hm, x, hx, by rw [← (ih x).1]; exact h1, by rw [← hR x u hx hu (hne x h1)]; exact h2⟩
      · rintro ⟨hu, hm, x, hx, h1, h2⟩
        have h3 : lev R n v d x = true := by rw [(ih x).1]; exact h1
        exact ⟨hu, hm, x, hx, h3, by rw [hR x u hx hu (hne x h3)]; exact h2⟩
    refine ⟨hl, ?_⟩
    rw [met_succ, met_succ, (ih u).2, hl]
theorem dOf_agree9 {R R' : Nat → Nat → Bool} {n v w : Nat} (hv : v < n) (hR : ∀ a b, a < n → b < n → a ≠ w → R a b = R' a b) : dOf R n v w = dOf R' n v w := by
  by_cases h : ∃ d, lev R n v d w = true
  · obtain ⟨d, hd⟩ := h
    have h1 := (lm_agree9 hR d (fun e he => by
      cases hl : lev R n v e w with
      | false => rfl
      | true => exact absurd (lev_uniq hl hd) (by omega)) w).1
    rw [hd] at h1
    rw [dOf_lev hv hd, dOf_lev hv h1.symm]
  · have hno : ∀ d, lev R n v d w = false := fun d => by
      cases hl : lev R n v d w with
      | false => rfl
      | true => exact absurd ⟨d, hl⟩ h
    rw [dOf_none hno, dOf_none fun d => by rw [← (lm_agree9 hR d (fun e _ => hno e) w).1]; exact hno d]
/-- Without its edge two vertices are as far as without the way over the edge. -/
theorem cyD_cut9 {zs : List Int} {v w : Nat} (hv : v < zs.length) (hw : w < zs.length) (hb : bt (el zs v) w = true) : cyD (flipL zs v w) v 0 w = cyD zs v (2 ^ w) w := by
  unfold cyD
  rw [flipL_length]
  refine (dOf_agree9 hv fun a b ha hb' hne => ?_).symm
  unfold Rw
  rw [el_flip hv hw ha, if_neg hne]
  by_cases e : a = v
  · subst e
    rw [if_pos rfl, bt_flip, Nat.testBit_two_pow]
    by_cases e2 : w = b
    · subst e2; simp [hb]
    · simp [e2]
  · rw [if_neg e]; simp [e]

end Go.Proofs.YtibpnemeehkdbaaDoor
