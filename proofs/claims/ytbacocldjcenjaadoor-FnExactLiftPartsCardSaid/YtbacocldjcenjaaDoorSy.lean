/-
  Distances go both ways: plain facts.
-/
import Derived.Test.YtbacocldjcenjaaDoorRm
namespace Go.Proofs.YtbacocldjcenjaaDoor
set_option maxRecDepth 100000
open Go.RowKit

/-- There is a way of d steps from v to w. -/
def wk (R : Nat → Nat → Bool) (n v : Nat) : Nat → Nat → Prop
  | 0, w => w = v
  | d + 1, w => w < n ∧ ∃ x, x < n ∧ wk R n v d x ∧ R x w = true
theorem wk_front {R : Nat → Nat → Bool} {n v x : Nat} (hv : v < n) (hx : x < n) (hR : R v x = true) : ∀ d w, wk R n x d w → wk R n v (d + 1) w
  | 0, w, h => by
    obtain rfl : w = x := h
    exact ⟨hx, v, hv, rfl, hR⟩
  | d + 1, w, ⟨hw, y, hy, h, hR2⟩ => ⟨hw, y, hy, wk_front hv hx hR d y h, hR2⟩
theorem wk_back {R : Nat → Nat → Bool} {n v : Nat} (sym : ∀ a b, a < n → b < n → R b a = R a b) : ∀ d w, w < n → wk R n v d w → wk R n w d v
  | 0, w, _, h => by
    obtain rfl : w = v := h
    exact rfl
  | d + 1, w, hw, ⟨_, x, hx, h, hR⟩ => wk_front hw hx (by rw [sym x w hx hw]; exact hR) d v (wk_back sym d x hx h)
theorem wk_met {R : Nat → Nat → Bool} {n v : Nat} : ∀ d w, wk R n v d w → ∃ k, k ≤ d ∧ lev R n v k w = true
  | 0, w, h => ⟨0, Nat.le_refl _, by have : w = v := h; rw [lev_zero]; simpa using this⟩
  | d + 1, w, ⟨hw, x, hx, h, hR⟩ => by
    obtain ⟨k, hk, hl⟩ := wk_met d x h
    cases hm : met R n v k w with
    | true =>
      obtain ⟨j, hj, hj2⟩ := met_iff.1 hm
      exact ⟨j, by omega, hj2⟩
    | false => exact ⟨k + 1, by omega, lev_succ_iff.2 ⟨hw, hm, x, hx, hl, hR⟩⟩
theorem lev_wk {R : Nat → Nat → Bool} {n v : Nat} : ∀ d w, lev R n v d w = true → wk R n v d w
  | 0, w, h => by rw [lev_zero] at h; show w = v; simpa using h
  | d + 1, w, h => by
    obtain ⟨h1, _, x, hx, hl, hR⟩ := lev_succ_iff.1 h
    exact ⟨h1, x, hx, lev_wk d x hl, hR⟩
theorem dOf_le {R : Nat → Nat → Bool} {n v w : Nat} (sym : ∀ a b, a < n → b < n → R b a = R a b) (hw : w < n) (h : 0 ≤ dOf R n v w) : 0 ≤ dOf R n w v ∧ dOf R n w v ≤ dOf R n v w := by
  obtain ⟨d, hd⟩ := dOf_nat h
  obtain ⟨k, hk, hl⟩ := wk_met d v (wk_back sym d w hw (lev_wk d w (dOf_lt hd)))
  rw [dOf_lev hw hl, hd]
  omega
theorem dOf_symm {R : Nat → Nat → Bool} {n v w : Nat} (sym : ∀ a b, a < n → b < n → R b a = R a b) (hv : v < n) (hw : w < n) : dOf R n v w = dOf R n w v := by
  have g1 : -1 ≤ dOf R n v w := dOf_ge
  have g2 : -1 ≤ dOf R n w v := dOf_ge
  by_cases h : 0 ≤ dOf R n v w
  · have h1 := dOf_le sym hw h
    have h2 := dOf_le sym hv h1.1
    omega
  · by_cases h2 : 0 ≤ dOf R n w v
    · have := dOf_le sym hv h2
      omega
    · omega
theorem Rw_zero (zs : List Int) (v x w : Nat) : Rw zs v 0 x w = bt (el zs x) w := by unfold Rw; simp
theorem Rw_same (zs : List Int) (v u : Nat) : Rw zs v 0 = Rw zs u 0 := by funext x w; rw [Rw_zero, Rw_zero]
theorem dist_symm {n : Int} {zs : List Int} (hg : isG n zs = true) {v w : Nat} (hv : v < zs.length) (hw : w < zs.length) : dOf (Rw zs v 0) zs.length v w = dOf (Rw zs w 0) zs.length w v := by
  rw [Rw_same zs w v]
  exact dOf_symm (fun a b ha hb => by rw [Rw_zero, Rw_zero]; exact isG_symm hg ha hb) hv hw
end Go.Proofs.YtbacocldjcenjaaDoor
