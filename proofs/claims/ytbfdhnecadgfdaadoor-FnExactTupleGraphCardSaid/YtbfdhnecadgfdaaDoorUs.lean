/-
  Tuples and their digits; impl.TupleGraph whatever comes in.
-/
import Derived.Test.YtbfdhnecadgfdaaDoorUr
namespace Go.Proofs.YtbfdhnecadgfdaaDoor
set_option maxRecDepth 100000
open Go.RowKit

/-- The pairs k, q whose tuples fit into a graph. -/
def fits (k q : Nat) : Prop := (k = 2 ∧ (q = 2 ∨ q = 3 ∨ q = 5)) ∨ (k = 3 ∧ (q = 2 ∨ q = 3)) ∨ (k = 4 ∧ q = 2)
theorem tups_dig (k q : Nat) (h : fits k q) : ∀ i, i < (tups q k).length → elS (tups q k) i = digJ k q i k := by
  rcases h with ⟨rfl, rfl | rfl | rfl⟩ | ⟨rfl, rfl | rfl⟩ | ⟨rfl, rfl⟩ <;> decide +kernel
theorem fits_iff (k q : Nat) (hk : 2 ≤ k ∧ k ≤ 4) (hq : q = 2 ∨ q = 3 ∨ q = 5 ∨ q = 7) : fits k q ↔ ¬ 31 < (tups q k).length := by
  rw [tups_length]
  obtain ⟨h1, h2⟩ := hk
  have hk : k = 2 ∨ k = 3 ∨ k = 4 := by omega
  unfold fits
  rcases hk with rfl | rfl | rfl <;> rcases hq with rfl | rfl | rfl | rfl <;> decide

/-- What a tuple graph is asked for. -/
def tuOk (x y : Int) : Bool := decide (2 ≤ x ∧ x ≤ 4) && isP y
def TuN (x y : Int) : Int := if tuOk x y then tuN x.toNat y.toNat else 0
def TuL (x y : Int) : List Int := if tuOk x y then tuL x.toNat y.toNat else []
def TuC (x y : Int) : Int := if tuOk x y then tuC x.toNat y.toNat else 2
theorem TuL_length (x y : Int) : (TuL x y).length ≤ 62 := by
  unfold TuL
  cases tuOk x y with
  | true =>
    rw [if_pos rfl]
    unfold tuL
    split
    · simp
    · rw [rowsF_length]; omega
  | false => simp

set_option maxHeartbeats 1600000 in
theorem implTu_no (x y : Int) (w : World) (h : tuOk x y = false) :
    Calls Tryd.prog 23 #[.int .i64 x, .int .i64 y] w fun e w' => GRes w.heap.size 0 [] 2 e w' ∧ Below w.heap.size w w' := by
  have hc : x < 2 ∨ (2 ≤ x ∧ 4 < x) ∨ (2 ≤ x ∧ x ≤ 4 ∧ ¬ (y = 2 ∨ y = 3 ∨ y = 5 ∨ y = 7)) := by
    by_cases h1 : x < 2
    · exact .inl h1
    · by_cases h2 : 4 < x
      · exact .inr (.inl ⟨by omega, h2⟩)
      · refine .inr (.inr ⟨by omega, by omega, fun h3 => ?_⟩)
        have : tuOk x y = true := by unfold tuOk isP; simp only [Bool.and_eq_true, decide_eq_true_eq]; exact ⟨by omega, h3⟩
        rw [this] at h; cases h
  clear h
  obtain ⟨W, hW⟩ : ∃ W, W = (w.alloc (.cells #[.int .i64 y] 2)).alloc (.cells #[.int .i64 0, .slice none 0 0] 34) := ⟨_, rfl⟩
  have D0 : Below w.heap.size w W := by rw [hW]; exact ((Below.refl _ _).alloc (Nat.le_refl _) _).alloc (by simp) _
  have RB : Hid (W.heap[w.heap.size + 1]? = some (.cells #[.int .i64 0, .slice none 0 0] 34 (0, 0))) := by rw [hW]; exact heap_new_at _ _ _ (by simp)
  have HQ : W.heap[w.heap.size]? = some (.cells #[.int .i64 y] 2 (0, 0)) := by rw [hW]; exact heap_old_at (World.alloc_heap_new w _) _
  have hfin : ∀ W', W' = (W.setCell ⟨w.heap.size + 1, 0, none⟩ (.int .i64 0)).setCell ⟨w.heap.size + 1, 1, none⟩ (.slice none 0 0) → W'.heap[w.heap.size + 1]? = some (.cells #[.int .i64 0, .slice none 0 0] 34 (0, 0)) ∧ Below w.heap.size w W' := fun W' e => by
    subst e
    exact ⟨two_set RB.out, (D0.setCell (p := ⟨w.heap.size + 1, 0, none⟩) (by simp) _).setCell (p := ⟨w.heap.size + 1, 1, none⟩) (by simp) _⟩
  rcases hc with h1 | ⟨h1, h2⟩ | ⟨h1, h2, h3⟩
  · go_enter Tryd.func23, Tryd.ntmps23
    go_upto_region 1 with fail
    rw [← hW]
    clear hW
    have cq := cell_of_one HQ
    obtain ⟨r0, r1, g0, g1⟩ := two_cells RB.out
    go_wp2_with fail
    obtain ⟨f1, f2⟩ := hfin _ rfl
    exact bodyPost_ret (v := .tuple #[.agg #[.int .i64 0, .slice none 0 0], .int .i64 2]) (results_cell2 (p := 4) (u := 5) (ty := 34) rfl _ _ (w.heap.size + 1) 34 _ (0, 0) _ rfl f1 Tryd.underlying34 rfl (by exact info27)) rfl ⟨⟨_, rfl, Own.nil _ _⟩, f2⟩
  · go_enter Tryd.func23, Tryd.ntmps23
    go_upto_region 1 with fail
    rw [← hW]
    clear hW
    have cq := cell_of_one HQ
    obtain ⟨r0, r1, g0, g1⟩ := two_cells RB.out
    go_wp2_with fail
    obtain ⟨f1, f2⟩ := hfin _ rfl
    exact bodyPost_ret (v := .tuple #[.agg #[.int .i64 0, .slice none 0 0], .int .i64 2]) (results_cell2 (p := 4) (u := 5) (ty := 34) rfl _ _ (w.heap.size + 1) 34 _ (0, 0) _ rfl f1 Tryd.underlying34 rfl (by exact info27)) rfl ⟨⟨_, rfl, Own.nil _ _⟩, f2⟩
  · have HPR := Lib.hid (fun W1 => isPrime_no y W1 h3)
    clear h3
    go_enter Tryd.func23, Tryd.ntmps23
    go_upto_region 1 with fail
    rw [← hW]
    clear hW
    have cq := cell_of_one HQ
    obtain ⟨r0, r1, g0, g1⟩ := two_cells RB.out
    go_wp2_with (go_at_call 52; refine (HPR.out _).mono ?_; rintro e w' ⟨rfl, rfl⟩)
    obtain ⟨f1, f2⟩ := hfin _ rfl
    exact bodyPost_ret (v := .tuple #[.agg #[.int .i64 0, .slice none 0 0], .int .i64 2]) (results_cell2 (p := 4) (u := 5) (ty := 34) rfl _ _ (w.heap.size + 1) 34 _ (0, 0) _ rfl f1 Tryd.underlying34 rfl (by exact info27)) rfl ⟨⟨_, rfl, Own.nil _ _⟩, f2⟩

theorem implTu_any (x y : Int) (w : World) (hT : Tab w) :
    Calls Tryd.prog 23 #[.int .i64 x, .int .i64 y] w fun e w' => GRes w.heap.size (TuN x y) (TuL x y) (TuC x y) e w' ∧ Below w.heap.size w w' := by
  cases h : tuOk x y with
  | true =>
    rw [show TuN x y = tuN x.toNat y.toNat by simp [TuN, h], show TuL x y = tuL x.toNat y.toNat by simp [TuL, h], show TuC x y = tuC x.toNat y.toNat by simp [TuC, h]]
    unfold tuOk isP at h
    simp only [Bool.and_eq_true, decide_eq_true_eq] at h
    obtain ⟨h1, h2⟩ := h
    have ex : ((x.toNat : Nat) : Int) = x := by omega
    have ey : ((y.toNat : Nat) : Int) = y := by omega
    have := implTu_yes x.toNat y.toNat w (by omega) (by omega) hT
    rw [ex, ey] at this
    exact this
  | false =>
    rw [show TuN x y = 0 by simp [TuN, h], show TuL x y = [] by simp [TuL, h], show TuC x y = 2 by simp [TuC, h]]
    exact implTu_no x y w h
end Go.Proofs.YtbfdhnecadgfdaaDoor
