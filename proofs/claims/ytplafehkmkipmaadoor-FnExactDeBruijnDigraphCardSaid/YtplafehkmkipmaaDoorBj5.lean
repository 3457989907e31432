/-
  DeBruijnDigraph, both programs. (gen: mk_bj5.py)
-/
import Derived.Test.YtplafehkmkipmaaDoorBj4
namespace Go.Proofs.YtplafehkmkipmaaDoor
set_option maxRecDepth 100000
open Go.RowKit

/-- The code for words of de Bruijn. -/
def bjOk (d k : Int) : Bool := (decide (1 ≤ d) && decide (d ≤ 62)) && (decide (1 ≤ k) && decide (k ≤ 10))
def BjC (d k : Int) : Int := if bjOk d k = true then (if pw d.toNat k.toNat ≤ 62 then 0 else 3) else 2
def BjN (d k : Int) : Int := if BjC d k = 0 then wdN false d.toNat k.toNat else 0
def BjL (d k : Int) : List Int := if BjC d k = 0 then wdL false d.toNat k.toNat else []
theorem bj_zero {d k : Int} (h : BjC d k = 0) : ∃ d' k' : Nat, d = (d' : Int) ∧ k = ((k' + 1 : Nat) : Int) ∧ 1 ≤ d' ∧ d' ≤ 62 ∧ k' ≤ 9 ∧ d' ^ (k' + 1) ≤ 62 := by
  unfold BjC at h
  split at h
  · rename_i hok
    simp only [bjOk, Bool.and_eq_true, decide_eq_true_eq] at hok
    split at h
    · rename_i hs
      refine ⟨d.toNat, k.toNat - 1, by omega, by omega, by omega, by omega, by omega, ?_⟩
      rw [show k.toNat - 1 + 1 = k.toNat by omega]
      exact hs
    · cases h
  · cases h
theorem bj_len (d k : Nat) (hd : 1 ≤ d) (hs : d ^ (k + 1) ≤ 62) (j : Nat) (hj : j ≤ k + 1) : (kwL false d j).length ≤ 62 := by
  rw [kw_len_free]
  exact Nat.le_trans (Nat.pow_le_pow_right hd hj) hs
theorem bj_cases (d k : Int) : ((decide (1 ≤ d) && decide (d ≤ 62)) = false ∧ BjC d k = 2) ∨ ((decide (1 ≤ d) && decide (d ≤ 62)) = true ∧ (decide (1 ≤ k) && decide (k ≤ 10)) = false ∧ BjC d k = 2) ∨
    (∃ d' k' : Nat, d = (d' : Int) ∧ k = ((k' + 1 : Nat) : Int) ∧ 1 ≤ d' ∧ d' ≤ 62 ∧ k' ≤ 9 ∧ 62 < d' ^ (k' + 1) ∧ BjC d k = 3) ∨ BjC d k = 0 := by
  cases h1 : (decide (1 ≤ d) && decide (d ≤ 62))
  · exact .inl ⟨rfl, by simp [BjC, bjOk, h1]⟩
  · cases h2 : (decide (1 ≤ k) && decide (k ≤ 10))
    · exact .inr (.inl ⟨rfl, rfl, by simp [BjC, bjOk, h1, h2]⟩)
    · have hok : bjOk d k = true := by simp [bjOk, h1, h2]
      simp only [Bool.and_eq_true, decide_eq_true_eq] at h1 h2
      by_cases hs : pw d.toNat k.toNat ≤ 62
      · exact .inr (.inr (.inr (by unfold BjC; rw [if_pos hok, if_pos hs])))
      · refine .inr (.inr (.inl ⟨d.toNat, k.toNat - 1, by omega, by omega, by omega, by omega, by omega, ?_, by unfold BjC; rw [if_pos hok, if_neg hs]⟩))
        rw [show k.toNat - 1 + 1 = k.toNat by omega]
        unfold pw at hs
        omega

set_option maxHeartbeats 3200000 in
theorem specBj_any (d k : Int) (w : World) :
    Calls Tryd.prog 11 #[.int .i64 d, .int .i64 k] w fun e w' => GRes w.heap.size (BjN d k) (BjL d k) (BjC d k) e w' ∧ Below w.heap.size w w' := by
  obtain ⟨W, hW⟩ : ∃ W, W = w.alloc (.cells #[.int .i64 0, .slice none 0 0] 30) := ⟨_, rfl⟩
  have D0 : Below w.heap.size w W := by rw [hW]; exact (Below.refl _ _).alloc (Nat.le_refl _) _
  have s0 : W.heap.size = w.heap.size + 1 := by rw [hW]; simp
  have HR0 : Hid (W.heap[w.heap.size]? = some (.cells #[.int .i64 0, .slice none 0 0] 30 (0, 0))) := by show _ = _; rw [hW]; exact World.alloc_heap_new w _
  rcases bj_cases d k with ⟨h1, hc⟩ | ⟨h1, h2, hc⟩ | ⟨d', k', rfl, rfl, h1, h2, h3, h4, hc⟩ | h
  · have hN : BjN d k = 0 := by unfold BjN; rw [hc]; rfl
    have hL : BjL d k = [] := by unfold BjL; rw [hc]; rfl
    rw [hN, hL, hc]
    have i1 := fun W => in_valK d 1 62 W false h1
    obtain ⟨y0, y1, g0, g1⟩ := two_cells HR0.out
    clear hN hL hc h1
    go_enter Tryd.func11, Tryd.ntmps11
    go_wp2_with (go_at_call 27; refine (i1 _).mono ?_; rintro e w' ⟨rfl, rfl⟩)
    rw [← hW]
    refine bodyPost_ret (v := .tuple #[.agg #[.int .i64 0, .slice none 0 0], .int .i64 2]) (results_cell2 (p := 4) (u := 5) (ty := 30) rfl _ _ w.heap.size 30 _ (0, 0) _ rfl HR0.out Tryd.underlying30 rfl (by exact infoDg)) rfl ⟨⟨_, rfl, Own.nil _ _⟩, D0⟩
  · have hN : BjN d k = 0 := by unfold BjN; rw [hc]; rfl
    have hL : BjL d k = [] := by unfold BjL; rw [hc]; rfl
    rw [hN, hL, hc]
    have i1 := fun W => in_valK d 1 62 W true h1
    have i2 := fun W => in_valK k 1 10 W false h2
    obtain ⟨y0, y1, g0, g1⟩ := two_cells HR0.out
    clear hN hL hc h1 h2
    go_enter Tryd.func11, Tryd.ntmps11
    go_wp2_with (first | (go_at_call 27; with_reducible refine (i1 _).mono ?_; rintro e w' ⟨rfl, rfl⟩) | (go_at_call 27; with_reducible refine (i2 _).mono ?_; rintro e w' ⟨rfl, rfl⟩))
    rw [← hW]
    refine bodyPost_ret (v := .tuple #[.agg #[.int .i64 0, .slice none 0 0], .int .i64 2]) (results_cell2 (p := 4) (u := 5) (ty := 30) rfl _ _ w.heap.size 30 _ (0, 0) _ rfl HR0.out Tryd.underlying30 rfl (by exact infoDg)) rfl ⟨⟨_, rfl, Own.nil _ _⟩, D0⟩
  · have hN : BjN (d' : Int) ((k' + 1 : Nat) : Int) = 0 := by unfold BjN; rw [hc]; rfl
    have hL : BjL (d' : Int) ((k' + 1 : Nat) : Int) = [] := by unfold BjL; rw [hc]; rfl
    rw [hN, hL, hc]
    have hn := fun W => words_any d' (k' + 1) d' false W (by omega) (by omega) (by omega) (by omega) rfl
    have hv := wdF_val d' d' (by omega) (by omega) (k' + 1 - 1)
    obtain ⟨x, hx⟩ : ∃ x, x = wdF d' d' (k' + 1 - 1) := ⟨_, rfl⟩
    rw [← hx] at hn hv
    rw [Nat.add_sub_cancel, show d' * pw d' k' = d' ^ (k' + 1) by unfold pw; rw [Nat.pow_succ, Nat.mul_comm]] at hv
    have hxs : (62 : Int) < (x : Int) := by omega
    clear hv
    obtain ⟨K, hK⟩ : ∃ K : Int, K = ((k' + 1 : Nat) : Int) := ⟨_, rfl⟩
    rw [← hK] at hn
    rw [← hK]
    have i1 := fun W => in_valK (d' : Int) 1 62 W true (by simp; omega)
    have i2 := fun W => in_valK K 1 10 W true (by simp; omega)
    obtain ⟨y0, y1, g0, g1⟩ := two_cells HR0.out
    clear hN hL hc hx hK h4
    go_enter Tryd.func11, Tryd.ntmps11
    go_wp2_with (first | (go_at_call 27; with_reducible refine (i1 _).mono ?_; rintro e w' ⟨rfl, rfl⟩) | (go_at_call 27; with_reducible refine (i2 _).mono ?_; rintro e w' ⟨rfl, rfl⟩) | (go_at_call 28; refine (hn _).mono ?_; rintro e w' ⟨rfl, rfl⟩))
    rw [← hW]
    refine bodyPost_ret (v := .tuple #[.agg #[.int .i64 0, .slice none 0 0], .int .i64 3]) (results_cell2 (p := 4) (u := 5) (ty := 30) rfl _ _ w.heap.size 30 _ (0, 0) _ rfl HR0.out Tryd.underlying30 rfl (by exact infoDg)) rfl ⟨⟨_, rfl, Own.nil _ _⟩, D0⟩
  · obtain ⟨d', k', rfl, rfl, h1, h2, h3, h4⟩ := bj_zero h
    have hN : BjN (d' : Int) ((k' + 1 : Nat) : Int) = ((kwL false d' (k' + 1)).length : Nat) := by unfold BjN wdN; rw [if_pos h, Int.toNat_natCast, Int.toNat_natCast]
    have hL : BjL (d' : Int) ((k' + 1 : Nat) : Int) = rowsF (kwL false d' (k' + 1)).length (arcF false (kwL false d' (k' + 1))) := by unfold BjL wdL; rw [if_pos h, Int.toNat_natCast, Int.toNat_natCast]
    have hlen := bj_len d' k' h1 h4 (k' + 1) (by omega)
    rw [hN, hL, h]
    obtain ⟨D, hD⟩ : ∃ D : Int, D = (d' : Int) := ⟨_, rfl⟩
    obtain ⟨K, hK⟩ : ∃ K : Int, K = ((k' + 1 : Nat) : Int) := ⟨_, rfl⟩
    obtain ⟨W2, hW2⟩ : ∃ W2, W2 = W.alloc (.cells #[] 2) := ⟨_, rfl⟩
    have D2 : Below W.heap.size W W2 := by rw [hW2]; exact (Below.refl _ _).alloc (Nat.le_refl _) _
    have s2 : W2.heap.size = W.heap.size + 1 := by rw [hW2]; simp
    have HLI := Lib.hid (specWd_list false d' (k' + 1) D K W2 (by omega) (by omega) (fun e => by cases e) (by rw [hD]; rfl) (by omega) (by omega) hK hlen (w.heap.size + 1) (by omega))
    have HEL : Hid (∀ i, i < (kwL false d' (k' + 1)).length → (elS (kwL false d' (k' + 1)) i).length = k' + 1) := fun i hi => (kw_mem (elS_mem hi)).1
    have hn := fun W => words_any d' (k' + 1) d' false W (by omega) (by omega) (by omega) (by omega) rfl
    have hv := wdF_val d' d' (by omega) (by omega) (k' + 1 - 1)
    obtain ⟨x, hx⟩ : ∃ x, x = wdF d' d' (k' + 1 - 1) := ⟨_, rfl⟩
    rw [← hx] at hn hv
    rw [Nat.add_sub_cancel, show d' * pw d' k' = d' ^ (k' + 1) by unfold pw; rw [Nat.pow_succ, Nat.mul_comm]] at hv
    have hxs : ¬ (62 : Int) < (x : Int) := by omega
    have hx63 : (x : Int) ≤ 63 := by omega
    rw [← hD, ← hK] at hn
    rw [← hD, ← hK]
    have i1 := fun W => in_valK D 1 62 W true (by simp; omega)
    have i2 := fun W => in_valK K 1 10 W true (by simp; omega)
    obtain ⟨T, hT⟩ : ∃ T, T = kwL false d' (k' + 1) := ⟨_, rfl⟩
    rw [← hT] at HLI HEL hlen
    rw [← hT]
    have HDG : Hid (∀ (g cap : Nat) (W : World), g < W.heap.size → Rows W g 0 T → Calls Tryd.prog 29 #[.slice (some ⟨g, 0, none⟩) T.length cap, .bool false] W fun e w' => (∃ r, e = .returned (.agg #[.int .i64 T.length, .slice (some ⟨r, 0, none⟩) T.length T.length]) ∧ Blk w' r (rowsF T.length (arcF false T)) ∧ W.heap.size ≤ r) ∧ Below W.heap.size W w') :=
      fun g cap W hg hR => l08Dig_any false g cap k' T W hR hg HEL.out (by omega) hlen
    obtain ⟨N, HN⟩ : ∃ N, Hid (N = T.length) := ⟨_, rfl⟩
    rw [← HN.out] at HLI HDG hlen
    rw [← HN.out]
    clear hN hL hK hT h hD hv hx
    go_enter Tryd.func11, Tryd.ntmps11
    go_wp2_with (first | (go_at_call 27; with_reducible refine (i1 _).mono ?_; rintro e w' ⟨rfl, rfl⟩) | (go_at_call 27; with_reducible refine (i2 _).mono ?_; rintro e w' ⟨rfl, rfl⟩) | (go_at_call 28; refine (hn _).mono ?_; rintro e w' ⟨rfl, rfl⟩))
    rw [← hW, ← hW2]
    clear hW hW2
    refine HLI.out.mono ?_
    rintro e w3 ⟨⟨g, cap, rfl, hg, hR⟩, hb3⟩
    clear HLI
    have s3 := hb3.size
    have E3 : Below w.heap.size w w3 := D0.trans ((D2.trans (hb3.mono (by omega))).mono (by omega))
    have HR3 : Hid (w3.heap[w.heap.size]? = some (.cells #[.int .i64 0, .slice none 0 0] 30 (0, 0))) := (hb3.block _ (by omega)).trans ((D2.block _ (by omega)).trans HR0.out)
    have hdg := HDG.out g cap w3 hg hR
    clear HDG hb3 hR
    go_wp2_with fail
    refine hdg.mono ?_
    rintro e w4 ⟨⟨r, rfl, hB, hr⟩, hb4⟩
    clear hdg
    have E4 := Lib.hid (E3.trans (hb4.mono (by omega)))
    have HR4 : Hid (w4.heap[w.heap.size]? = some (.cells #[.int .i64 0, .slice none 0 0] 30 (0, 0))) := (hb4.block _ (by omega)).trans HR3.out
    have HB := Lib.hid hB
    have hrw : w.heap.size < r := by omega
    obtain ⟨y0, y1, g0, g1⟩ := two_cells HR4.out
    clear hb4 hB E3
    go_wp2_with fail
    have hfin := two_set (a := .int .i64 (N : Int)) (b := .slice (some ⟨r, 0, none⟩) N N) HR4.out
    refine bodyPost_ret (v := .tuple #[.agg #[.int .i64 (N : Int), .slice (some ⟨r, 0, none⟩) N N], .int .i64 0]) (results_cell2 (p := 4) (u := 5) (ty := 30) rfl _ _ w.heap.size 30 _ (0, 0) _ rfl hfin Tryd.underlying30 rfl (by exact infoDg)) rfl ⟨⟨_, rfl, ?_⟩, ?_⟩
    · have h := Own.of_blk ((HB.out.other (a := ⟨w.heap.size, 0, none⟩) (by simp; omega) (.int .i64 (N : Int))).other (a := ⟨w.heap.size, 1, none⟩) (by simp; omega) (.slice (some ⟨r, 0, none⟩) N N)) (B := w.heap.size) (by omega) (by rw [rowsF_length]; unfold maxLen; omega)
      rw [rowsF_length] at h
      exact h
    · exact (E4.out.setCell (p := ⟨w.heap.size, 0, none⟩) (by simp) _).setCell (p := ⟨w.heap.size, 1, none⟩) (by simp) _

set_option maxHeartbeats 3200000 in
theorem implBj_any (d k : Int) (w : World) (hTab : Tab w) :
    Calls Tryd.prog 12 #[.int .i64 d, .int .i64 k] w fun e w' => GRes w.heap.size (BjN d k) (BjL d k) (BjC d k) e w' ∧ Below w.heap.size w w' := by
  obtain ⟨W, hW⟩ : ∃ W, W = w.alloc (.cells #[.int .i64 0, .slice none 0 0] 30) := ⟨_, rfl⟩
  have D0 : Below w.heap.size w W := by rw [hW]; exact (Below.refl _ _).alloc (Nat.le_refl _) _
  have s0 : W.heap.size = w.heap.size + 1 := by rw [hW]; simp
  have HR0 : Hid (W.heap[w.heap.size]? = some (.cells #[.int .i64 0, .slice none 0 0] 30 (0, 0))) := by show _ = _; rw [hW]; exact World.alloc_heap_new w _
  rcases bj_cases d k with ⟨h1, hc⟩ | ⟨h1, h2, hc⟩ | ⟨d', k', rfl, rfl, h1, h2, h3, h4, hc⟩ | h
  · have hN : BjN d k = 0 := by unfold BjN; rw [hc]; rfl
    have hL : BjL d k = [] := by unfold BjL; rw [hc]; rfl
    rw [hN, hL, hc]
    have i1 := fun W => upTo_valK 62 d W false h1
    obtain ⟨y0, y1, g0, g1⟩ := two_cells HR0.out
    clear hN hL hc h1
    go_enter Tryd.func12, Tryd.ntmps12
    go_wp2_with (go_at_call 30; refine (i1 _).mono ?_; rintro e w' ⟨rfl, rfl⟩)
    rw [← hW]
    refine bodyPost_ret (v := .tuple #[.agg #[.int .i64 0, .slice none 0 0], .int .i64 2]) (results_cell2 (p := 4) (u := 5) (ty := 30) rfl _ _ w.heap.size 30 _ (0, 0) _ rfl HR0.out Tryd.underlying30 rfl (by exact infoDg)) rfl ⟨⟨_, rfl, Own.nil _ _⟩, D0⟩
  · have hN : BjN d k = 0 := by unfold BjN; rw [hc]; rfl
    have hL : BjL d k = [] := by unfold BjL; rw [hc]; rfl
    rw [hN, hL, hc]
    have i1 := fun W => upTo_valK 62 d W true h1
    have i2 := fun W => upTo_valK 10 k W false h2
    obtain ⟨y0, y1, g0, g1⟩ := two_cells HR0.out
    clear hN hL hc h1 h2
    go_enter Tryd.func12, Tryd.ntmps12
    go_wp2_with (first | (go_at_call 30; with_reducible refine (i1 _).mono ?_; rintro e w' ⟨rfl, rfl⟩) | (go_at_call 30; with_reducible refine (i2 _).mono ?_; rintro e w' ⟨rfl, rfl⟩))
    rw [← hW]
    refine bodyPost_ret (v := .tuple #[.agg #[.int .i64 0, .slice none 0 0], .int .i64 2]) (results_cell2 (p := 4) (u := 5) (ty := 30) rfl _ _ w.heap.size 30 _ (0, 0) _ rfl HR0.out Tryd.underlying30 rfl (by exact infoDg)) rfl ⟨⟨_, rfl, Own.nil _ _⟩, D0⟩
  · have hN : BjN (d' : Int) ((k' + 1 : Nat) : Int) = 0 := by unfold BjN; rw [hc]; rfl
    have hL : BjL (d' : Int) ((k' + 1 : Nat) : Int) = [] := by unfold BjL; rw [hc]; rfl
    rw [hN, hL, hc]
    have hn := fun W => numPow_any d' (k' + 1) W (by omega) (by omega)
    obtain ⟨x, hx⟩ : ∃ x, x = pw d' (k' + 1) := ⟨_, rfl⟩
    rw [← hx] at hn
    have hxs : (62 : Int) < (x : Int) := by unfold pw at hx; omega
    obtain ⟨K, hK⟩ : ∃ K : Int, K = ((k' + 1 : Nat) : Int) := ⟨_, rfl⟩
    rw [← hK] at hn
    rw [← hK]
    have i1 := fun W => upTo_valK 62 (d' : Int) W true (by simp; omega)
    have i2 := fun W => upTo_valK 10 K W true (by simp; omega)
    obtain ⟨y0, y1, g0, g1⟩ := two_cells HR0.out
    clear hN hL hc hx hK h4
    go_enter Tryd.func12, Tryd.ntmps12
    go_wp2_with (first | (go_at_call 30; with_reducible refine (i1 _).mono ?_; rintro e w' ⟨rfl, rfl⟩) | (go_at_call 30; with_reducible refine (i2 _).mono ?_; rintro e w' ⟨rfl, rfl⟩) | (go_at_call 31; refine (hn _).mono ?_; rintro e w' ⟨rfl, rfl⟩))
    rw [← hW]
    refine bodyPost_ret (v := .tuple #[.agg #[.int .i64 0, .slice none 0 0], .int .i64 3]) (results_cell2 (p := 4) (u := 5) (ty := 30) rfl _ _ w.heap.size 30 _ (0, 0) _ rfl HR0.out Tryd.underlying30 rfl (by exact infoDg)) rfl ⟨⟨_, rfl, Own.nil _ _⟩, D0⟩
  · obtain ⟨d', k', rfl, rfl, h1, h2, h3, h4⟩ := bj_zero h
    have hN : BjN (d' : Int) ((k' + 1 : Nat) : Int) = ((kwL false d' (k' + 1)).length : Nat) := by unfold BjN wdN; rw [if_pos h, Int.toNat_natCast, Int.toNat_natCast]
    have hL : BjL (d' : Int) ((k' + 1 : Nat) : Int) = rowsF (kwL false d' (k' + 1)).length (arcF false (kwL false d' (k' + 1))) := by unfold BjL wdL; rw [if_pos h, Int.toNat_natCast, Int.toNat_natCast]
    have hlen := bj_len d' k' h1 h4
    have hlenk := hlen (k' + 1) (Nat.le_refl _)
    rw [hN, hL, h]
    obtain ⟨D, hD⟩ : ∃ D : Int, D = (d' : Int) := ⟨_, rfl⟩
    obtain ⟨K, hK⟩ : ∃ K : Int, K = ((k' + 1 : Nat) : Int) := ⟨_, rfl⟩
    have HAL := Lib.hid (fun W => alpha_any d' D W (by omega) hD)
    have HST := Lib.hid (fun W => bsteps_any (k' + 1 + 1) (K + 1) W (by omega) (by rw [hK]; rfl))
    obtain ⟨a, ha⟩ : ∃ a : Int, a = ((2 ^ d' - 1 : Nat) : Int) := ⟨_, rfl⟩
    have HWD := Lib.hid (fun (W : World) (v : Value) hS hTW => wordDig_any false d' (k' + 1) a v W (by omega) (by omega) (fun e => by cases e) ha (by omega) (by omega) hS (fun j hj => hlen j hj) hTW)
    have HTab := Lib.hid hTab
    rw [← ha] at HAL
    have hn := fun W => numPow_any d' (k' + 1) W (by omega) (by omega)
    obtain ⟨x, hx⟩ : ∃ x, x = pw d' (k' + 1) := ⟨_, rfl⟩
    rw [← hx] at hn
    have hxs : ¬ (62 : Int) < (x : Int) := by unfold pw at hx; omega
    rw [← hD, ← hK] at hn
    rw [← hD, ← hK]
    have j1 := fun W => upTo_valK 62 D W true (by simp; omega)
    have j2 := fun W => upTo_valK 10 K W true (by simp; omega)
    obtain ⟨T, hT⟩ : ∃ T, T = kwL false d' (k' + 1) := ⟨_, rfl⟩
    rw [← hT] at HWD hlenk
    rw [← hT]
    obtain ⟨N, HN⟩ : ∃ N, Hid (N = T.length) := ⟨_, rfl⟩
    rw [← HN.out] at HWD hlenk
    rw [← HN.out]
    have i1 : (1 : Int) ≤ D := by omega
    have i2 : D ≤ 62 := by omega
    have i3 : (1 : Int) ≤ K := by omega
    have i4 : K ≤ 10 := by omega
    clear hN hL hK hT h hD hTab ha hlen hx
    go_enter Tryd.func12, Tryd.ntmps12
    go_wp2_with (first | (go_at_call 30; with_reducible refine (j1 _).mono ?_; rintro e w' ⟨rfl, rfl⟩) | (go_at_call 30; with_reducible refine (j2 _).mono ?_; rintro e w' ⟨rfl, rfl⟩) | (go_at_call 31; refine (hn _).mono ?_; rintro e w' ⟨rfl, rfl⟩) | (go_at_call 22; refine (HAL.out _).mono ?_; rintro e w' ⟨rfl, rfl⟩))
    rw [← hW]
    clear hW
    refine (HST.out _).mono ?_
    rintro e w1 ⟨⟨v, rfl, hS⟩, hb1⟩
    have s1 := hb1.size
    have E1 : Below w.heap.size w w1 := D0.trans (hb1.mono (by omega))
    have HR1 : Hid (w1.heap[w.heap.size]? = some (.cells #[.int .i64 0, .slice none 0 0] 30 (0, 0))) := (hb1.block _ (by omega)).trans HR0.out
    have hwd := HWD.out w1 v (st_bruijn hS) (HTab.out.belowAll E1)
    clear hS HWD HST HAL hn j1 j2 hb1
    go_wp2_with fail
    refine hwd.mono ?_
    rintro e w4 ⟨⟨r, rfl, hB, hr⟩, hb4⟩
    clear hwd
    have E4 := Lib.hid (E1.trans (hb4.mono (by omega)))
    have HR4 : Hid (w4.heap[w.heap.size]? = some (.cells #[.int .i64 0, .slice none 0 0] 30 (0, 0))) := (hb4.block _ (by omega)).trans HR1.out
    have HB := Lib.hid hB
    have hrw : w.heap.size < r := by omega
    obtain ⟨y0, y1, g0, g1⟩ := two_cells HR4.out
    clear hb4 hB E1
    go_wp2_with fail
    have hfin := two_set (a := .int .i64 (N : Int)) (b := .slice (some ⟨r, 0, none⟩) N N) HR4.out
    refine bodyPost_ret (v := .tuple #[.agg #[.int .i64 (N : Int), .slice (some ⟨r, 0, none⟩) N N], .int .i64 0]) (results_cell2 (p := 4) (u := 5) (ty := 30) rfl _ _ w.heap.size 30 _ (0, 0) _ rfl hfin Tryd.underlying30 rfl (by exact infoDg)) rfl ⟨⟨_, rfl, ?_⟩, ?_⟩
    · have h := Own.of_blk ((HB.out.other (a := ⟨w.heap.size, 0, none⟩) (by simp; omega) (.int .i64 (N : Int))).other (a := ⟨w.heap.size, 1, none⟩) (by simp; omega) (.slice (some ⟨r, 0, none⟩) N N)) (B := w.heap.size) (by omega) (by rw [rowsF_length]; unfold maxLen; omega)
      rw [rowsF_length] at h
      exact h
    · exact (E4.out.setCell (p := ⟨w.heap.size, 0, none⟩) (by simp) _).setCell (p := ⟨w.heap.size, 1, none⟩) (by simp) _
theorem BjL_length (d k : Int) : (BjL d k).length ≤ 62 := by
  by_cases h : BjC d k = 0
  · obtain ⟨d', k', rfl, rfl, h1, h2, h3, h4⟩ := bj_zero h
    have hL : BjL (d' : Int) ((k' + 1 : Nat) : Int) = rowsF (kwL false d' (k' + 1)).length (arcF false (kwL false d' (k' + 1))) := by unfold BjL wdL; rw [if_pos h, Int.toNat_natCast, Int.toNat_natCast]
    rw [hL, rowsF_length]
    exact bj_len d' k' h1 h4 (k' + 1) (Nat.le_refl _)
  · have hL : BjL d k = [] := by unfold BjL; rw [if_neg h]
    rw [hL]; simp
end Go.Proofs.YtplafehkmkipmaaDoor
