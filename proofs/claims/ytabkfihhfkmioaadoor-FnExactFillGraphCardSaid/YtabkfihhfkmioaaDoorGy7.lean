/-
  GreedyGraph, program and model.
-/
import Derived.Test.YtabkfihhfkmioaaDoorFs7
namespace Go.Proofs.YtabkfihhfkmioaaDoor
set_option maxRecDepth 100000
set_option maxRecDepth 100000
open Go.RowKit

def kDeg (k : Int) : Bool := decide (1 ≤ k) && decide (k ≤ 6)
def kcB (k c : Int) : Bool := kDeg k && (decide (3 ≤ c) && decide (c ≤ 12))
theorem isDeg_any (k : Int) (w : World) : Calls Tryd.prog 120 #[.int .i64 k] w fun e w' => e = .returned (.bool (kDeg k)) ∧ w = w' := by
  by_cases h : 1 ≤ k
  · have h2 : kDeg k = decide (k ≤ 6) := by unfold kDeg; rw [decide_eq_true h]; rfl
    rw [h2]; clear h2
    have h' : decide (1 ≤ k) = true := by simpa using h
    go_enter Tryd.func120, Tryd.ntmps120
    go_wp2
    go_ret
    exact ⟨rfl, rfl⟩
  · have h' : decide (1 ≤ k) = false := by simpa using h
    have h2 : kDeg k = false := by unfold kDeg; rw [h']; rfl
    rw [h2]; clear h2
    go_enter Tryd.func120, Tryd.ntmps120
    go_wp2
    go_ret
    exact ⟨rfl, rfl⟩


set_option maxHeartbeats 800000 in
theorem areDG_any (k c : Int) (w : World) : Calls Tryd.prog 98 #[.int .i64 k, .int .i64 c] w fun e w' => e = .returned (.bool (kcB k c)) ∧ w = w' := by
  have hid := fun W => isDeg_any k W
  cases hk : kDeg k with
  | false =>
    rw [hk] at hid
    rw [show kcB k c = false by simp [kcB, hk]]
    clear hk
    go_enter Tryd.func98, Tryd.ntmps98
    go_wp2_with (go_at_call 120; refine (hid _).mono ?_; rintro e w' ⟨rfl, rfl⟩)
    go_ret
    exact ⟨rfl, rfl⟩
  | true =>
    rw [hk] at hid
    rw [show kcB k c = (decide (3 ≤ c) && decide (c ≤ 12)) by simp [kcB, hk]]
    clear hk
    by_cases h3 : 3 ≤ c
    · have h' : decide (3 ≤ c) = true := by simpa using h3
      rw [show (decide (3 ≤ c) && decide (c ≤ 12)) = decide (c ≤ 12) by rw [h']; rfl]
      go_enter Tryd.func98, Tryd.ntmps98
      go_wp2_with (go_at_call 120; refine (hid _).mono ?_; rintro e w' ⟨rfl, rfl⟩)
      go_ret
      exact ⟨rfl, rfl⟩
    · have h' : decide (3 ≤ c) = false := by simpa using h3
      rw [show (decide (3 ≤ c) && decide (c ≤ 12)) = false by rw [h']; rfl]
      go_enter Tryd.func98, Tryd.ntmps98
      go_wp2_with (go_at_call 120; refine (hid _).mono ?_; rintro e w' ⟨rfl, rfl⟩)
      go_ret
      exact ⟨rfl, rfl⟩
set_option maxHeartbeats 800000 in
theorem numbers_any (k c : Int) (w : World) : Calls Tryd.prog 97 #[.int .i64 k, .int .i64 c] w fun e w' => e = .returned (.bool (kcB k c)) ∧ w = w' := by
  have HK : Hid (∀ W, Calls Tryd.prog 96 #[.int .i64 k, .int .i64 1, .int .i64 6] W fun e w' => e = .returned (.bool (kDeg k)) ∧ W = w') := fun W => in_any k 1 6 W
  have HC : Hid (∀ W, Calls Tryd.prog 96 #[.int .i64 c, .int .i64 3, .int .i64 12] W fun e w' => e = .returned (.bool (decide (3 ≤ c) && decide (c ≤ 12))) ∧ W = w') := fun W => in_any c 3 12 W
  cases hk : kDeg k with
  | false =>
    rw [hk] at HK
    rw [show kcB k c = false by simp [kcB, hk]]
    clear hk
    go_enter Tryd.func97, Tryd.ntmps97
    go_wp2_with (go_at_call 96; with_reducible refine (HK.out _).mono ?_; rintro e w' ⟨rfl, rfl⟩)
    go_ret
    exact ⟨rfl, rfl⟩
  | true =>
    rw [hk] at HK
    rw [show kcB k c = (decide (3 ≤ c) && decide (c ≤ 12)) by simp [kcB, hk]]
    clear hk
    go_enter Tryd.func97, Tryd.ntmps97
    go_wp2_with (first | (go_at_call 96; with_reducible refine (HK.out _).mono ?_; rintro e w' ⟨rfl, rfl⟩) | (go_at_call 96; with_reducible refine (HC.out _).mono ?_; rintro e w' ⟨rfl, rfl⟩))
    go_ret
    exact ⟨rfl, rfl⟩

theorem FitD_zero {n : Nat} {k : Int} (h1 : 1 ≤ n) (h2 : n ≤ 62) (hk : 0 ≤ k) : FitD n k (List.replicate n 0) := by
  have he : ∀ i, el (List.replicate n (0 : Int)) i = 0 := fun i => by
    unfold el
    by_cases h : i < n
    · simp [h]
    · simp [h]
  have hb : ∀ i j, bt (el (List.replicate n (0 : Int)) i) j = false := fun i j => by rw [he]; simp [bt]
  refine ⟨by simp, ?_, fun u _ => ?_⟩
  · rw [isG_iff]
    refine ⟨by omega, by omega, by simp, fun i hi => ?_, fun i j _ _ => by rw [hb, hb]⟩
    exact ⟨by rw [he]; exact Int.le_refl _, by rw [he]; exact Nat.two_pow_pos _, hb _ _⟩
  · unfold dg
    rw [he, show (0 : Int).toNat = 0 from rfl]
    have : pc 0 = 0 := pcF_zero 64
    omega

theorem rep_cells {W : World} {g n : Nat} (h : Blk W g (List.replicate n 0)) (hn : n ≤ 62) : Cells W g 0 (List.replicate n 0) := by
  have hO : Own W g (.slice (some ⟨g, 0, none⟩) (List.replicate n (0 : Int)).length (List.replicate n (0 : Int)).length) (List.replicate n 0) := Own.of_blk h (Nat.le_refl _) (by rw [List.length_replicate]; unfold maxLen; omega)
  exact own_cells8 hO (by rfl)
def GyB (n k c : Int) : Bool := (decide (1 ≤ n) && decide (n ≤ 62)) && kcB k c
/-- The greedy graph's rows. -/
def GyR (n : Nat) (k c : Int) : List Int := FR (List.replicate n 0) (pjV (FR (List.replicate n 0)) k c n n)
def GyC (n k c : Int) : Int := if GyB n k c then 0 else 2
def GyN (n k c : Int) : Int := if GyB n k c then n else 0
def GyL (n k c : Int) : List Int := if GyB n k c then GyR n.toNat k c else []
theorem GyL_length (n k c : Int) : (GyL n k c).length ≤ 62 := by
  unfold GyL
  split
  · rename_i h
    unfold GyB at h
    simp only [Bool.and_eq_true, decide_eq_true_eq] at h
    unfold GyR
    rw [FR_length, List.length_replicate]
    omega
  · simp

set_option maxHeartbeats 1600000 in
theorem implGy_yes (n : Nat) (k c : Int) (w : World) (hT : Tab w) (hn1 : 1 ≤ n) (hn2 : n ≤ 62) (hkc : kcB k c = true) :
    Calls Tryd.prog 44 #[.int .i64 n, .int .i64 k, .int .i64 c] w fun e w' => GRes w.heap.size n (GyR n k c) 0 e w' ∧ Below w.heap.size w w' := by
  have hk0 : 0 ≤ k := by unfold kcB kDeg at hkc; simp only [Bool.and_eq_true, decide_eq_true_eq] at hkc; omega
  have hsz := fun W => isSize_any n W
  rw [show (decide ((1 : Int) ≤ n) && decide ((n : Int) ≤ 62)) = true by simp; omega] at hsz
  have hdg := fun W => areDG_any k c W
  rw [hkc] at hdg
  have hem := fun W => implEmpty_any n W (by omega)
  have hfit := FitD_zero (k := k) hn1 hn2 hk0
  have HFI : Hid (∀ (g : Nat) (W : World), Blk W g (List.replicate n 0) → Tab W → Calls Tryd.prog 95 #[.agg #[.int .i64 n, .slice (some ⟨g, 0, none⟩) n n], .int .i64 k, .int .i64 c] W fun e w' => (∃ u, e = .returned (.agg #[.int .i64 n, u]) ∧ Own w' W.heap.size u (GyR n k c)) ∧ Below W.heap.size W w') := fun g W h1 h2 => by
    have h := callsIn_wide.1 (fillI_in g 0 n (List.replicate n 0) k c W h1.lt (rep_cells h1 hn2) h2 (by rw [List.length_replicate]; exact hfit))
    rw [List.length_replicate] at h
    unfold GyR
    exact h
  have D0 : Below w.heap.size w (w.alloc (.cells #[.int .i64 0, .slice none 0 0] 26)) := (Below.refl _ _).alloc (Nat.le_refl _) _
  have HR0 := Lib.hid (World.alloc_heap_new w (.cells #[.int .i64 0, .slice none 0 0] 26))
  have HT := Lib.hid (hT.belowAll D0)
  have HD0 := Lib.hid D0
  generalize GyR n k c = R at *
  clear hT hkc D0 hfit
  go_enter Tryd.func44, Tryd.ntmps44
  go_wp2_with (first
    | (go_at_call 75; refine (hsz _).mono ?_; rintro e w' ⟨rfl, rfl⟩)
    | (go_at_call 98; refine (hdg _).mono ?_; rintro e w' ⟨rfl, rfl⟩)
    | (go_at_call 64; refine (hem _).mono ?_; rintro e w1 ⟨rfl, hB1, hb1⟩; have HB1 : Hid (Blk w1 (w.heap.size + 1 + 1) (List.replicate n 0)) := (by rw [World.size_alloc] at hB1; exact hB1); have HBB := Lib.hid hb1; clear hB1 hb1)
    | (go_at_call 95; refine (HFI.out _ w1 HB1.out (HT.out.belowAll HBB.out)).mono ?_; rintro e w2 ⟨⟨u, rfl, hO⟩, hb2⟩; have s1 := HBB.out.size; rw [World.size_alloc] at s1; have RB := Lib.hid ((hb2.block w.heap.size (by omega)).trans ((HBB.out.block w.heap.size (by simp)).trans HR0.out)); obtain ⟨r0, r1, f0, f1⟩ := two_cells RB.out; obtain ⟨ua, ul, uc, rfl⟩ := slice_of hO; have HO := Lib.hid hO; have HB2 := Lib.hid hb2; clear hO hb2))
  have hfin := two_set (a := .int .i64 n) (b := .slice ua ul uc) RB.out
  have hB := HD0.out.trans ((HBB.out.mono (by simp)).trans (HB2.out.mono (by omega)))
  have hgr : w2.grownBy ((w2.setCell ⟨w.heap.size, 0, none⟩ (.int .i64 n)).setCell ⟨w.heap.size, 1, none⟩ (.slice ua ul uc)) (some w.heap.size) := grown_set (grown_set ⟨rfl, rfl, rfl, Nat.le_refl _, fun _ _ _ => rfl⟩ _ 0 _) _ 1 _
  refine bodyPost_ret (v := .tuple #[.agg #[.int .i64 n, .slice ua ul uc], .int .i64 0]) (results_cell2 (p := 6) (u := 7) (ty := 26) rfl _ _ w.heap.size 26 _ (0, 0) _ rfl hfin Tryd.underlying26 rfl (by exact info27)) rfl ⟨⟨_, rfl, ?_⟩, ?_⟩
  · have hne : (Value.slice ua ul uc).ownBlock = none ∨ (Value.slice ua ul uc).ownBlock ≠ some w.heap.size := by
      cases hu : (Value.slice ua ul uc).ownBlock with
      | none => exact .inl rfl
      | some q => refine .inr fun e => ?_; cases e; have h1 := HO.out.ge _ hu; omega
    exact (HO.out.kept hgr hne).base (by omega)
  · exact (hB.setCell (p := ⟨w.heap.size, 0, none⟩) (by simp) _).setCell (p := ⟨w.heap.size, 1, none⟩) (by simp) _

set_option maxHeartbeats 1600000 in
theorem implGy_no (n k c : Int) (w : World) (h : GyB n k c = false) :
    Calls Tryd.prog 44 #[.int .i64 n, .int .i64 k, .int .i64 c] w fun e w' => GRes w.heap.size 0 [] 2 e w' ∧ Below w.heap.size w w' := by
  have hsz := fun W => isSize_any n W
  have hdg := fun W => areDG_any k c W
  have D0 : Below w.heap.size w (w.alloc (.cells #[.int .i64 0, .slice none 0 0] 26)) := (Below.refl _ _).alloc (Nat.le_refl _) _
  have HR0 := Lib.hid (World.alloc_heap_new w (.cells #[.int .i64 0, .slice none 0 0] 26))
  have HD0 := Lib.hid D0
  have hfin := two_set (a := .int .i64 0) (b := .slice none 0 0) HR0.out
  have HF := Lib.hid hfin
  unfold GyB at h
  clear D0 hfin
  obtain ⟨r0, r1, f0, f1⟩ := two_cells HR0.out
  cases hs : (decide (1 ≤ n) && decide (n ≤ 62)) with
  | false =>
    rw [hs] at hsz
    clear h hs hdg
    go_enter Tryd.func44, Tryd.ntmps44
    go_wp2_with (go_at_call 75; refine (hsz _).mono ?_; rintro e w' ⟨rfl, rfl⟩)
    refine bodyPost_ret (v := .tuple #[.agg #[.int .i64 0, .slice none 0 0], .int .i64 2]) (results_cell2 (p := 6) (u := 7) (ty := 26) rfl _ _ w.heap.size 26 _ (0, 0) _ rfl (by first | exact HF.out | exact HR0.out) Tryd.underlying26 rfl (by exact info27)) rfl ⟨⟨_, rfl, Own.nil _ _⟩, ?_⟩
    first | exact HD0.out | exact (HD0.out.setCell (p := ⟨w.heap.size, 0, none⟩) (by simp) _).setCell (p := ⟨w.heap.size, 1, none⟩) (by simp) _
  | true =>
    rw [hs] at hsz h
    rw [show kcB k c = false from h] at hdg
    clear h hs
    go_enter Tryd.func44, Tryd.ntmps44
    go_wp2_with (first
      | (go_at_call 75; refine (hsz _).mono ?_; rintro e w' ⟨rfl, rfl⟩)
      | (go_at_call 98; refine (hdg _).mono ?_; rintro e w' ⟨rfl, rfl⟩))
    refine bodyPost_ret (v := .tuple #[.agg #[.int .i64 0, .slice none 0 0], .int .i64 2]) (results_cell2 (p := 6) (u := 7) (ty := 26) rfl _ _ w.heap.size 26 _ (0, 0) _ rfl (by first | exact HF.out | exact HR0.out) Tryd.underlying26 rfl (by exact info27)) rfl ⟨⟨_, rfl, Own.nil _ _⟩, ?_⟩
    first | exact HD0.out | exact (HD0.out.setCell (p := ⟨w.heap.size, 0, none⟩) (by simp) _).setCell (p := ⟨w.heap.size, 1, none⟩) (by simp) _

set_option maxHeartbeats 1600000 in
theorem specGy_yes (n : Nat) (k c : Int) (w : World) (hn1 : 1 ≤ n) (hn2 : n ≤ 62) (hkc : kcB k c = true) :
    Calls Tryd.prog 43 #[.int .i64 n, .int .i64 k, .int .i64 c] w fun e w' => GRes w.heap.size n (GyR n k c) 0 e w' ∧ Below w.heap.size w w' := by
  have hk0 : 0 ≤ k := by unfold kcB kDeg at hkc; simp only [Bool.and_eq_true, decide_eq_true_eq] at hkc; omega
  have hc63 : c ≤ 63 := by unfold kcB at hkc; simp only [Bool.and_eq_true, decide_eq_true_eq] at hkc; omega
  have hsz := fun W => in_any n 1 62 W
  rw [show (decide ((1 : Int) ≤ n) && decide ((n : Int) ≤ 62)) = true by simp; omega] at hsz
  have hdg := fun W => numbers_any k c W
  rw [hkc] at hdg
  have hem := fun W => specEmpty_any n W (by omega)
  have hfit := FitD_zero (k := k) hn1 hn2 hk0
  have HFI : Hid (∀ (g : Nat) (W : World), Blk W g (List.replicate n 0) → Calls Tryd.prog 93 #[.agg #[.int .i64 n, .slice (some ⟨g, 0, none⟩) n n], .int .i64 k, .int .i64 c] W fun e w' => (∃ u, e = .returned (.agg #[.int .i64 n, u]) ∧ Own w' W.heap.size u (GyR n k c)) ∧ Below W.heap.size W w') := fun g W h1 => by
    have h := fillS_some g 0 n (List.replicate n 0) k c W h1.lt (rep_cells h1 hn2) (by rw [List.length_replicate]; exact hfit) hc63
    rw [List.length_replicate] at h
    unfold GyR
    exact h
  have D0 : Below w.heap.size w (w.alloc (.cells #[.int .i64 0, .slice none 0 0] 26)) := (Below.refl _ _).alloc (Nat.le_refl _) _
  have HR0 := Lib.hid (World.alloc_heap_new w (.cells #[.int .i64 0, .slice none 0 0] 26))
  have HD0 := Lib.hid D0
  generalize GyR n k c = R at *
  clear hkc D0 hfit
  go_enter Tryd.func43, Tryd.ntmps43
  go_wp2_with (first
    | (go_at_call 96; refine (hsz _).mono ?_; rintro e w' ⟨rfl, rfl⟩)
    | (go_at_call 97; refine (hdg _).mono ?_; rintro e w' ⟨rfl, rfl⟩)
    | (go_at_call 61; refine (hem _).mono ?_; rintro e w1 ⟨rfl, hB1, hb1⟩; have HB1 : Hid (Blk w1 (w.heap.size + 1 + 1) (List.replicate n 0)) := (by rw [World.size_alloc] at hB1; exact hB1); have HBB := Lib.hid hb1; clear hB1 hb1)
    | (go_at_call 93; refine (HFI.out _ w1 HB1.out).mono ?_; rintro e w2 ⟨⟨u, rfl, hO⟩, hb2⟩; have s1 := HBB.out.size; rw [World.size_alloc] at s1; have RB := Lib.hid ((hb2.block w.heap.size (by omega)).trans ((HBB.out.block w.heap.size (by simp)).trans HR0.out)); obtain ⟨r0, r1, f0, f1⟩ := two_cells RB.out; obtain ⟨ua, ul, uc, rfl⟩ := slice_of hO; have HO := Lib.hid hO; have HB2 := Lib.hid hb2; clear hO hb2))
  have hfin := two_set (a := .int .i64 n) (b := .slice ua ul uc) RB.out
  have hB := HD0.out.trans ((HBB.out.mono (by simp)).trans (HB2.out.mono (by omega)))
  have hgr : w2.grownBy ((w2.setCell ⟨w.heap.size, 0, none⟩ (.int .i64 n)).setCell ⟨w.heap.size, 1, none⟩ (.slice ua ul uc)) (some w.heap.size) := grown_set (grown_set ⟨rfl, rfl, rfl, Nat.le_refl _, fun _ _ _ => rfl⟩ _ 0 _) _ 1 _
  refine bodyPost_ret (v := .tuple #[.agg #[.int .i64 n, .slice ua ul uc], .int .i64 0]) (results_cell2 (p := 6) (u := 7) (ty := 26) rfl _ _ w.heap.size 26 _ (0, 0) _ rfl hfin Tryd.underlying26 rfl (by exact info27)) rfl ⟨⟨_, rfl, ?_⟩, ?_⟩
  · have hne : (Value.slice ua ul uc).ownBlock = none ∨ (Value.slice ua ul uc).ownBlock ≠ some w.heap.size := by
      cases hu : (Value.slice ua ul uc).ownBlock with
      | none => exact .inl rfl
      | some q => refine .inr fun e => ?_; cases e; have h1 := HO.out.ge _ hu; omega
    exact (HO.out.kept hgr hne).base (by omega)
  · exact (hB.setCell (p := ⟨w.heap.size, 0, none⟩) (by simp) _).setCell (p := ⟨w.heap.size, 1, none⟩) (by simp) _

set_option maxHeartbeats 1600000 in
theorem specGy_no (n k c : Int) (w : World) (h : GyB n k c = false) :
    Calls Tryd.prog 43 #[.int .i64 n, .int .i64 k, .int .i64 c] w fun e w' => GRes w.heap.size 0 [] 2 e w' ∧ Below w.heap.size w w' := by
  have hsz := fun W => in_any n 1 62 W
  have hdg := fun W => numbers_any k c W
  have D0 : Below w.heap.size w (w.alloc (.cells #[.int .i64 0, .slice none 0 0] 26)) := (Below.refl _ _).alloc (Nat.le_refl _) _
  have HR0 := Lib.hid (World.alloc_heap_new w (.cells #[.int .i64 0, .slice none 0 0] 26))
  have HD0 := Lib.hid D0
  have hfin := two_set (a := .int .i64 0) (b := .slice none 0 0) HR0.out
  have HF := Lib.hid hfin
  unfold GyB at h
  clear D0 hfin
  obtain ⟨r0, r1, f0, f1⟩ := two_cells HR0.out
  cases hs : (decide (1 ≤ n) && decide (n ≤ 62)) with
  | false =>
    rw [hs] at hsz
    clear h hs hdg
    go_enter Tryd.func43, Tryd.ntmps43
    go_wp2_with (go_at_call 96; refine (hsz _).mono ?_; rintro e w' ⟨rfl, rfl⟩)
    refine bodyPost_ret (v := .tuple #[.agg #[.int .i64 0, .slice none 0 0], .int .i64 2]) (results_cell2 (p := 6) (u := 7) (ty := 26) rfl _ _ w.heap.size 26 _ (0, 0) _ rfl (by first | exact HF.out | exact HR0.out) Tryd.underlying26 rfl (by exact info27)) rfl ⟨⟨_, rfl, Own.nil _ _⟩, ?_⟩
    first | exact HD0.out | exact (HD0.out.setCell (p := ⟨w.heap.size, 0, none⟩) (by simp) _).setCell (p := ⟨w.heap.size, 1, none⟩) (by simp) _
  | true =>
    rw [hs] at hsz h
    rw [show kcB k c = false from h] at hdg
    clear h hs
    go_enter Tryd.func43, Tryd.ntmps43
    go_wp2_with (first
      | (go_at_call 96; refine (hsz _).mono ?_; rintro e w' ⟨rfl, rfl⟩)
      | (go_at_call 97; refine (hdg _).mono ?_; rintro e w' ⟨rfl, rfl⟩))
    refine bodyPost_ret (v := .tuple #[.agg #[.int .i64 0, .slice none 0 0], .int .i64 2]) (results_cell2 (p := 6) (u := 7) (ty := 26) rfl _ _ w.heap.size 26 _ (0, 0) _ rfl (by first | exact HF.out | exact HR0.out) Tryd.underlying26 rfl (by exact info27)) rfl ⟨⟨_, rfl, Own.nil _ _⟩, ?_⟩
    first | exact HD0.out | exact (HD0.out.setCell (p := ⟨w.heap.size, 0, none⟩) (by simp) _).setCell (p := ⟨w.heap.size, 1, none⟩) (by simp) _

theorem gy_cases {n k c : Int} : (GyB n k c = true ∧ ∃ m : Nat, n = m ∧ 1 ≤ m ∧ m ≤ 62 ∧ kcB k c = true ∧ GyN n k c = m ∧ GyL n k c = GyR m k c ∧ GyC n k c = 0) ∨ (GyB n k c = false ∧ GyN n k c = 0 ∧ GyL n k c = [] ∧ GyC n k c = 2) := by
  cases h : GyB n k c with
  | false => exact .inr ⟨rfl, by simp [GyN, h], by simp [GyL, h], by simp [GyC, h]⟩
  | true =>
    have h2 := h
    unfold GyB at h2
    simp only [Bool.and_eq_true, decide_eq_true_eq] at h2
    obtain ⟨m, rfl⟩ := Int.eq_ofNat_of_zero_le (show 0 ≤ n by omega)
    exact .inl ⟨rfl, m, rfl, by omega, by omega, h2.2, by simp [GyN, h], by simp [GyL, h], by simp [GyC, h]⟩
theorem implGy_any (n k c : Int) (w : World) (hT : Tab w) : Calls Tryd.prog 44 #[.int .i64 n, .int .i64 k, .int .i64 c] w fun e w' => GRes w.heap.size (GyN n k c) (GyL n k c) (GyC n k c) e w' ∧ Below w.heap.size w w' := by
  rcases gy_cases (n := n) (k := k) (c := c) with ⟨_, m, rfl, h1, h2, h3, h4, h5, h6⟩ | ⟨h1, h4, h5, h6⟩
  · rw [h4, h5, h6]; exact implGy_yes m k c w hT h1 h2 h3
  · rw [h4, h5, h6]; exact implGy_no n k c w h1
theorem specGy_any (n k c : Int) (w : World) : Calls Tryd.prog 43 #[.int .i64 n, .int .i64 k, .int .i64 c] w fun e w' => GRes w.heap.size (GyN n k c) (GyL n k c) (GyC n k c) e w' ∧ Below w.heap.size w w' := by
  rcases gy_cases (n := n) (k := k) (c := c) with ⟨_, m, rfl, h1, h2, h3, h4, h5, h6⟩ | ⟨h1, h4, h5, h6⟩
  · rw [h4, h5, h6]; exact specGy_yes m k c w h1 h2 h3
  · rw [h4, h5, h6]; exact specGy_no n k c w h1
end Go.Proofs.YtabkfihhfkmioaaDoor
