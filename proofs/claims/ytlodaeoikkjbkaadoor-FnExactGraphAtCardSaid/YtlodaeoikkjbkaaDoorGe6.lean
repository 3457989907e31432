/-
  spec.GraphAt.
-/
import Derived.Test.YtlodaeoikkjbkaaDoorGc
namespace Go.Proofs.YtlodaeoikkjbkaaDoor
set_option maxRecDepth 100000
set_option maxRecDepth 100000
open Go.RowKit

set_option maxHeartbeats 800000 in
theorem specGa_no (n : Int) (v : Value) (zs : List Int) (i : Int) (w : World) (h : Sl w v zs) (hg : isG n zs = false) (hl : zs.length ≤ 9223372036854775807) :
    Calls Tryd.prog 24 #[.agg #[.int .i64 n, v], .int .i64 i] w fun e w' => GRes w.heap.size 0 [] 1 e w' ∧ Below w.heap.size w w' := by
  have D0 : Below w.heap.size w ((w.alloc (.cells #[.int .i64 n, v] 28)).alloc (.cells #[.int .i64 0, .slice none 0 0] 28)) := ((Below.refl _ _).alloc (Nat.le_refl _) _).alloc (by simp) _
  have his := l01Is_any n v zs _ (h.below D0) hl
  rw [hg] at his
  simp only [World.size_alloc] at his
  have HH1 := Lib.hid (heap_new_at (w.alloc (.cells #[.int .i64 n, v] 28)) (.cells #[.int .i64 0, .slice none 0 0] 28) (w.heap.size + 1) (by simp))
  clear h hg
  go_enter Tryd.func24, Tryd.ntmps24
  go_wp2_with (go_at_call 38; refine his.mono ?_; rintro e w1 ⟨rfl, hb1⟩; have RB := Lib.hid ((hb1.block (w.heap.size + 1) (by omega)).trans HH1.out); obtain ⟨r0, r1, g0, g1⟩ := two_cells RB.out)
  have hfin := two_set (a := .int .i64 0) (b := .slice none 0 0) RB.out
  refine bodyPost_ret (v := .tuple #[.agg #[.int .i64 0, .slice none 0 0], .int .i64 1]) (results_cell2 (p := 4) (u := 5) (ty := 28) rfl _ _ (w.heap.size + 1) 28 _ (0, 0) _ rfl hfin Tryd.underlying28 rfl (by exact info27)) rfl ⟨⟨_, rfl, Own.nil _ _⟩, ?_⟩
  exact ((D0.trans (hb1.mono (by omega))).setCell (p := ⟨w.heap.size + 1, 0, none⟩) (by simp) _).setCell (p := ⟨w.heap.size + 1, 1, none⟩) (by simp) _

set_option maxHeartbeats 1600000 in
theorem specGa_yes (b ob cap : Nat) (zs : List Int) (i : Int) (w : World) (hb : b < w.heap.size) (hc : Cells w b ob zs) (hg : isG zs.length zs = true) :
    Calls Tryd.prog 24 #[.agg #[.int .i64 zs.length, .slice (some ⟨b, ob, none⟩) zs.length cap], .int .i64 i] w fun e w' => GRes w.heap.size (GaN zs.length zs i) (GaL zs.length zs i) (GaC zs.length zs i) e w' ∧ Below w.heap.size w w' := by
  obtain ⟨g1, g2, -, -, -⟩ := isG_parts hg
  have hl : zs.length ≤ 62 := by omega
  have D0 : Below w.heap.size w ((w.alloc (.cells #[.int .i64 zs.length, .slice (some ⟨b, ob, none⟩) zs.length cap] 28)).alloc (.cells #[.int .i64 0, .slice none 0 0] 28)) := ((Below.refl _ _).alloc (Nat.le_refl _) _).alloc (by simp) _
  have his := l01Is_some zs.length b ob cap zs _ (Nat.lt_of_lt_of_le hb D0.size) (hc.below D0 hb) (by omega)
  rw [hg] at his
  simp only [World.size_alloc] at his
  have HG0 := Lib.hid (heap_old_at (World.alloc_heap_new w (.cells #[.int .i64 zs.length, .slice (some ⟨b, ob, none⟩) zs.length cap] 28)) (.cells #[.int .i64 0, .slice none 0 0] 28))
  have HH1 := Lib.hid (heap_new_at (w.alloc (.cells #[.int .i64 zs.length, .slice (some ⟨b, ob, none⟩) zs.length cap] 28)) (.cells #[.int .i64 0, .slice none 0 0] 28) (w.heap.size + 1) (by simp))
  have HAT : Hid (∀ W, Below w.heap.size w W → Calls Tryd.prog 45 #[.agg #[.int .i64 zs.length, .slice (some ⟨b, ob, none⟩) zs.length cap], .int .i64 i] W fun e w' => GRet W.heap.size zs.length (gaR zs i) e w' ∧ Below W.heap.size W w') := fun W h =>
    specAt_some b ob cap zs i W (Nat.lt_of_lt_of_le hb h.size) (hc.below h hb) hg
  have HDD := Lib.hid D0
  have hN : GaN zs.length zs i = if gaOk i then (zs.length : Int) else 0 := by simp [GaN, hg]
  have hLL : GaL zs.length zs i = if gaOk i then gaR zs i else [] := by simp [GaL, hg]
  have hC : GaC zs.length zs i = if gaOk i then 0 else 2 := by simp [GaC, hg]
  rw [hN, hLL, hC]
  have hok : gaOk i = (decide (1 ≤ i) && decide (i ≤ 61)) := rfl
  have hlen := gaR_length zs i
  have hin := fun W => in_any i 1 61 W
  generalize gaR zs i = R at *
  clear hc hg D0 hN hLL hC
  by_cases h1 : 1 ≤ i
  · by_cases h2 : i ≤ 61
    · have c1 : ¬ i < 1 := by omega
      have c2 : ¬ (61 : Int) < i := by omega
      rw [hok, decide_eq_true h1, decide_eq_true h2, if_pos (by rfl), if_pos (by rfl), if_pos (by rfl)]
      rw [decide_eq_true h1, decide_eq_true h2] at hin
      have HIN : Hid (∀ W : World, Calls Tryd.prog 39 #[.int .i64 i, .int .i64 1, .int .i64 61] W fun e w' => e = .returned (.bool true) ∧ W = w') := hin
      clear hin
      clear h1 h2 hok
      go_enter Tryd.func24, Tryd.ntmps24
      go_wp2_with (first | (go_at_call 38; with_reducible refine his.mono ?_; rintro e w1 ⟨rfl, hb1⟩; have RB := Lib.hid ((hb1.block (w.heap.size + 1) (by omega)).trans HH1.out); have GB := Lib.hid ((hb1.block w.heap.size (by omega)).trans HG0.out); obtain ⟨b0, b1, -, -⟩ := two_cells GB.out) | (go_at_call 39; with_reducible refine (HIN.out _).mono ?_; rintro e w' ⟨rfl, rfl⟩))
      have E1 := HDD.out.trans (hb1.mono (by omega))
      refine (HAT.out w1 E1).mono ?_
      rintro e w2 ⟨⟨g, rfl, hB, hgg⟩, hb2⟩
      have s1 : w.heap.size + 2 ≤ w1.heap.size := by have := hb1.size; simpa using this
      have RB2 := Lib.hid ((hb2.block (w.heap.size + 1) (by omega)).trans RB.out)
      obtain ⟨r0, r1, q0, q1⟩ := two_cells RB2.out
      have HB := Lib.hid hB
      have E2 := Lib.hid (E1.trans (hb2.mono (by omega)))
      clear hB hb2 hb1 his HAT b0 b1
      go_wp2_with fail
      have hfin := two_set (a := .int .i64 zs.length) (b := .slice (some ⟨g, 0, none⟩) zs.length zs.length) RB2.out
      refine bodyPost_ret (v := .tuple #[.agg #[.int .i64 zs.length, .slice (some ⟨g, 0, none⟩) zs.length zs.length], .int .i64 0]) (results_cell2 (p := 4) (u := 5) (ty := 28) rfl _ _ (w.heap.size + 1) 28 _ (0, 0) _ rfl hfin Tryd.underlying28 rfl (by exact info27)) rfl ⟨⟨_, rfl, ?_⟩, ?_⟩
      · have h := Own.of_blk ((HB.out.other (a := ⟨w.heap.size + 1, 0, none⟩) (by simp; omega) (.int .i64 zs.length)).other (a := ⟨w.heap.size + 1, 1, none⟩) (by simp; omega) (.slice (some ⟨g, 0, none⟩) zs.length zs.length)) (B := w.heap.size) (by omega) (by rw [hlen]; unfold maxLen; omega)
        rw [hlen] at h
        exact h
      · exact (E2.out.setCell (p := ⟨w.heap.size + 1, 0, none⟩) (by simp) _).setCell (p := ⟨w.heap.size + 1, 1, none⟩) (by simp) _
    · have c1 : ¬ i < 1 := by omega
      have c2 : (61 : Int) < i := by omega
      rw [hok, decide_eq_true h1, decide_eq_false h2, if_neg (by simp), if_neg (by simp), if_neg (by simp)]
      rw [decide_eq_true h1, decide_eq_false h2] at hin
      have HIN : Hid (∀ W : World, Calls Tryd.prog 39 #[.int .i64 i, .int .i64 1, .int .i64 61] W fun e w' => e = .returned (.bool false) ∧ W = w') := hin
      clear hin
      clear h1 h2 hok HAT
      go_enter Tryd.func24, Tryd.ntmps24
      go_wp2_with (first | (go_at_call 38; with_reducible refine his.mono ?_; rintro e w1 ⟨rfl, hb1⟩; have RB := Lib.hid ((hb1.block (w.heap.size + 1) (by omega)).trans HH1.out); obtain ⟨r0, r1, g0, g1⟩ := two_cells RB.out) | (go_at_call 39; with_reducible refine (HIN.out _).mono ?_; rintro e w' ⟨rfl, rfl⟩))
      have hfin := two_set (a := .int .i64 0) (b := .slice none 0 0) RB.out
      refine bodyPost_ret (v := .tuple #[.agg #[.int .i64 0, .slice none 0 0], .int .i64 2]) (results_cell2 (p := 4) (u := 5) (ty := 28) rfl _ _ (w.heap.size + 1) 28 _ (0, 0) _ rfl hfin Tryd.underlying28 rfl (by exact info27)) rfl ⟨⟨_, rfl, Own.nil _ _⟩, ?_⟩
      exact ((HDD.out.trans (hb1.mono (by omega))).setCell (p := ⟨w.heap.size + 1, 0, none⟩) (by simp) _).setCell (p := ⟨w.heap.size + 1, 1, none⟩) (by simp) _
  · have c1 : i < 1 := by omega
    rw [hok, decide_eq_false h1, if_neg (by simp), if_neg (by simp), if_neg (by simp)]
    rw [decide_eq_false h1] at hin
    have HIN : Hid (∀ W : World, Calls Tryd.prog 39 #[.int .i64 i, .int .i64 1, .int .i64 61] W fun e w' => e = .returned (.bool false) ∧ W = w') := hin
    clear hin
    clear h1 hok HAT
    go_enter Tryd.func24, Tryd.ntmps24
    go_wp2_with (first | (go_at_call 38; with_reducible refine his.mono ?_; rintro e w1 ⟨rfl, hb1⟩; have RB := Lib.hid ((hb1.block (w.heap.size + 1) (by omega)).trans HH1.out); obtain ⟨r0, r1, g0, g1⟩ := two_cells RB.out) | (go_at_call 39; with_reducible refine (HIN.out _).mono ?_; rintro e w' ⟨rfl, rfl⟩))
    have hfin := two_set (a := .int .i64 0) (b := .slice none 0 0) RB.out
    refine bodyPost_ret (v := .tuple #[.agg #[.int .i64 0, .slice none 0 0], .int .i64 2]) (results_cell2 (p := 4) (u := 5) (ty := 28) rfl _ _ (w.heap.size + 1) 28 _ (0, 0) _ rfl hfin Tryd.underlying28 rfl (by exact info27)) rfl ⟨⟨_, rfl, Own.nil _ _⟩, ?_⟩
    exact ((HDD.out.trans (hb1.mono (by omega))).setCell (p := ⟨w.heap.size + 1, 0, none⟩) (by simp) _).setCell (p := ⟨w.heap.size + 1, 1, none⟩) (by simp) _

theorem specGa_any (n : Int) (v : Value) (zs : List Int) (i : Int) (w : World) (h : Sl w v zs) (hl : zs.length ≤ 9223372036854775807) :
    Calls Tryd.prog 24 #[.agg #[.int .i64 n, v], .int .i64 i] w fun e w' => GRes w.heap.size (GaN n zs i) (GaL n zs i) (GaC n zs i) e w' ∧ Below w.heap.size w w' := by
  cases hg : isG n zs
  · rw [show GaN n zs i = 0 by simp [GaN, hg], show GaL n zs i = [] by simp [GaL, hg], show GaC n zs i = 1 by simp [GaC, hg]]
    exact specGa_no n v zs i w h hg hl
  · obtain ⟨h1, _, h3, _⟩ := isG_parts hg
    obtain ⟨b, off, cap, rfl, hb, hc⟩ := sl_some h (by omega)
    obtain rfl : (zs.length : Int) = n := h3
    exact specGa_yes b off cap zs i w hb hc hg
end Go.Proofs.YtlodaeoikkjbkaaDoor
