/-
  impl.JumpGraph (by impl.areNumbersUpTo).
-/
import Derived.Test.YtaekecccpgcgiaaAj
namespace Go.Proofs.Ytaekecccpgcgiaa
set_option maxRecDepth 100000
open Go.RowKit Go.Maps Go.WideMaps Go.WideElems

theorem jumpOk_aj {n : Nat} {js : List Int} (h3 : 3 ≤ n) (hn : n ≤ 62) : jumpOk n js = ajB n 20 js := by
  unfold jumpOk ajB
  rw [decide_eq_true (show (3 : Int) ≤ n by omega), decide_eq_true (show (n : Int) ≤ 62 by omega)]
  rfl

set_option maxHeartbeats 800000 in
theorem implJg_far (n : Int) (v : Value) (w : World) (h : n < 3 ∨ 62 < n) :
    Calls Try.prog 22 #[.int .i64 n, v] w fun e w' => GRes w.heap.size 0 [] 2 e w' ∧ Below w.heap.size w w' := by
  have D0 : Below w.heap.size w (w.alloc (.cells #[.int .i64 0, .slice none 0 0] 35)) := (Below.refl _ _).alloc (Nat.le_refl _) _
  have RB := Lib.hid (World.alloc_heap_new w (.cells #[.int .i64 0, .slice none 0 0] 35))
  obtain ⟨W, hW⟩ : ∃ W, W = w.alloc (.cells #[.int .i64 0, .slice none 0 0] 35) := ⟨_, rfl⟩
  rw [← hW] at D0 RB
  have hc : n < 3 ∨ (¬ n < 3 ∧ 62 < n) := by omega
  clear h
  rcases hc with h1 | ⟨h1, h2⟩
  all_goals
    go_enter Try.func22, Try.ntmps22
    go_wp2_with fail
    rw [← hW]
    refine bodyPost_ret (v := .tuple #[.agg #[.int .i64 0, .slice none 0 0], .int .i64 2]) (results_cell2 (p := 4) (u := 5) (ty := 35) rfl _ _ w.heap.size 35 _ (0, 0) _ rfl RB.out Try.underlying35 rfl (by exact info27)) rfl ⟨⟨_, rfl, Own.nil _ _⟩, D0⟩

set_option maxHeartbeats 1600000 in
theorem implJg_bad (n : Nat) (v : Value) (js : List Int) (w : World) (h3 : 3 ≤ n) (hn : n ≤ 62) (hs : Sl w v js) (hl : js.length ≤ 9223372036854775807) (hno : ajB n 20 js = false) :
    Calls Try.prog 22 #[.int .i64 n, v] w fun e w' => GRes w.heap.size 0 [] 2 e w' ∧ Below w.heap.size w w' := by
  have D0 : Below w.heap.size w (w.alloc (.cells #[.int .i64 0, .slice none 0 0] 35)) := (Below.refl _ _).alloc (Nat.le_refl _) _
  have RB := Lib.hid (World.alloc_heap_new w (.cells #[.int .i64 0, .slice none 0 0] 35))
  obtain ⟨W, hW⟩ : ∃ W, W = w.alloc (.cells #[.int .i64 0, .slice none 0 0] 35) := ⟨_, rfl⟩
  rw [← hW] at D0 RB
  have HA := Lib.hid (areJumps_any n 20 v js W (hs.below D0) hl)
  rw [hno] at HA
  have h1 : ¬ (n : Int) < 3 := by omega
  have h2 : ¬ (62 : Int) < n := by omega
  clear hs hno
  go_enter Try.func22, Try.ntmps22
  go_wp2_with fail
  rw [← hW]
  refine HA.out.mono ?_
  rintro e w1 ⟨rfl, hw1⟩
  subst hw1
  clear hW
  obtain ⟨r0, r1, g0, g1⟩ := two_cells RB.out
  go_wp2_with fail
  have hfin := two_set (a := .int .i64 0) (b := .slice none 0 0) RB.out
  refine bodyPost_ret (v := .tuple #[.agg #[.int .i64 0, .slice none 0 0], .int .i64 2]) (results_cell2 (p := 4) (u := 5) (ty := 35) rfl _ _ w.heap.size 35 _ (0, 0) _ rfl hfin Try.underlying35 rfl (by exact info27)) rfl ⟨⟨_, rfl, Own.nil _ _⟩, ?_⟩
  exact (D0.setCell (p := ⟨w.heap.size, 0, none⟩) (by simp) _).setCell (p := ⟨w.heap.size, 1, none⟩) (by simp) _

set_option maxHeartbeats 1600000 in
set_option maxRecDepth 100000 in
theorem implJg_yes (n : Nat) (v : Value) (js : List Int) (w : World) (h3 : 3 ≤ n) (hn : n ≤ 62) (hs : Sl w v js) (hl : js.length ≤ 20) (hyes : ajB n 20 js = true)
    (hcon0 : ∀ W : World, Sl W v js → Calls Try.prog 44 #[.int .i64 n, v] W fun e w' => GRet W.heap.size n (rowsF n (adjS (jumpS n js n))) e w' ∧ Below W.heap.size W w') :
    Calls Try.prog 22 #[.int .i64 n, v] w fun e w' => GRes w.heap.size n (rowsF n (adjS (jumpS n js n))) 0 e w' ∧ Below w.heap.size w w' := by
  have D0 : Below w.heap.size w (w.alloc (.cells #[.int .i64 0, .slice none 0 0] 35)) := (Below.refl _ _).alloc (Nat.le_refl _) _
  have RB0 := Lib.hid (World.alloc_heap_new w (.cells #[.int .i64 0, .slice none 0 0] 35))
  obtain ⟨W, hW⟩ : ∃ W, W = w.alloc (.cells #[.int .i64 0, .slice none 0 0] 35) := ⟨_, rfl⟩
  rw [← hW] at D0 RB0
  have hsz : w.heap.size + 1 ≤ W.heap.size := by rw [hW]; simp
  have HA := Lib.hid (areJumps_any n 20 v js W (hs.below D0) (by omega))
  rw [hyes] at HA
  have hcon := Lib.hid (hcon0 W (hs.below D0))
  have h1 : ¬ (n : Int) < 3 := by omega
  have h2 : ¬ (62 : Int) < n := by omega
  clear hs hyes hcon0
  go_enter Try.func22, Try.ntmps22
  go_wp2_with fail
  rw [← hW]
  clear hW
  refine HA.out.mono ?_
  rintro e w1 ⟨rfl, hw1⟩
  subst hw1
  go_wp2_with fail
  refine hcon.out.mono ?_
  rintro e w1 ⟨⟨g, rfl, hB, hg⟩, hb1⟩
  have RB := Lib.hid ((hb1.block w.heap.size (by omega)).trans RB0.out)
  obtain ⟨r0, r1, g0, g1⟩ := two_cells RB.out
  have HB := Lib.hid hB
  have hE1 := D0.trans (hb1.mono (by omega))
  clear hB hb1 hcon RB0
  go_wp2_with fail
  have hfin := two_set (a := .int .i64 n) (b := .slice (some ⟨g, 0, none⟩) n n) RB.out
  refine bodyPost_ret (v := .tuple #[.agg #[.int .i64 n, .slice (some ⟨g, 0, none⟩) n n], .int .i64 0]) (results_cell2 (p := 4) (u := 5) (ty := 35) rfl _ _ w.heap.size 35 _ (0, 0) _ rfl hfin Try.underlying35 rfl (by exact info27)) rfl ⟨⟨_, rfl, ?_⟩, ?_⟩
  · have h := Own.of_blk ((HB.out.other (a := ⟨w.heap.size, 0, none⟩) (by simp; omega) (.int .i64 n)).other (a := ⟨w.heap.size, 1, none⟩) (by simp; omega) (.slice (some ⟨g, 0, none⟩) n n)) (B := w.heap.size) (by omega) (by rw [rowsF_length]; unfold maxLen; omega)
    rw [rowsF_length] at h
    exact h
  · exact (hE1.setCell (p := ⟨w.heap.size, 0, none⟩) (by simp) _).setCell (p := ⟨w.heap.size, 1, none⟩) (by simp) _

theorem implJg_any (n : Int) (v : Value) (js : List Int) (w : World) (hs : Sl w v js) (hl : js.length ≤ 9223372036854775807) :
    Calls Try.prog 22 #[.int .i64 n, v] w fun e w' => GRes w.heap.size (JgN n js) (JgL n js) (JgC n js) e w' ∧ Below w.heap.size w w' := by
  by_cases h : n < 3 ∨ 62 < n
  · have hno : jumpOk n js = false := by
      cases e : jumpOk n js with
      | false => rfl
      | true => have := (jumpOk_iff n js).1 e; omega
    obtain ⟨e1, e2, e3⟩ := Jg_no hno
    rw [e1, e2, e3]
    exact implJg_far n v w h
  · obtain ⟨n', rfl⟩ := Int.eq_ofNat_of_zero_le (show 0 ≤ n by omega)
    cases he : ajB n' 20 js
    · obtain ⟨e1, e2, e3⟩ := Jg_no (n := n') (js := js) (by rw [jumpOk_aj (by omega) (by omega)]; exact he)
      rw [e1, e2, e3]
      exact implJg_bad n' v js w (by omega) (by omega) hs hl he
    · have hj : jumpOk n' js = true := by rw [jumpOk_aj (by omega) (by omega)]; exact he
      obtain ⟨e1, e2, e3⟩ := Jg_yes hj
      rw [e1, e2, e3]
      obtain ⟨_, _, h20, hjs⟩ := (jumpOk_iff _ _).1 hj
      refine implJg_yes n' v js w (by omega) (by omega) hs h20 he fun W hW => ?_
      rcases hW with ⟨a, c, rfl, rfl⟩ | ⟨b, off, cap, rfl, hb, hc⟩
      · exact implJumps_nil n' a c W (by omega) (by omega)
      · by_cases h0 : js.length = 0
        · obtain rfl := List.eq_nil_of_length_eq_zero h0
          exact implJumps_nil n' _ _ W (by omega) (by omega)
        · exact implJumps_some n' b off cap js W (by omega) (by omega) hb hc (by omega) h20 hjs
end Go.Proofs.Ytaekecccpgcgiaa
