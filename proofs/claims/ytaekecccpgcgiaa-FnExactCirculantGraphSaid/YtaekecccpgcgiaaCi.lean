/-
  impl.CirculantGraph. (A plain seat.)
-/
import Derived.Test.YtaekecccpgcgiaaCq
import Derived.Test.YtaekecccpgcgiaaCs
import Derived.Test.YtaekecccpgcgiaaAj
namespace Go.Proofs.Ytaekecccpgcgiaa
set_option maxRecDepth 100000
open Go.RowKit

theorem cirOk_aj {n : Nat} {js : List Int} (h1 : 1 ≤ n) (hn : n ≤ 62) : cirOk n js = ajB n 62 js := by
  unfold cirOk ajB
  rw [decide_eq_true (show (1 : Int) ≤ n by omega), decide_eq_true (show (n : Int) ≤ 62 by omega)]
  rfl
theorem elOk_jumps {n : Nat} {js : List Int} (h : jumpsOk n js js.length = true) : elOk (gOrd 0 n) js js.length = true := by
  cases e : elOk (gOrd 0 n) js js.length with
  | true => rfl
  | false =>
    exfalso
    have : ¬ ∀ i ∈ List.range js.length, inE ((gOrd 0 n : Nat) : Int) (el js i) = true := by
      intro hh
      rw [show elOk (gOrd 0 n) js js.length = true from List.all_eq_true.2 hh] at e
      cases e
    apply this
    intro i hi
    have := jumpsOk_at h (List.mem_range.1 hi)
    rw [inE_iff]
    simp only [gOrd]
    omega

set_option maxHeartbeats 800000 in
theorem implCir_far (n : Int) (v : Value) (w : World) (h : ¬ (1 ≤ n ∧ n ≤ 62)) :
    Calls Try.prog 27 #[.int .i64 n, v] w fun e w' => GRes w.heap.size 0 [] 2 e w' ∧ Below w.heap.size w w' := by
  have D0 : Below w.heap.size w (w.alloc (.cells #[.int .i64 0, .slice none 0 0] 35)) := (Below.refl _ _).alloc (Nat.le_refl _) _
  have RB := Lib.hid (World.alloc_heap_new w (.cells #[.int .i64 0, .slice none 0 0] 35))
  obtain ⟨W, hW⟩ : ∃ W, W = w.alloc (.cells #[.int .i64 0, .slice none 0 0] 35) := ⟨_, rfl⟩
  rw [← hW] at D0 RB
  have hsi := fun W => isSize_any n W
  have hb : (decide (1 ≤ n) && decide (n ≤ 62)) = false := by rw [← Bool.not_eq_true]; simpa using h
  rw [hb] at hsi
  clear h hb
  go_enter Try.func27, Try.ntmps27
  go_wp2_with (go_at_call 47; refine (hsi _).mono ?_; rintro e w1 ⟨rfl, rfl⟩)
  rw [← hW]
  refine bodyPost_ret (v := .tuple #[.agg #[.int .i64 0, .slice none 0 0], .int .i64 2]) (results_cell2 (p := 4) (u := 5) (ty := 35) rfl _ _ w.heap.size 35 _ (0, 0) _ rfl RB.out Try.underlying35 rfl (by exact info27)) rfl ⟨⟨_, rfl, Own.nil _ _⟩, D0⟩

set_option maxHeartbeats 1600000 in
theorem implCir_bad (n : Nat) (v : Value) (js : List Int) (w : World) (h1 : 1 ≤ n) (hn : n ≤ 62) (hs : Sl w v js) (hl : js.length ≤ 9223372036854775807) (hno : ajB n 62 js = false) :
    Calls Try.prog 27 #[.int .i64 n, v] w fun e w' => GRes w.heap.size 0 [] 2 e w' ∧ Below w.heap.size w w' := by
  have D0 : Below w.heap.size w (w.alloc (.cells #[.int .i64 0, .slice none 0 0] 35)) := (Below.refl _ _).alloc (Nat.le_refl _) _
  have RB := Lib.hid (World.alloc_heap_new w (.cells #[.int .i64 0, .slice none 0 0] 35))
  have HA := Lib.hid (areJumps_any n 62 v js _ (hs.below D0) hl)
  rw [hno] at HA
  have hsi := fun W => isSize_any (n : Int) W
  rw [show (decide ((1 : Int) ≤ n) && decide ((n : Int) ≤ 62)) = true by rw [decide_eq_true (show (1 : Int) ≤ n by omega), decide_eq_true (show (n : Int) ≤ 62 by omega)]; rfl] at hsi
  clear hs hno
  go_enter Try.func27, Try.ntmps27
  go_wp2_with (first | (go_at_call 47; with_reducible refine (hsi _).mono ?_; rintro e w1 ⟨rfl, rfl⟩) | (go_at_call 43; refine HA.out.mono ?_; rintro e w1 ⟨rfl, rfl⟩))
  refine bodyPost_ret (v := .tuple #[.agg #[.int .i64 0, .slice none 0 0], .int .i64 2]) (results_cell2 (p := 4) (u := 5) (ty := 35) rfl _ _ w.heap.size 35 _ (0, 0) _ rfl RB.out Try.underlying35 rfl (by exact info27)) rfl ⟨⟨_, rfl, Own.nil _ _⟩, D0⟩

set_option maxHeartbeats 1600000 in
set_option maxRecDepth 100000 in
theorem implCir_yes (n : Nat) (v : Value) (js : List Int) (w : World) (h1 : 1 ≤ n) (hn : n ≤ 62) (hs : Sl w v js) (hl : js.length ≤ 62) (hyes : ajB n 62 js = true) (hj : elOk (gOrd 0 n) js js.length = true) :
    Calls Try.prog 27 #[.int .i64 n, v] w fun e w' => GRes w.heap.size n (proR 0 n js) 0 e w' ∧ Below w.heap.size w w' := by
  have D0 : Below w.heap.size w (w.alloc (.cells #[.int .i64 0, .slice none 0 0] 35)) := (Below.refl _ _).alloc (Nat.le_refl _) _
  have RB0 := Lib.hid (World.alloc_heap_new w (.cells #[.int .i64 0, .slice none 0 0] 35))
  have HA := Lib.hid (areJumps_any n 62 v js _ (hs.below D0) (by omega))
  rw [hyes] at HA
  have hg : gOk 0 n = true := by simp [gOk]; omega
  have hcon := Lib.hid (graphOf_0 n v js _ hg hj (hs.below D0) (by omega))
  simp only [gOrd, gIf] at hcon
  have HLN := Lib.hid (proR_length 0 n js)
  simp only [gOrd] at HLN
  have hsi := fun W => isSize_any (n : Int) W
  rw [show (decide ((1 : Int) ≤ n) && decide ((n : Int) ≤ 62)) = true by rw [decide_eq_true (show (1 : Int) ≤ n by omega), decide_eq_true (show (n : Int) ≤ 62 by omega)]; rfl] at hsi
  clear hs hyes hj hg
  go_enter Try.func27, Try.ntmps27
  go_wp2_with (first | (go_at_call 47; with_reducible refine (hsi _).mono ?_; rintro e w1 ⟨rfl, rfl⟩) | (go_at_call 43; refine HA.out.mono ?_; rintro e w1 ⟨rfl, rfl⟩))
  refine hcon.out.mono ?_
  rintro e w1 ⟨⟨g, rfl, hB, hg⟩, hb1⟩
  rw [World.size_alloc] at hb1 hg
  have RB := Lib.hid ((hb1.block w.heap.size (by omega)).trans RB0.out)
  obtain ⟨r0, r1, k0, k1⟩ := two_cells RB.out
  have HB := Lib.hid hB
  have hE1 := D0.trans (hb1.mono (by omega))
  clear hB hb1 hcon RB0
  go_wp2_with fail
  have hfin := two_set (a := .int .i64 n) (b := .slice (some ⟨g, 0, none⟩) n n) RB.out
  refine bodyPost_ret (v := .tuple #[.agg #[.int .i64 n, .slice (some ⟨g, 0, none⟩) n n], .int .i64 0]) (results_cell2 (p := 4) (u := 5) (ty := 35) rfl _ _ w.heap.size 35 _ (0, 0) _ rfl hfin Try.underlying35 rfl (by exact info27)) rfl ⟨⟨_, rfl, ?_⟩, ?_⟩
  · have h := Own.of_blk ((HB.out.other (a := ⟨w.heap.size, 0, none⟩) (by simp; omega) (.int .i64 n)).other (a := ⟨w.heap.size, 1, none⟩) (by simp; omega) (.slice (some ⟨g, 0, none⟩) n n)) (B := w.heap.size) (by omega) (by rw [HLN.out]; unfold maxLen; omega)
    rw [HLN.out] at h
    exact h
  · exact (hE1.setCell (p := ⟨w.heap.size, 0, none⟩) (by simp) _).setCell (p := ⟨w.heap.size, 1, none⟩) (by simp) _

theorem implCir_any (n : Int) (v : Value) (js : List Int) (w : World) (hs : Sl w v js) (hl : js.length ≤ 9223372036854775807) :
    Calls Try.prog 27 #[.int .i64 n, v] w fun e w' => GRes w.heap.size (CirN n js) (CirL n js) (CirC n js) e w' ∧ Below w.heap.size w w' := by
  by_cases h : ¬ (1 ≤ n ∧ n ≤ 62)
  · have hno : cirOk n js = false := by
      cases e : cirOk n js with
      | false => rfl
      | true => have := (cirOk_iff n js).1 e; omega
    obtain ⟨e1, e2, e3⟩ := Cir_no hno
    rw [e1, e2, e3]
    exact implCir_far n v w h
  · obtain ⟨n', rfl⟩ := Int.eq_ofNat_of_zero_le (show 0 ≤ n by omega)
    cases he : ajB n' 62 js
    · obtain ⟨e1, e2, e3⟩ := Cir_no (n := n') (js := js) (by rw [cirOk_aj (by omega) (by omega)]; exact he)
      rw [e1, e2, e3]
      exact implCir_bad n' v js w (by omega) (by omega) hs hl he
    · have hj : cirOk n' js = true := by rw [cirOk_aj (by omega) (by omega)]; exact he
      obtain ⟨e1, e2, e3⟩ := Cir_yes hj
      obtain ⟨_, _, h62, hjs⟩ := (cirOk_iff _ _).1 hj
      have hel := elOk_jumps hjs
      rw [e1, e2, e3, cir_rows n' js (by simpa only [gOrd] using hel)]
      exact implCir_yes n' v js w (by omega) (by omega) hs h62 he hel
end Go.Proofs.Ytaekecccpgcgiaa
