/-
  impl.TupleGraph.
-/
import Derived.Test.YtbfdhnecadgfdaaDoorUq
import Derived.Deep.DeepCutAuto
namespace Go.Proofs.YtbfdhnecadgfdaaDoor
set_option maxRecDepth 100000
open Go.RowKit Go.Maps Go.WideMaps Go.WideElems

set_option maxHeartbeats 1600000 in
theorem kinds_far2 (fv : Fn) (fs cs : Array Value) (n : Nat) (w : World) (hn : 31 < n) (hn2 : n ≤ 100000) :
    Calls Tryd.prog 54 #[.int .i64 n, .func fv fs cs] w fun e w' => GRes w.heap.size 0 [] 3 e w' ∧ Below w.heap.size w w' := by
  obtain ⟨W, hW⟩ : ∃ W, W = ((w.alloc (.cells #[.int .i64 n] 2)).alloc (.cells #[.func fv fs cs] 39)).alloc (.cells #[.int .i64 0, .slice none 0 0] 34) := ⟨_, rfl⟩
  have D0 : Below w.heap.size w W := by rw [hW]; exact (((Below.refl _ _).alloc (Nat.le_refl _) _).alloc (by simp) _).alloc (by simp; omega) _
  have RB : Hid (W.heap[w.heap.size + 2]? = some (.cells #[.int .i64 0, .slice none 0 0] 34 (0, 0))) := by rw [hW]; exact heap_new_at _ _ _ (by simp)
  have HN : W.heap[w.heap.size]? = some (.cells #[.int .i64 n] 2 (0, 0)) := by rw [hW]; exact heap_old_at (heap_old_at (World.alloc_heap_new w _) _) _
  have hsz : w.heap.size + 3 ≤ W.heap.size := by rw [hW]; simp
  have h62 : (62 : Int) < 2 * (n : Int) := by omega
  go_enter Tryd.func54, Tryd.ntmps54
  go_upto_region 1 with fail
  rw [← hW]
  clear hW
  have cn := cell_of_one HN
  obtain ⟨r0, r1, g0, g1⟩ := two_cells RB.out
  go_wp2_with fail
  have hfin := two_set (a := .int .i64 0) (b := .slice none 0 0) RB.out
  refine bodyPost_ret (v := .tuple #[.agg #[.int .i64 0, .slice none 0 0], .int .i64 3]) (results_cell2 (p := 4) (u := 5) (ty := 34) rfl _ _ (w.heap.size + 2) 34 _ (0, 0) _ rfl hfin Tryd.underlying34 rfl (by exact info27)) rfl ⟨⟨_, rfl, Own.nil _ _⟩, ?_⟩
  exact (D0.setCell (p := ⟨w.heap.size + 2, 0, none⟩) (by simp) _).setCell (p := ⟨w.heap.size + 2, 1, none⟩) (by simp) _

/-- Which tuples are joined. -/
def tuF (q k : Nat) : Nat → Nat → Bool := fun v x => joinT q (elS (tups q k) v) (elS (tups q k) x) (k - 1)
def tuN (k q : Nat) : Int := if 31 < (tups q k).length then 0 else ((2 * (tups q k).length : Nat) : Int)
def tuL (k q : Nat) : List Int := if 31 < (tups q k).length then [] else rowsF (2 * (tups q k).length) (adjS (whereS (kF (tups q k).length (tuF q k)) (2 * (tups q k).length)))
def tuC (k q : Nat) : Int := if 31 < (tups q k).length then 3 else 0
theorem eg_tupG : ∀ args W, (callFunc 55 args).run Tryd.prog W = .ok (.enter 55 args) W := fun _ _ => by kernel_rfl

theorem TS.tc {w : World} {B g cap k : Nat} {T : List (List Int)} (h : TS w B (.slice (some ⟨g, 0, none⟩) T.length cap) T) (hk : 0 < k) (hl : ∀ i, i < T.length → (elS T i).length = k) : TC w g k T := fun i hi => by
  obtain ⟨b, c, h1, _, h3, h4⟩ := h.rowAt hi (by rw [hl i hi]; exact hk)
  rw [hl i hi] at h1
  exact ⟨b, c, h1, h3, fun j hj => by rw [Nat.zero_add]; exact h4 j hj⟩

set_option maxHeartbeats 3200000 in
set_option maxRecDepth 100000 in
theorem implTu_yes (k q : Nat) (w : World) (hk : 2 ≤ k ∧ k ≤ 4) (h : q = 2 ∨ q = 3 ∨ q = 5 ∨ q = 7) (hTab : Tab w) :
    Calls Tryd.prog 23 #[.int .i64 k, .int .i64 q] w fun e w' => GRes w.heap.size (tuN k q) (tuL k q) (tuC k q) e w' ∧ Below w.heap.size w w' := by
  have hq : 2 ≤ q ∧ q ≤ 7 := by omega
  have hlen := tups_bd q k hq.2 (by omega)
  have hpos : 0 < (tups q k).length := by rw [tups_length]; exact Nat.pow_pos (by omega)
  have htu := fun W hTW => tuples_any k q W (by omega) (by omega) hq.2 hTW
  have hel : ∀ i, i < (tups q k).length → (elS (tups q k) i).length = k := fun i hi => tups_el q k i hi
  have hbd : ∀ j i, 0 ≤ el (elS (tups q k) j) i ∧ el (elS (tups q k) j) i ≤ 6 := fun j i => by
    by_cases hj : j < (tups q k).length
    · exact tups_tri q hq.2 k _ (by simp [elS, hj]) i
    · have : elS (tups q k) j = [] := by unfold elS; rw [List.getD_eq_getElem?_getD, List.getElem?_eq_none (by omega)]; rfl
      rw [this]; simp [el]
  have HPR := Lib.hid (fun W => isPrime_yes (q : Int) W (by omega))
  unfold tuN tuL tuC tuF
  obtain ⟨T, hT⟩ : ∃ T, T = tups q k := ⟨_, rfl⟩
  rw [← hT] at hlen hpos htu hel hbd ⊢
  obtain ⟨N, hN⟩ : ∃ N, N = (if 31 < T.length then 0 else ((2 * T.length : Nat) : Int)) := ⟨_, rfl⟩
  obtain ⟨L, hL⟩ : ∃ L, L = (if 31 < T.length then [] else rowsF (2 * T.length) (adjS (whereS (kF T.length (fun v x => joinT q (elS T v) (elS T x) (k - 1))) (2 * T.length)))) := ⟨_, rfl⟩
  obtain ⟨c, hc⟩ : ∃ c : Int, c = (if 31 < T.length then 3 else 0) := ⟨_, rfl⟩
  rw [← hN, ← hL, ← hc]
  obtain ⟨W, hW⟩ : ∃ W, W = (w.alloc (.cells #[.int .i64 q] 2)).alloc (.cells #[.int .i64 0, .slice none 0 0] 34) := ⟨_, rfl⟩
  have D0 : Below w.heap.size w W := by rw [hW]; exact ((Below.refl _ _).alloc (Nat.le_refl _) _).alloc (by simp) _
  have RB0 : Hid (W.heap[w.heap.size + 1]? = some (.cells #[.int .i64 0, .slice none 0 0] 34 (0, 0))) := by rw [hW]; exact heap_new_at _ _ _ (by simp)
  have HQ : W.heap[w.heap.size]? = some (.cells #[.int .i64 q] 2 (0, 0)) := by rw [hW]; exact heap_old_at (World.alloc_heap_new w _) _
  have hsz : w.heap.size + 2 ≤ W.heap.size := by rw [hW]; simp
  have HTU := Lib.hid (htu W (hTab.belowAll D0)); clear hTab; have HEL := Lib.hid hel; have HBD := Lib.hid hbd
  have HQH := Lib.hid HQ
  have HN := Lib.hid hN; have HL := Lib.hid hL; have HC := Lib.hid hc
  have k2 : (2 : Int) ≤ k := by omega
  have k4 : (k : Int) ≤ 4 := by omega
  clear htu hel hbd h hT hN hL hc
  have hmf := hmkf
  go_enter Tryd.func23, Tryd.ntmps23
  go_upto_region 1 with fail
  rw [← hW]
  clear hW
  have cq := cell_of_one HQ
  go_upto_region 4 with (first
    | (go_at_call 52; refine (HPR.out _).mono ?_; rintro e w' ⟨rfl, rfl⟩)
    | (go_at_call 53; refine HTU.out.mono ?_; rintro e w1 ⟨⟨tv, rfl, hS⟩, hb1⟩; obtain ⟨g, cap, rfl, hg1, hg2⟩ := hS.form1 hpos; have HS := Lib.hid hS; have HB1 := Lib.hid hb1; clear hS hb1))
  have s1 := HB1.out.size
  obtain ⟨w2, hw2⟩ : ∃ w2, w2 = w1.alloc (.cells #[.slice (some ⟨g, 0, none⟩) T.length cap] 28) := ⟨_, rfl⟩
  have hb2 : Below w1.heap.size w1 w2 := by rw [hw2]; exact (Below.refl _ _).alloc (Nat.le_refl _) _
  have X2 : w2.heap[w1.heap.size]? = some (.cells #[.slice (some ⟨g, 0, none⟩) T.length cap] 28 (0, 0)) := by rw [hw2]; exact World.alloc_heap_new w1 _
  have s2 : w1.heap.size + 1 = w2.heap.size := by rw [hw2]; simp
  have HB2 : Below W.heap.size W w2 := HB1.out.trans (hb2.mono s1)
  have RB2 := Lib.hid ((HB2.block (w.heap.size + 1) (by omega)).trans RB0.out)
  have HQ2 := (HB2.block w.heap.size (by omega)).trans HQH.out
  have HTC2 := Lib.hid ((HS.out.tc (by omega) HEL.out).below hg2 hb2)
  have hon : ∀ (v x : Nat) (W3 : World), v < T.length → x < T.length → Below w2.heap.size w2 W3 → Calls Tryd.prog 55 #[.int .i64 v, .int .i64 x, .pointer (some ⟨w.heap.size, 0, none⟩), .pointer (some ⟨w1.heap.size, 0, none⟩)] W3 fun e w' => e = .returned (.bool (joinT q (elS T v) (elS T x) (k - 1))) ∧ Below W3.heap.size W3 w' := fun v x W3 hv hx hb =>
    tupOn_any q k g cap w.heap.size w1.heap.size v x T W3 hq hk HEL.out HBD.out hv hx (cell_of_one ((hb.block w.heap.size (by omega)).trans HQ2)) (cell_of_one ((hb.block w1.heap.size (by omega)).trans X2)) (HTC2.out.below (by omega) hb)
  have hwh : Calls Tryd.prog 54 #[.int .i64 T.length, .func (.func 55) #[] #[.pointer (some ⟨w.heap.size, 0, none⟩), .pointer (some ⟨w1.heap.size, 0, none⟩)]] w2 fun e w' => GRes w2.heap.size N L c e w' ∧ Below w2.heap.size w2 w' := by
    by_cases h7 : 31 < T.length
    · rw [HN.out, HL.out, HC.out, if_pos h7, if_pos h7, if_pos h7]
      exact kinds_far2 _ _ _ T.length w2 h7 (by omega)
    · rw [HN.out, HL.out, HC.out, if_neg h7, if_neg h7, if_neg h7]
      exact kinds_any 55 _ _ (fun v x => joinT q (elS T v) (elS T x) (k - 1)) T.length (2 * T.length) w2 (by omega) rfl eg_tupG hon
  have HWH := Lib.hid hwh
  rw [← hw2]
  have cp := cell_of_one X2
  have E2 : Below w.heap.size w w2 := D0.trans (HB2.mono (by omega))
  clear hwh hon hw2 X2 HQ2 HQ HQH HB2 hb2 HTC2 HS HTU D0 RB0 HB1 cq HEL HBD
  go_wp2_with (go_at_call 54; refine HWH.out.mono ?_; rintro e w3 ⟨⟨u3, rfl, hO3⟩, hb3⟩; obtain ⟨ua, ul, uc, rfl⟩ := row_slice hO3; have HO3 := Lib.hid hO3; have HE3 := Lib.hid (E2.trans (hb3.mono E2.size)); have RB3 := Lib.hid ((hb3.block (w.heap.size + 1) (by omega)).trans RB2.out); clear hO3 hb3; obtain ⟨r0, r1, g0, g1⟩ := two_cells RB3.out)
  have hfin := two_set (a := .int .i64 N) (b := .slice ua ul uc) RB3.out
  refine bodyPost_ret (v := .tuple #[.agg #[.int .i64 N, .slice ua ul uc], .int .i64 c]) (results_cell2 (p := 4) (u := 5) (ty := 34) rfl _ _ (w.heap.size + 1) 34 _ (0, 0) _ rfl hfin Tryd.underlying34 rfl (by exact info27)) rfl ⟨⟨_, rfl, ?_⟩, ?_⟩
  · have hne : (Value.slice ua ul uc).ownBlock ≠ some (w.heap.size + 1) := fun e => by have := HO3.out.ge _ e; omega
    exact (HO3.out.base (by omega)).kept (grown_set (grown_set ⟨rfl, rfl, rfl, Nat.le_refl _, fun _ _ _ => rfl⟩ (w.heap.size + 1) 0 _) (w.heap.size + 1) 1 _) (.inr hne)
  · exact (HE3.out.setCell (p := ⟨w.heap.size + 1, 0, none⟩) (by simp) _).setCell (p := ⟨w.heap.size + 1, 1, none⟩) (by simp) _
end Go.Proofs.YtbfdhnecadgfdaaDoor
