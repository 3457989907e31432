/-
  impl.tuplesOf.
-/
import Derived.Test.YtapnlheecplpgaaDoorLg0
namespace Go.Proofs.YtapnlheecplpgaaDoor
set_option maxRecDepth 100000
set_option maxRecDepth 100000
open Go.RowKit Go.Shelf

/-- A list with each of the numbers below x behind it. -/
def extL (x : Nat) (t : List Int) : List (List Int) := (List.range x).map fun y : Nat => t ++ [(y : Int)]
/-- The lists of k numbers below m, in order. -/
def tups (m : Nat) : Nat → List (List Int)
  | 0 => [[]]
  | k + 1 => (tups m k).flatMap (extL m)
theorem tups_lengths (m : Nat) : ∀ k, ∀ t, t ∈ tups m k → t.length = k
  | 0, t, h => by simp [tups] at h; subst h; rfl
  | k + 1, t, h => by
    simp only [tups, List.mem_flatMap, extL, List.mem_map, List.mem_range] at h
    obtain ⟨s, hs, y, _, rfl⟩ := h
    simp [tups_lengths m k s hs]
theorem tups_el (m k i : Nat) (h : i < (tups m k).length) : (elS (tups m k) i).length = k := by
  apply tups_lengths m k
  simp [elS, h]
theorem flat_len (m : Nat) : ∀ T : List (List Int), (T.flatMap (extL m)).length = T.length * m
  | [] => by simp
  | t :: r => by simp [flat_len m r, extL, Nat.succ_mul]; omega
theorem tups_length (m : Nat) : ∀ k, (tups m k).length = m ^ k
  | 0 => rfl
  | k + 1 => by rw [tups, flat_len, tups_length m k, Nat.pow_succ]
theorem tups_bd (m k : Nat) (hm : m ≤ 7) (hk : k ≤ 4) : (tups m k).length ≤ 2401 := by
  rw [tups_length]
  exact Nat.le_trans (Nat.pow_le_pow_left hm k) (Nat.le_trans (Nat.pow_le_pow_right (by decide) hk) (by decide))
theorem row_slice {w : World} {B n size : Nat} {e : TypeId} {v : Value} {xs : List Value} (h : w.ownsRow B e size v n xs) : ∃ p l c, v = .slice p l c := by
  rcases h.2 with ⟨rfl, _⟩ | ⟨g, cap, cur, rfl, _⟩
  · exact ⟨_, _, _, rfl⟩
  · exact ⟨_, _, _, rfl⟩

/-- What tuplesOf leaves. -/
def TRet (B : Nat) (Ts : List (List Int)) (e : Ending) (w' : World) : Prop := ∃ v, e = .returned v ∧ TS w' B v Ts
theorem TLRet.ts {B : Nat} {Ts : List (List Int)} {e : Ending} {w' : World} (h : TLRet B Ts e w') : TRet B Ts e w' := by
  obtain ⟨v, h1, h2⟩ := h; exact ⟨v, h1, h2.ts⟩
theorem mem_full : ∀ m : Fin 63, mem (2 ^ m.1 - 1) = List.range m.1 := by decide +kernel
theorem tups_ext (m : Nat) (hm : m ≤ 62) (T : List (List Int)) : T.flatMap (extF fun _ => 2 ^ m - 1) = T.flatMap (extL m) := by
  have h := mem_full ⟨m, by omega⟩
  simp only at h
  unfold extF extL
  simp only [h]

theorem eg_tup : ∀ args W, (callFunc 28 args).run Tryd.prog W = .ok (.enter 28 args) W := fun _ _ => by kernel_rfl
set_option maxHeartbeats 400000 in
theorem allV_at (n : Nat) (w : World) (h1 : n ≤ 62) :
    Calls Tryd.prog 29 #[.int .i64 n] w fun e w' => e = .returned (.int .i64 ((2 ^ n - 1 : Nat) : Int)) ∧ w = w' := by
  obtain ⟨p1, p2⟩ := pow_bounds n h1
  have e1 : ((2 ^ n - 1 : Nat) : Int) = 2 ^ n - 1 := by have := Nat.two_pow_pos n; rw [Int.natCast_sub (by omega)]; simp
  rw [e1]
  have hn : ((n : Int)).toNat = n := by omega
  go_enter Tryd.func29, Tryd.ntmps29
  go_wp2
  go_ret
  exact ⟨rfl, rfl⟩
set_option maxHeartbeats 400000 in
theorem tup1_any (m k : Nat) (u : Value) (w : World) (hm : m ≤ 62) (hk : w.cell? ⟨k, 0, none⟩ = some (.int .i64 m)) :
    Calls Tryd.prog 28 #[u, .pointer (some ⟨k, 0, none⟩)] w fun e w' => e = .returned (.int .i64 ((2 ^ m - 1 : Nat) : Int)) ∧ Below w.heap.size w w' := by
  go_enter Tryd.func28, Tryd.ntmps28
  go_wp2_with (go_at_call 29; refine (allV_at m _ hm).mono ?_; rintro e w' ⟨rfl, rfl⟩)
  go_ret
  exact ⟨rfl, Below.refl _ _⟩

set_option maxHeartbeats 3200000 in
theorem tuplesL_any (k m : Nat) (w : World) (hk : k ≤ 4) (hm0 : 1 ≤ m) (hm : m ≤ 7) (hT : Tab w) :
    Calls Tryd.prog 20 #[.int .i64 k, .int .i64 m] w fun e w' => TLRet w.heap.size (tups m k) e w' ∧ Below w.heap.size w w' := by
  obtain ⟨W0, hW0⟩ : ∃ W0, W0 = w.alloc (.cells #[.int .i64 m] 2) := ⟨_, rfl⟩
  have D0 : Below w.heap.size w W0 := by rw [hW0]; exact (Below.refl _ _).alloc (Nat.le_refl _) _
  have s0 : W0.heap.size = w.heap.size + 1 := by rw [hW0]; simp
  have BM : Hid (Bx W0 w.heap.size 2 (.int .i64 m)) := by show Bx _ _ _ _; rw [hW0]; exact World.alloc_heap_new w _
  have D1 : Below w.heap.size w (W0.alloc (.cells #[.slice none 0 0] 22)) := D0.alloc D0.size _
  have HT0 : Hid (TL (W0.alloc (.cells #[.slice none 0 0] 22)) w.heap.size (.slice (some ⟨W0.heap.size, 0, none⟩) 1 1) (tups m 0)) :=
    ⟨[.slice none 0 0], ⟨⟨rfl, .inr ⟨W0.heap.size, 1, #[.slice none 0 0], rfl, D0.size, World.alloc_heap_new W0 _, Nat.le_refl _, by unfold maxLen; omega, rfl, rfl⟩⟩, rfl, fun i hi => by
      have : i = 0 := by simp [tups] at hi; omega
      subst this
      exact ⟨_, rfl, Own.nil _ _, .inl rfl, fun _ => rfl⟩⟩, fun i j x y b hij hx hy hb => by
      have hi := (List.getElem?_eq_some_iff.1 hx).1
      have hj := (List.getElem?_eq_some_iff.1 hy).1
      simp at hi hj; omega⟩
  have HTab := Lib.hid hT
  have hg : w.heap.size < W0.heap.size := by omega
  rw [s0] at HT0
  clear hT
  go_enter Tryd.func20, Tryd.ntmps20
  go_wp2_with fail
  rw [← hW0]
  clear hW0
  go_loopw [5, 8] (fun t c wr => ∃ j : Nat, j ≤ k ∧ c = .int .i64 j ∧ Hid (TL wr w.heap.size t (tups m j)) ∧ Below w.heap.size w wr ∧ Bx wr w.heap.size 2 (.int .i64 m)) (fun _ c _ => k - (intOf c).toNat)
  case atStart => exact ⟨0, Nat.zero_le _, rfl, HT0, D1, ((Below.refl W0.heap.size W0).alloc (Nat.le_refl _) _).block _ hg |>.trans BM.out⟩
  case round =>
    obtain ⟨j, hj, rfl, HTj, hE, hbm⟩ := hrel
    by_cases hlt : (j : Int) < k
    · have hjk : j < k := by omega
      have hpos : 0 < (tups m j).length := by rw [tups_length]; exact Nat.pow_pos hm0
      obtain ⟨g, cap, rfl, hg1, hg2⟩ : ∃ g cap, u5 = .slice (some ⟨g, 0, none⟩) (tups m j).length cap ∧ w.heap.size ≤ g ∧ g < wr.heap.size := by
        rcases HTj.out.ts.form with ⟨_, h0⟩ | h
        · rw [h0] at hpos; simp at hpos
        · exact h
      have hTlen : (tups m j).length ≤ 2401 := tups_bd m j hm (by omega)
      have hlg := longer1_in 28 (.pointer (some ⟨w.heap.size, 0, none⟩)) (fun _ => 2 ^ m - 1) (tups m j) g cap w.heap.size wr HTj.out.ts hg2 (by omega)
        (fun a ha => ⟨by rw [tups_el m j a ha]; omega, by have := Nat.pow_le_pow_right (show 0 < 2 by decide) (show m ≤ 61 by omega); omega⟩) (HTab.out.belowAll hE) eg_tup
        (fun a W u ha hW hu => tup1_any m w.heap.size u W (by omega) ((hW.cell (p := ⟨w.heap.size, 0, none⟩) (by have := hE.size; have := hbm.lt; exact hbm.lt)).trans hbm.cell))
      rw [tups_ext m (by omega)] at hlg
      have HLG := Lib.hid (callsIn_wide.1 hlg)
      have HNX : Hid ((tups m j).flatMap (extL m) = tups m (j + 1)) := rfl
      obtain ⟨T, hTT⟩ : ∃ T, T = tups m j := ⟨_, rfl⟩
      rw [← hTT] at HLG HNX hpos hTlen HTj
      rw [← hTT]
      clear hlg hTT
      go_wp2_with (go_at_call 27; refine HLG.out.mono ?_; rintro e w1 ⟨⟨v1, rfl, hL1⟩, hb1⟩)
      have hL2 : Hid (TL w1 w.heap.size v1 (tups m (j + 1))) := by show TL _ _ _ _; rw [← HNX.out]; exact hL1.base hE.size
      have hbm1 : Bx w1 w.heap.size 2 (.int .i64 m) := (hb1.block _ hbm.lt).trans hbm
      have hE1 : Below w.heap.size w w1 := hE.trans (hb1.mono hE.size)
      clear hL1 hb1 HLG
      go_wp2_with fail
      go_roundw
      case rel => exact ⟨j + 1, by omega, by go_num, hL2, hE1, hbm1⟩
      case measure => simp [intOf]; omega
    · obtain rfl : j = k := by omega
      go_wp2_with fail
      go_ret
      exact ⟨⟨_, rfl, HTj.out⟩, hE⟩
theorem tuples_any (k m : Nat) (w : World) (hk : k ≤ 4) (hm0 : 1 ≤ m) (hm : m ≤ 7) (hT : Tab w) :
    Calls Tryd.prog 20 #[.int .i64 k, .int .i64 m] w fun e w' => TRet w.heap.size (tups m k) e w' ∧ Below w.heap.size w w' :=
  (tuplesL_any k m w hk hm0 hm hT).mono fun _ _ h => ⟨h.1.ts, h.2⟩
end Go.Proofs.YtapnlheecplpgaaDoor
