/-
  KautzDigraph, both programs.
-/
import Derived.Test.YtkflcjhoghiffaaDoorBj3
namespace Go.Proofs.YtkflcjhoghiffaaDoor
set_option maxRecDepth 100000
set_option maxRecDepth 100000
open Go.RowKit

theorem st_kautz {w : World} {v : Value} {c : Nat} (h : SB w v 57 56 c) : StR w true v c := by
  obtain ⟨g, cap, e, h0, h1, h2⟩ := h
  exact ⟨g, cap, e, h0, h1, fun j hj => by rw [h2 j hj]; unfold fJ; rfl⟩
theorem st_bruijn {w : World} {v : Value} {c : Nat} (h : SB w v 57 57 c) : StR w false v c := by
  obtain ⟨g, cap, e, h0, h1, h2⟩ := h
  exact ⟨g, cap, e, h0, h1, fun j hj => by rw [h2 j hj]; unfold fJ; split <;> rfl⟩

/-- A word digraph: size and rows. -/
def wdN (kz : Bool) (m k : Nat) : Int := ((kwL kz m k).length : Nat)
def wdL (kz : Bool) (m k : Nat) : List Int := rowsF (kwL kz m k).length (arcF kz (kwL kz m k))
def KdN (d k : Int) : Int := if KzC d k = 0 then wdN true (d.toNat + 1) k.toNat else 0
def KdL (d k : Int) : List Int := if KzC d k = 0 then wdL true (d.toNat + 1) k.toNat else []

/-- The model's words, behind the call that lists them, as its digraph takes them. -/
theorem ls_rows {w : World} {B : Nat} {v : Value} {T : List (List Int)} (h : TS w B v T) (hp : 0 < T.length) : ∃ g cap, v = .slice (some ⟨g, 0, none⟩) T.length cap ∧ g < w.heap.size ∧ Rows w g 0 T := by
  rcases h.form with ⟨_, h0⟩ | ⟨g, cap, e, e1, e2⟩
  · rw [h0] at hp; simp at hp
  · subst e
    exact ⟨g, cap, rfl, e2, TS.rows h⟩

/-- spec: list, then digraph. -/
theorem specWd_list (kz : Bool) (m k : Nat) (D K : Int) (w : World) (hm : 1 ≤ m) (hm62 : m ≤ 62) (hz : kz = true → 2 ≤ m) (hD : D = if kz = true then (m : Int) - 1 else (m : Int)) (hk1 : 1 ≤ k) (hk : k ≤ 10) (hK : K = (k : Int)) (hlen : (kwL kz m k).length ≤ 62) (b : Nat) (hb : b < w.heap.size) :
    Calls Tryd.prog 45 #[.int .i64 D, .int .i64 K, .bool kz, .slice (some ⟨b, 0, none⟩) 0 0] w fun e w' => (∃ g cap, e = .returned (.slice (some ⟨g, 0, none⟩) (kwL kz m k).length cap) ∧ g < w'.heap.size ∧ Rows w' g 0 (kwL kz m k)) ∧ Below w.heap.size w w' := by
  have h := list_any kz m D K hm hm62 hz hD k b 0 [] w hb (fun i hi => by simp at hi) (by simp; omega) (by simp; omega) (by simp; omega) (by rw [sp_all]; omega)
  rw [sp_all] at h
  refine h.mono ?_
  rintro e w' ⟨⟨v, rfl, hT⟩, hb'⟩
  have hp : 0 < (kwL kz m k).length := by rw [← sp_all]; exact sp_pos kz m hm hz k []
  obtain ⟨g, cap, rfl, hg, hR⟩ := ls_rows hT hp
  exact ⟨⟨g, cap, rfl, hg, hR⟩, hb'⟩

set_option maxHeartbeats 1600000 in
theorem specKd_any (d k : Int) (w : World) :
    Calls Tryd.prog 19 #[.int .i64 d, .int .i64 k] w fun e w' => GRes w.heap.size (KdN d k) (KdL d k) (KzC d k) e w' ∧ Below w.heap.size w w' := by
  have HC := Lib.hid (fun W => l08Kz_any d k W)
  obtain ⟨W, hW⟩ : ∃ W, W = w.alloc (.cells #[.int .i64 0, .slice none 0 0] 25) := ⟨_, rfl⟩
  have D0 : Below w.heap.size w W := by rw [hW]; exact (Below.refl _ _).alloc (Nat.le_refl _) _
  have s0 : W.heap.size = w.heap.size + 1 := by rw [hW]; simp
  have HR0 : Hid (W.heap[w.heap.size]? = some (.cells #[.int .i64 0, .slice none 0 0] 25 (0, 0))) := by show _ = _; rw [hW]; exact World.alloc_heap_new w _
  by_cases h : KzC d k = 0
  · obtain ⟨d', k', rfl, rfl, h1, h2, h3, h4⟩ := kz_zero h
    have hN : KdN (d' : Int) ((k' + 1 : Nat) : Int) = ((kwL true (d' + 1) (k' + 1)).length : Nat) := by unfold KdN wdN; rw [if_pos h, Int.toNat_natCast, Int.toNat_natCast]
    have hL : KdL (d' : Int) ((k' + 1 : Nat) : Int) = rowsF (kwL true (d' + 1) (k' + 1)).length (arcF true (kwL true (d' + 1) (k' + 1))) := by unfold KdL wdL; rw [if_pos h, Int.toNat_natCast, Int.toNat_natCast]
    have hlen := kz_len d' k' h1 h4 (k' + 1) (by omega)
    rw [hN, hL, h]
    rw [h] at HC
    obtain ⟨D, hD⟩ : ∃ D : Int, D = (d' : Int) := ⟨_, rfl⟩
    obtain ⟨K, hK⟩ : ∃ K : Int, K = ((k' + 1 : Nat) : Int) := ⟨_, rfl⟩
    obtain ⟨W2, hW2⟩ : ∃ W2, W2 = W.alloc (.cells #[] 2) := ⟨_, rfl⟩
    have D2 : Below W.heap.size W W2 := by rw [hW2]; exact (Below.refl _ _).alloc (Nat.le_refl _) _
    have s2 : W2.heap.size = W.heap.size + 1 := by rw [hW2]; simp
    have HLI := Lib.hid (specWd_list true (d' + 1) (k' + 1) D K W2 (by omega) (by omega) (fun _ => by omega) (by rw [hD]; simp) (by omega) (by omega) hK hlen (w.heap.size + 1) (by omega))
    have HEL : Hid (∀ i, i < (kwL true (d' + 1) (k' + 1)).length → (elS (kwL true (d' + 1) (k' + 1)) i).length = k' + 1) := fun i hi => (kw_mem (elS_mem hi)).1
    rw [← hD, ← hK] at HC
    rw [← hD, ← hK]
    obtain ⟨T, hT⟩ : ∃ T, T = kwL true (d' + 1) (k' + 1) := ⟨_, rfl⟩
    rw [← hT] at HLI HEL hlen
    rw [← hT]
    have HDG : Hid (∀ (g cap : Nat) (W : World), g < W.heap.size → Rows W g 0 T → Calls Tryd.prog 44 #[.slice (some ⟨g, 0, none⟩) T.length cap, .bool true] W fun e w' => (∃ r, e = .returned (.agg #[.int .i64 T.length, .slice (some ⟨r, 0, none⟩) T.length T.length]) ∧ Blk w' r (rowsF T.length (arcF true T)) ∧ W.heap.size ≤ r) ∧ Below W.heap.size W w') :=
      fun g cap W hg hR => l08Dig_any true g cap k' T W hR hg HEL.out (by omega) hlen
    obtain ⟨N, HN⟩ : ∃ N, Hid (N = T.length) := ⟨_, rfl⟩
    rw [← HN.out] at HLI HDG hlen
    rw [← HN.out]
    clear hN hL hK hT h hD
    go_enter Tryd.func19, Tryd.ntmps19
    go_wp2_with (go_at_call 43; refine (HC.out _).mono ?_; rintro e w' ⟨rfl, rfl⟩)
    rw [← hW, ← hW2]
    clear hW hW2
    refine HLI.out.mono ?_
    rintro e w3 ⟨⟨g, cap, rfl, hg, hR⟩, hb3⟩
    clear HLI
    have s3 := hb3.size
    have E3 : Below w.heap.size w w3 := D0.trans ((D2.trans (hb3.mono (by omega))).mono (by omega))
    have HR3 : Hid (w3.heap[w.heap.size]? = some (.cells #[.int .i64 0, .slice none 0 0] 25 (0, 0))) := (hb3.block _ (by omega)).trans ((D2.block _ (by omega)).trans HR0.out)
    have hdg := HDG.out g cap w3 hg hR
    clear HDG hb3 hR
    go_wp2_with fail
    refine hdg.mono ?_
    rintro e w4 ⟨⟨r, rfl, hB, hr⟩, hb4⟩
    clear hdg
    have E4 := Lib.hid (E3.trans (hb4.mono (by omega)))
    have HR4 : Hid (w4.heap[w.heap.size]? = some (.cells #[.int .i64 0, .slice none 0 0] 25 (0, 0))) := (hb4.block _ (by omega)).trans HR3.out
    have HB := Lib.hid hB
    have hrw : w.heap.size < r := by omega
    obtain ⟨y0, y1, g0, g1⟩ := two_cells HR4.out
    clear hb4 hB E3
    go_wp2_with fail
    have hfin := two_set (a := .int .i64 (N : Int)) (b := .slice (some ⟨r, 0, none⟩) N N) HR4.out
    refine bodyPost_ret (v := .tuple #[.agg #[.int .i64 (N : Int), .slice (some ⟨r, 0, none⟩) N N], .int .i64 0]) (results_cell2 (p := 4) (u := 5) (ty := 25) rfl _ _ w.heap.size 25 _ (0, 0) _ rfl hfin Tryd.underlying25 rfl (by exact infoDg)) rfl ⟨⟨_, rfl, ?_⟩, ?_⟩
    · have h := Own.of_blk ((HB.out.other (a := ⟨w.heap.size, 0, none⟩) (by simp; omega) (.int .i64 (N : Int))).other (a := ⟨w.heap.size, 1, none⟩) (by simp; omega) (.slice (some ⟨r, 0, none⟩) N N)) (B := w.heap.size) (by omega) (by rw [rowsF_length]; unfold maxLen; omega)
      rw [rowsF_length] at h
      exact h
    · exact (E4.out.setCell (p := ⟨w.heap.size, 0, none⟩) (by simp) _).setCell (p := ⟨w.heap.size, 1, none⟩) (by simp) _
  · have hN : KdN d k = 0 := by unfold KdN; rw [if_neg h]
    have hL : KdL d k = [] := by unfold KdL; rw [if_neg h]
    rw [hN, hL]
    obtain ⟨c, hc⟩ : ∃ c, c = KzC d k := ⟨_, rfl⟩
    rw [← hc] at HC h
    rw [← hc]
    have hcb : (c != 0) = true := by simpa using h
    obtain ⟨y0, y1, g0, g1⟩ := two_cells HR0.out
    clear hc hN hL
    go_enter Tryd.func19, Tryd.ntmps19
    go_wp2_with (go_at_call 43; refine (HC.out _).mono ?_; rintro e w' ⟨rfl, rfl⟩)
    rw [← hW]
    have hfin := two_set (a := .int .i64 0) (b := .slice none 0 0) HR0.out
    refine bodyPost_ret (v := .tuple #[.agg #[.int .i64 0, .slice none 0 0], .int .i64 c]) (results_cell2 (p := 4) (u := 5) (ty := 25) rfl _ _ w.heap.size 25 _ (0, 0) _ rfl HR0.out Tryd.underlying25 rfl (by exact infoDg)) rfl ⟨⟨_, rfl, Own.nil _ _⟩, D0⟩

set_option maxHeartbeats 1600000 in
theorem implKd_any (d k : Int) (w : World) (hTab : Tab w) :
    Calls Tryd.prog 11 #[.int .i64 d, .int .i64 k] w fun e w' => GRes w.heap.size (KdN d k) (KdL d k) (KzC d k) e w' ∧ Below w.heap.size w w' := by
  have HC := Lib.hid (fun W => checkKz_any d k W)
  obtain ⟨W, hW⟩ : ∃ W, W = w.alloc (.cells #[.int .i64 0, .slice none 0 0] 25) := ⟨_, rfl⟩
  have D0 : Below w.heap.size w W := by rw [hW]; exact (Below.refl _ _).alloc (Nat.le_refl _) _
  have s0 : W.heap.size = w.heap.size + 1 := by rw [hW]; simp
  have HR0 : Hid (W.heap[w.heap.size]? = some (.cells #[.int .i64 0, .slice none 0 0] 25 (0, 0))) := by show _ = _; rw [hW]; exact World.alloc_heap_new w _
  by_cases h : KzC d k = 0
  · obtain ⟨d', k', rfl, rfl, h1, h2, h3, h4⟩ := kz_zero h
    have hN : KdN (d' : Int) ((k' + 1 : Nat) : Int) = ((kwL true (d' + 1) (k' + 1)).length : Nat) := by unfold KdN wdN; rw [if_pos h, Int.toNat_natCast, Int.toNat_natCast]
    have hL : KdL (d' : Int) ((k' + 1 : Nat) : Int) = rowsF (kwL true (d' + 1) (k' + 1)).length (arcF true (kwL true (d' + 1) (k' + 1))) := by unfold KdL wdL; rw [if_pos h, Int.toNat_natCast, Int.toNat_natCast]
    have hlen := kz_len d' k' h1 h4
    have hlenk := hlen (k' + 1) (Nat.le_refl _)
    rw [hN, hL, h]
    rw [h] at HC
    obtain ⟨D, hD⟩ : ∃ D : Int, D = (d' : Int) := ⟨_, rfl⟩
    obtain ⟨K, hK⟩ : ∃ K : Int, K = ((k' + 1 : Nat) : Int) := ⟨_, rfl⟩
    have HAL := Lib.hid (fun W => alpha_any (d' + 1) (D + 1) W (by omega) (by rw [hD]; rfl))
    have HST := Lib.hid (fun W => ksteps_any (k' + 1 + 1) (K + 1) W (by omega) (by omega) (by rw [hK]; rfl))
    obtain ⟨a, ha⟩ : ∃ a : Int, a = ((2 ^ (d' + 1) - 1 : Nat) : Int) := ⟨_, rfl⟩
    have HWD := Lib.hid (fun (W : World) (v : Value) hS hTW => wordDig_any true (d' + 1) (k' + 1) a v W (by omega) (by omega) (fun _ => by omega) ha (by omega) (by omega) hS (fun j hj => hlen j hj) hTW)
    have HTab := Lib.hid hTab
    rw [← ha] at HAL
    rw [← hD, ← hK] at HC
    rw [← hD, ← hK]
    obtain ⟨T, hT⟩ : ∃ T, T = kwL true (d' + 1) (k' + 1) := ⟨_, rfl⟩
    rw [← hT] at HWD hlenk
    rw [← hT]
    obtain ⟨N, HN⟩ : ∃ N, Hid (N = T.length) := ⟨_, rfl⟩
    rw [← HN.out] at HWD hlenk
    rw [← HN.out]
    have i1 : (1 : Int) ≤ D := by omega
    have i2 : D ≤ 61 := by omega
    have i3 : (1 : Int) ≤ K := by omega
    have i4 : K ≤ 10 := by omega
    clear hN hL hK hT h hD hTab ha hlen
    go_enter Tryd.func11, Tryd.ntmps11
    go_wp2_with (first | (go_at_call 31; refine (HC.out _).mono ?_; rintro e w' ⟨rfl, rfl⟩) | (go_at_call 33; refine (HAL.out _).mono ?_; rintro e w' ⟨rfl, rfl⟩))
    rw [← hW]
    clear hW
    refine (HST.out _).mono ?_
    rintro e w1 ⟨⟨v, rfl, hS⟩, hb1⟩
    have s1 := hb1.size
    have E1 : Below w.heap.size w w1 := D0.trans (hb1.mono (by omega))
    have HR1 : Hid (w1.heap[w.heap.size]? = some (.cells #[.int .i64 0, .slice none 0 0] 25 (0, 0))) := (hb1.block _ (by omega)).trans HR0.out
    have hwd := HWD.out w1 v (st_kautz hS) (HTab.out.belowAll E1)
    clear hS HWD HST HAL HC hb1
    go_wp2_with fail
    refine hwd.mono ?_
    rintro e w4 ⟨⟨r, rfl, hB, hr⟩, hb4⟩
    clear hwd
    have E4 := Lib.hid (E1.trans (hb4.mono (by omega)))
    have HR4 : Hid (w4.heap[w.heap.size]? = some (.cells #[.int .i64 0, .slice none 0 0] 25 (0, 0))) := (hb4.block _ (by omega)).trans HR1.out
    have HB := Lib.hid hB
    have hrw : w.heap.size < r := by omega
    obtain ⟨y0, y1, g0, g1⟩ := two_cells HR4.out
    clear hb4 hB E1
    go_wp2_with fail
    have hfin := two_set (a := .int .i64 (N : Int)) (b := .slice (some ⟨r, 0, none⟩) N N) HR4.out
    refine bodyPost_ret (v := .tuple #[.agg #[.int .i64 (N : Int), .slice (some ⟨r, 0, none⟩) N N], .int .i64 0]) (results_cell2 (p := 4) (u := 5) (ty := 25) rfl _ _ w.heap.size 25 _ (0, 0) _ rfl hfin Tryd.underlying25 rfl (by exact infoDg)) rfl ⟨⟨_, rfl, ?_⟩, ?_⟩
    · have h := Own.of_blk ((HB.out.other (a := ⟨w.heap.size, 0, none⟩) (by simp; omega) (.int .i64 (N : Int))).other (a := ⟨w.heap.size, 1, none⟩) (by simp; omega) (.slice (some ⟨r, 0, none⟩) N N)) (B := w.heap.size) (by omega) (by rw [rowsF_length]; unfold maxLen; omega)
      rw [rowsF_length] at h
      exact h
    · exact (E4.out.setCell (p := ⟨w.heap.size, 0, none⟩) (by simp) _).setCell (p := ⟨w.heap.size, 1, none⟩) (by simp) _
  · have hN : KdN d k = 0 := by unfold KdN; rw [if_neg h]
    have hL : KdL d k = [] := by unfold KdL; rw [if_neg h]
    rw [hN, hL]
    obtain ⟨c, hc⟩ : ∃ c, c = KzC d k := ⟨_, rfl⟩
    rw [← hc] at HC h
    rw [← hc]
    have hcb : (c != 0) = true := by simpa using h
    obtain ⟨y0, y1, g0, g1⟩ := two_cells HR0.out
    clear hc hN hL hTab
    go_enter Tryd.func11, Tryd.ntmps11
    go_wp2_with (go_at_call 31; refine (HC.out _).mono ?_; rintro e w' ⟨rfl, rfl⟩)
    rw [← hW]
    refine bodyPost_ret (v := .tuple #[.agg #[.int .i64 0, .slice none 0 0], .int .i64 c]) (results_cell2 (p := 4) (u := 5) (ty := 25) rfl _ _ w.heap.size 25 _ (0, 0) _ rfl HR0.out Tryd.underlying25 rfl (by exact infoDg)) rfl ⟨⟨_, rfl, Own.nil _ _⟩, D0⟩
theorem KdL_length (d k : Int) : (KdL d k).length ≤ 62 := by
  by_cases h : KzC d k = 0
  · obtain ⟨d', k', rfl, rfl, h1, h2, h3, h4⟩ := kz_zero h
    have hL : KdL (d' : Int) ((k' + 1 : Nat) : Int) = rowsF (kwL true (d' + 1) (k' + 1)).length (arcF true (kwL true (d' + 1) (k' + 1))) := by unfold KdL wdL; rw [if_pos h, Int.toNat_natCast, Int.toNat_natCast]
    rw [hL, rowsF_length]
    exact kz_len d' k' h1 h4 (k' + 1) (Nat.le_refl _)
  · have hL : KdL d k = [] := by unfold KdL; rw [if_neg h]
    rw [hL]; simp
end Go.Proofs.YtkflcjhoghiffaaDoor
