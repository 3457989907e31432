/-
  TakeVertex: both programs.
-/
import Derived.Test.YtabkfihhfkmioaaDoorTv9
import Derived.Test.YtabkfihhfkmioaaDoorCk2
import Derived.Test.YtabkfihhfkmioaaDoorLv1
import Derived.Deep.RegionWith
import Derived.BigQuiet
import Derived.Deep.QuietTactic
namespace Go.Proofs.YtabkfihhfkmioaaDoor
set_option maxRecDepth 100000
open Go.RowKit

def tvOk (n : Int) (zs : List Int) (x : Int) : Bool := isG n zs && (decide (0 ≤ x) && decide (x ≤ n - 1)) && decide (1 < zs.length)
def tvN (n : Int) (zs : List Int) (x : Int) : Int := if tvOk n zs x then ((wvL x.toNat zs.length).length : Int) else 0
def tvD (n : Int) (zs : List Int) (x : Int) : List Int := if tvOk n zs x then onL zs (wvL x.toNat zs.length) else []
def tvC (n : Int) (zs : List Int) (x : Int) : Int := if isG n zs then (if (decide (0 ≤ x) && decide (x ≤ n - 1)) then (if 1 < zs.length then 0 else 3) else 2) else 1
theorem tvD_length (n : Int) (zs : List Int) (x : Int) : (tvD n zs x).length ≤ 62 := by
  unfold tvD
  split
  · rename_i h
    have hg : isG n zs = true := by unfold tvOk at h; simp only [Bool.and_eq_true] at h; exact h.1.1
    obtain ⟨h1, h2, h3, -⟩ := isG_parts hg
    have := wvL_length x.toNat zs.length
    rw [onL_length]; omega
  · simp

set_option maxHeartbeats 1600000 in
theorem specTv_code (n : Int) (v : Value) (x c : Int) (w W : World) (hW : W = ((w.alloc (.cells #[.int .i64 n, v] 26)).alloc (.cells #[.int .i64 0, .slice none 0 0] 26)).alloc (.cells #[.int .i64 x] 2)) (hc : c ≠ 0)
    (hcall : Calls Tryd.prog 51 #[.agg #[.int .i64 n, v], .slice (some ⟨w.heap.size + 1 + 1, 0, none⟩) 1 1] W fun e w' => e = .returned (.int .i64 c) ∧ Below W.heap.size W w') :
    Calls Tryd.prog 16 #[.agg #[.int .i64 n, v], .int .i64 x] w fun e w' => GRes w.heap.size 0 [] c e w' ∧ Below w.heap.size w w' := by
  have D0 : Below w.heap.size w W := by rw [hW]; exact (((Below.refl _ _).alloc (Nat.le_refl _) _).alloc (by simp) _).alloc (by simp; omega) _
  have hsz : w.heap.size + 3 ≤ W.heap.size := by rw [hW]; simp
  have HR : Hid (W.heap[w.heap.size + 1]? = some (.cells #[.int .i64 0, .slice none 0 0] 26 (0, 0))) := by show _ = _; rw [hW]; exact heap_old_at (heap_new_at _ _ _ (by simp)) _
  have HD := Lib.hid D0
  have hcb : (c != 0) = true := by simpa using hc
  clear D0
  go_enter Tryd.func16, Tryd.ntmps16
  go_wp2_with fail
  rw [← hW]
  refine hcall.mono ?_
  rintro e w1 ⟨rfl, hb1⟩
  have HR1 := Lib.hid ((hb1.block (w.heap.size + 1) (by omega)).trans HR.out)
  have HB1 := Lib.hid (HD.out.trans (hb1.mono HD.out.size))
  obtain ⟨r0, r1, g0, g1⟩ := two_cells HR1.out
  clear hb1 hW hcall
  go_wp2
  have hfin := two_set (a := .int .i64 0) (b := .slice none 0 0) HR1.out
  refine bodyPost_ret (v := .tuple #[.agg #[.int .i64 0, .slice none 0 0], .int .i64 c]) (results_cell2 (p := 4) (u := 5) (ty := 26) rfl _ _ (w.heap.size + 1) 26 _ (0, 0) _ rfl hfin Tryd.underlying26 rfl (by exact info27)) rfl ⟨⟨_, rfl, Own.nil _ _⟩, ?_⟩
  exact (HB1.out.setCell (p := ⟨w.heap.size + 1, 0, none⟩) (by simp) _).setCell (p := ⟨w.heap.size + 1, 1, none⟩) (by simp) _

set_option maxHeartbeats 1600000 in
theorem implTv_code (n : Int) (v : Value) (x c : Int) (w W : World) (hW : W = ((w.alloc (.cells #[.int .i64 n, v] 26)).alloc (.cells #[.int .i64 0, .slice none 0 0] 26)).alloc (.cells #[.int .i64 x] 2)) (hc : c ≠ 0)
    (hcall : Calls Tryd.prog 54 #[.agg #[.int .i64 n, v], .slice (some ⟨w.heap.size + 1 + 1, 0, none⟩) 1 1] W fun e w' => e = .returned (.int .i64 c) ∧ Below W.heap.size W w') :
    Calls Tryd.prog 18 #[.agg #[.int .i64 n, v], .int .i64 x] w fun e w' => GRes w.heap.size 0 [] c e w' ∧ Below w.heap.size w w' := by
  have D0 : Below w.heap.size w W := by rw [hW]; exact (((Below.refl _ _).alloc (Nat.le_refl _) _).alloc (by simp) _).alloc (by simp; omega) _
  have hsz : w.heap.size + 3 ≤ W.heap.size := by rw [hW]; simp
  have HR : Hid (W.heap[w.heap.size + 1]? = some (.cells #[.int .i64 0, .slice none 0 0] 26 (0, 0))) := by show _ = _; rw [hW]; exact heap_old_at (heap_new_at _ _ _ (by simp)) _
  have HD := Lib.hid D0
  have hcb : (c != 0) = true := by simpa using hc
  clear D0
  go_enter Tryd.func18, Tryd.ntmps18
  go_wp2_with fail
  rw [← hW]
  refine hcall.mono ?_
  rintro e w1 ⟨rfl, hb1⟩
  have HR1 := Lib.hid ((hb1.block (w.heap.size + 1) (by omega)).trans HR.out)
  have HB1 := Lib.hid (HD.out.trans (hb1.mono HD.out.size))
  obtain ⟨r0, r1, g0, g1⟩ := two_cells HR1.out
  clear hb1 hW hcall
  go_wp2
  have hfin := two_set (a := .int .i64 0) (b := .slice none 0 0) HR1.out
  refine bodyPost_ret (v := .tuple #[.agg #[.int .i64 0, .slice none 0 0], .int .i64 c]) (results_cell2 (p := 4) (u := 5) (ty := 26) rfl _ _ (w.heap.size + 1) 26 _ (0, 0) _ rfl hfin Tryd.underlying26 rfl (by exact info27)) rfl ⟨⟨_, rfl, Own.nil _ _⟩, ?_⟩
  exact (HB1.out.setCell (p := ⟨w.heap.size + 1, 0, none⟩) (by simp) _).setCell (p := ⟨w.heap.size + 1, 1, none⟩) (by simp) _

set_option maxHeartbeats 1600000 in
theorem specTv_one (b off cap : Nat) (zs : List Int) (x : Nat) (w : World) (hb : b < w.heap.size) (hc : Cells w b off zs) (hg : isG zs.length zs = true) (hx : x < zs.length) (hn : ¬ 1 < zs.length) :
    Calls Tryd.prog 16 #[.agg #[.int .i64 zs.length, .slice (some ⟨b, off, none⟩) zs.length cap], .int .i64 x] w fun e w' => GRes w.heap.size 0 [] 3 e w' ∧ Below w.heap.size w w' := by
  obtain ⟨h1a, h1b, -, -, -⟩ := isG_parts hg
  obtain ⟨W, hW⟩ : ∃ W, W = ((w.alloc (.cells #[.int .i64 zs.length, .slice (some ⟨b, off, none⟩) zs.length cap] 26)).alloc (.cells #[.int .i64 0, .slice none 0 0] 26)).alloc (.cells #[.int .i64 x] 2) := ⟨_, rfl⟩
  have D0 : Below w.heap.size w W := by rw [hW]; exact (((Below.refl _ _).alloc (Nat.le_refl _) _).alloc (by simp) _).alloc (by simp; omega) _
  have hsz : w.heap.size + 3 ≤ W.heap.size := by rw [hW]; simp
  have HG0 : Hid (GBox W w.heap.size zs.length b off cap zs) := by
    show GBox _ _ _ _ _ _ _
    rw [hW]
    exact ((GBox.new (n := zs.length) (cap := cap) hb hc).below ((Below.refl _ _).alloc (by simp) _)).below ((Below.refl _ _).alloc (by simp) _)
  have HR : Hid (W.heap[w.heap.size + 1]? = some (.cells #[.int .i64 0, .slice none 0 0] 26 (0, 0))) := by show _ = _; rw [hW]; exact heap_old_at (heap_new_at _ _ _ (by simp)) _
  have HX : Hid (Cells W (w.heap.size + 1 + 1) 0 [(x : Int)]) := by
    show Cells _ _ _ _
    rw [hW]
    have := cell_one_new ((w.alloc (.cells #[.int .i64 zs.length, .slice (some ⟨b, off, none⟩) zs.length cap] 26)).alloc (.cells #[.int .i64 0, .slice none 0 0] 26)) (.int .i64 x) 2
    rw [World.size_alloc, World.size_alloc] at this
    exact cells_one (this 0 _ rfl)
  have hv := verts_some zs.length b off cap zs (w.heap.size + 1 + 1) 0 1 [(x : Int)] W HG0.out.lb HG0.out.cells (by omega) HX.out hg (by omega) (by simp)
  rw [vc_yes (by rw [show [(x : Int)].length = 1 from rfl, vs_one]; simp; omega)] at hv
  have HD := Lib.hid D0
  have hw : IntKind.i64.wrap ((zs.length : Int) - 1) = (zs.length : Int) - 1 := IntWalk.i64_in _ ⟨by omega, by omega⟩
  have htd := fun W => told_any ((zs.length : Int) - 1) W
  rw [if_neg (by omega)] at htd
  clear hc hg D0
  go_enter Tryd.func16, Tryd.ntmps16
  go_wp2_with fail
  rw [← hW]
  clear hW
  refine hv.mono ?_
  rintro e w1 ⟨rfl, hb1⟩
  have G1 := HG0.out.below (hb1.mono (by omega))
  have b0 := G1.b0
  have b1 := G1.b1
  have HR1 := Lib.hid ((hb1.block (w.heap.size + 1) (by omega)).trans HR.out)
  have HB1 := Lib.hid (HD.out.trans (hb1.mono HD.out.size))
  have hs1 : w.heap.size + 3 ≤ w1.heap.size := Nat.le_trans hsz hb1.size
  clear hb1 hv
  go_wp2_with (go_at_call 52; refine (htd _).mono ?_; rintro e w2 ⟨rfl, rfl⟩; obtain ⟨r0, r1, g0, g1⟩ := two_cells HR1.out)
  have hfin := two_set (a := .int .i64 0) (b := .slice none 0 0) HR1.out
  refine bodyPost_ret (v := .tuple #[.agg #[.int .i64 0, .slice none 0 0], .int .i64 3]) (results_cell2 (p := 4) (u := 5) (ty := 26) rfl _ _ (w.heap.size + 1) 26 _ (0, 0) _ rfl hfin Tryd.underlying26 rfl (by exact info27)) rfl ⟨⟨_, rfl, Own.nil _ _⟩, ?_⟩
  exact (HB1.out.setCell (p := ⟨w.heap.size + 1, 0, none⟩) (by simp) _).setCell (p := ⟨w.heap.size + 1, 1, none⟩) (by simp) _

set_option maxHeartbeats 1600000 in
theorem specTv_yes (b off cap : Nat) (zs : List Int) (x : Nat) (w : World) (hb : b < w.heap.size) (hc : Cells w b off zs) (hg : isG zs.length zs = true) (hx : x < zs.length) (hn : 1 < zs.length) :
    Calls Tryd.prog 16 #[.agg #[.int .i64 zs.length, .slice (some ⟨b, off, none⟩) zs.length cap], .int .i64 x] w fun e w' => GRes w.heap.size (wvL x zs.length).length (onL zs (wvL x zs.length)) 0 e w' ∧ Below w.heap.size w w' := by
  obtain ⟨h1a, h1b, -, -, -⟩ := isG_parts hg
  obtain ⟨W, hW⟩ : ∃ W, W = ((w.alloc (.cells #[.int .i64 zs.length, .slice (some ⟨b, off, none⟩) zs.length cap] 26)).alloc (.cells #[.int .i64 0, .slice none 0 0] 26)).alloc (.cells #[.int .i64 x] 2) := ⟨_, rfl⟩
  have D0 : Below w.heap.size w W := by rw [hW]; exact (((Below.refl _ _).alloc (Nat.le_refl _) _).alloc (by simp) _).alloc (by simp; omega) _
  have hsz : w.heap.size + 3 ≤ W.heap.size := by rw [hW]; simp
  have HG0 : Hid (GBox W w.heap.size zs.length b off cap zs) := by
    show GBox _ _ _ _ _ _ _
    rw [hW]
    exact ((GBox.new (n := zs.length) (cap := cap) hb hc).below ((Below.refl _ _).alloc (by simp) _)).below ((Below.refl _ _).alloc (by simp) _)
  have HR : Hid (W.heap[w.heap.size + 1]? = some (.cells #[.int .i64 0, .slice none 0 0] 26 (0, 0))) := by show _ = _; rw [hW]; exact heap_old_at (heap_new_at _ _ _ (by simp)) _
  have HX : Hid (Cells W (w.heap.size + 1 + 1) 0 [(x : Int)]) := by
    show Cells _ _ _ _
    rw [hW]
    have := cell_one_new ((w.alloc (.cells #[.int .i64 zs.length, .slice (some ⟨b, off, none⟩) zs.length cap] 26)).alloc (.cells #[.int .i64 0, .slice none 0 0] 26)) (.int .i64 x) 2
    rw [World.size_alloc, World.size_alloc] at this
    exact cells_one (this 0 _ rfl)
  have hv := verts_some zs.length b off cap zs (w.heap.size + 1 + 1) 0 1 [(x : Int)] W HG0.out.lb HG0.out.cells (by omega) HX.out hg (by omega) (by simp)
  rw [vc_yes (by rw [show [(x : Int)].length = 1 from rfl, vs_one]; simp; omega)] at hv
  have HD := Lib.hid D0
  have hw : IntKind.i64.wrap ((zs.length : Int) - 1) = (zs.length : Int) - 1 := IntWalk.i64_in _ ⟨by omega, by omega⟩
  have htd := fun W => told_any ((zs.length : Int) - 1) W
  rw [if_pos (by omega)] at htd
  have HGG := Lib.hid hg
  clear hc hg D0
  go_enter Tryd.func16, Tryd.ntmps16
  go_wp2_with fail
  rw [← hW]
  clear hW
  refine hv.mono ?_
  rintro e w1 ⟨rfl, hb1⟩
  have G1 := HG0.out.below (hb1.mono (by omega))
  have b0 := G1.b0
  have b1 := G1.b1
  have HR1 := Lib.hid ((hb1.block (w.heap.size + 1) (by omega)).trans HR.out)
  have HB1 := Lib.hid (HD.out.trans (hb1.mono HD.out.size))
  have hs1 : w.heap.size + 3 ≤ w1.heap.size := Nat.le_trans hsz hb1.size
  clear hb1 hv
  have HWO := Lib.hid (wo_some b off cap zs x w1 G1.lb G1.cells HGG.out hn)
  go_wp2_with (first | (go_at_call 52; refine (htd _).mono ?_; rintro e w2 ⟨rfl, rfl⟩) | (go_at_call 53; refine HWO.out.mono ?_; rintro e w3 ⟨u, rfl, hO, hb3⟩; obtain ⟨ua, ul, uc, rfl⟩ := slice_of hO; have HO3 := Lib.hid hO; have HR3 := Lib.hid ((hb3.block (w.heap.size + 1) (by omega)).trans HR1.out); have HB3 := Lib.hid (HB1.out.trans (hb3.mono (by omega))); obtain ⟨r0, r1, g0, g1⟩ := two_cells HR3.out; clear hO hb3))
  have hfin := two_set (a := .int .i64 (wvL x zs.length).length) (b := .slice ua ul uc) HR3.out
  refine bodyPost_ret (v := .tuple #[.agg #[.int .i64 (wvL x zs.length).length, .slice ua ul uc], .int .i64 0]) (results_cell2 (p := 4) (u := 5) (ty := 26) rfl _ _ (w.heap.size + 1) 26 _ (0, 0) _ rfl hfin Tryd.underlying26 rfl (by exact info27)) rfl ⟨⟨_, rfl, ?_⟩, ?_⟩
  · have hne : (Value.slice ua ul uc).ownBlock ≠ some (w.heap.size + 1) := fun e => by have := HO3.out.ge _ e; omega
    exact (HO3.out.base (by omega)).kept (grown_set (grown_set ⟨rfl, rfl, rfl, Nat.le_refl _, fun _ _ _ => rfl⟩ _ 0 _) _ 1 _) (.inr hne)
  · exact (HB3.out.setCell (p := ⟨w.heap.size + 1, 0, none⟩) (by simp) _).setCell (p := ⟨w.heap.size + 1, 1, none⟩) (by simp) _

theorem specTv_any (n : Int) (v : Value) (zs : List Int) (x : Int) (w : World) (h : Sl w v zs) (hl : zs.length ≤ 9223372036854775807) :
    Calls Tryd.prog 16 #[.agg #[.int .i64 n, v], .int .i64 x] w fun e w' => GRes w.heap.size (tvN n zs x) (tvD n zs x) (tvC n zs x) e w' ∧ Below w.heap.size w w' := by
  have D0 : Below w.heap.size w (((w.alloc (.cells #[.int .i64 n, v] 26)).alloc (.cells #[.int .i64 0, .slice none 0 0] 26)).alloc (.cells #[.int .i64 x] 2)) := (((Below.refl _ _).alloc (Nat.le_refl _) _).alloc (by simp) _).alloc (by simp; omega) _
  unfold tvN tvD tvC tvOk
  cases hg : isG n zs with
  | false => exact specTv_code n v x 1 w _ rfl (by decide) (verts_no n v _ zs _ (h.below D0) hg hl)
  | true =>
    obtain ⟨h1, _, h3, _⟩ := isG_parts hg
    obtain ⟨b, off, cap, rfl, hb, hc⟩ := sl_some h (by omega)
    cases hx : (decide (0 ≤ x) && decide (x ≤ n - 1)) with
    | false =>
      refine specTv_code n _ x 2 w _ rfl (by decide) ?_
      have hx1 := cell_one_new ((w.alloc (.cells #[.int .i64 n, .slice (some ⟨b, off, none⟩) zs.length cap] 26)).alloc (.cells #[.int .i64 0, .slice none 0 0] 26)) (.int .i64 x) 2
      rw [World.size_alloc, World.size_alloc] at hx1
      have hv := verts_some n b off cap zs (w.heap.size + 1 + 1) 0 1 [x] _ (Nat.lt_of_lt_of_le hb D0.size) (hc.below D0 hb) (by simp) (cells_one (hx1 0 _ rfl)) hg hl (by simp)
      rw [vc_no (by rw [show [x].length = 1 from rfl, vs_one]; exact hx)] at hv
      exact hv
    | true =>
      obtain rfl : (zs.length : Int) = n := h3
      simp only [Bool.and_eq_true, decide_eq_true_eq] at hx
      obtain ⟨k, rfl⟩ := Int.eq_ofNat_of_zero_le hx.1
      by_cases hn : 1 < zs.length
      · simp only [hn, decide_true, Bool.and_self, if_true, Int.toNat_natCast]
        exact specTv_yes b off cap zs k w hb hc hg (by omega) hn
      · simp only [hn, decide_false, Bool.and_false, if_false, if_true, Bool.false_eq_true]
        exact specTv_one b off cap zs k w hb hc hg (by omega) hn

/-- The row of the vertices other than v. -/
theorem left_row {n v : Nat} (hn : n ≤ 62) : bits .andNot .i64 ((2 : Int) ^ n - 1) (2 ^ v) = ((anot (2 ^ n - 1) (2 ^ v) : Nat) : Int) := by
  have h2 : 0 < 2 ^ n := Nat.two_pow_pos n
  have hp : 2 ^ n ≤ 2 ^ 62 := Nat.pow_le_pow_right (by decide) hn
  have e1 : ((2 : Int) ^ n - 1) = ((2 ^ n - 1 : Nat) : Int) := by
    rw [show ((2 : Int) ^ n) = ((2 ^ n : Nat) : Int) by simp]; omega
  have e2 : ((2 : Int) ^ v) = ((2 ^ v : Nat) : Int) := by simp
  rw [e1, e2]
  exact andNot_nat _ _ (by omega)
theorem left_bit (n v j : Nat) : (anot (2 ^ n - 1) (2 ^ v)).testBit j = (decide (j < n) && (j != v)) := by
  rw [anot_bit, Nat.testBit_two_pow_sub_one, Nat.testBit_two_pow]
  by_cases h : j = v
  · subst h; simp
  · have : ¬ v = j := fun e => h e.symm
    simp [h, this]
theorem left_mem {n v : Nat} (hn : n ≤ 62) : mem (anot (2 ^ n - 1) (2 ^ v)) = (List.range n).filter fun j => j != v := by
  have h2 : 0 < 2 ^ n := Nat.two_pow_pos n
  rw [mem_to _ n (anot_lt (by omega)) (by omega)]
  apply List.filter_congr
  intro j hj
  rw [left_bit, decide_eq_true (List.mem_range.1 hj), Bool.true_and]
theorem left_zero {n v : Nat} (hn : 1 < n) : anot (2 ^ n - 1) (2 ^ v) ≠ 0 := by
  intro h
  by_cases hv : v = 0
  · have := left_bit n v 1; rw [h] at this; simp [hv, hn] at this
  · have := left_bit n v 0; rw [h] at this; simp at this; omega

set_option maxHeartbeats 1600000 in
theorem implTv_one (b off cap : Nat) (zs : List Int) (x : Nat) (w : World) (hb : b < w.heap.size) (hc : Cells w b off zs) (hg : isG zs.length zs = true) (hT : Tab w) (hx : x < zs.length) (hn : ¬ 1 < zs.length) :
    Calls Tryd.prog 18 #[.agg #[.int .i64 zs.length, .slice (some ⟨b, off, none⟩) zs.length cap], .int .i64 x] w fun e w' => GRes w.heap.size 0 [] 3 e w' ∧ Below w.heap.size w w' := by
  obtain ⟨h1a, h1b, -, -, -⟩ := isG_parts hg
  obtain ⟨W, hW⟩ : ∃ W, W = ((w.alloc (.cells #[.int .i64 zs.length, .slice (some ⟨b, off, none⟩) zs.length cap] 26)).alloc (.cells #[.int .i64 0, .slice none 0 0] 26)).alloc (.cells #[.int .i64 x] 2) := ⟨_, rfl⟩
  have D0 : Below w.heap.size w W := by rw [hW]; exact (((Below.refl _ _).alloc (Nat.le_refl _) _).alloc (by simp) _).alloc (by simp; omega) _
  have hsz : w.heap.size + 3 ≤ W.heap.size := by rw [hW]; simp
  have HG0 : Hid (GBox W w.heap.size zs.length b off cap zs) := by
    show GBox _ _ _ _ _ _ _
    rw [hW]
    exact ((GBox.new (n := zs.length) (cap := cap) hb hc).below ((Below.refl _ _).alloc (by simp) _)).below ((Below.refl _ _).alloc (by simp) _)
  have HR : Hid (W.heap[w.heap.size + 1]? = some (.cells #[.int .i64 0, .slice none 0 0] 26 (0, 0))) := by show _ = _; rw [hW]; exact heap_old_at (heap_new_at _ _ _ (by simp)) _
  have HX : Hid (Cells W (w.heap.size + 1 + 1) 0 [(x : Int)]) := by
    show Cells _ _ _ _
    rw [hW]
    have := cell_one_new ((w.alloc (.cells #[.int .i64 zs.length, .slice (some ⟨b, off, none⟩) zs.length cap] 26)).alloc (.cells #[.int .i64 0, .slice none 0 0] 26)) (.int .i64 x) 2
    rw [World.size_alloc, World.size_alloc] at this
    exact cells_one (this 0 _ rfl)
  have hv := chk_some zs.length b off cap zs (w.heap.size + 1 + 1) 0 1 [(x : Int)] W HG0.out.lb HG0.out.cells (by omega) HX.out hg (by omega) (by simp) (hT.belowAll D0)
  rw [vc_yes (by rw [show [(x : Int)].length = 1 from rfl, vs_one]; simp; omega)] at hv
  have HD := Lib.hid D0
  have HAV : Hid (∀ W, Calls Tryd.prog 55 #[.int .i64 zs.length] W fun e w' => e = .returned (.int .i64 (2 ^ zs.length - 1)) ∧ W = w') := fun W => by
    have := allV_any zs.length W (by omega) (by omega)
    rw [Int.toNat_natCast] at this
    exact this
  have hw := i64_pow (x : Int) (by omega)
  rw [Int.toNat_natCast] at hw
  have hx0 : (0 : Int) ≤ x := by omega
  have hxl : (x : Int) ≤ 62 := by omega
  have hrow : bits .andNot .i64 ((2 : Int) ^ zs.length - 1) (2 ^ x) = 0 := by
    obtain ⟨e1, e2⟩ : zs.length = 1 ∧ x = 0 := by omega
    rw [e1, e2]; decide
  clear hc hg D0 hT
  go_enter Tryd.func18, Tryd.ntmps18
  go_wp2_with fail
  rw [← hW]
  clear hW
  refine hv.mono ?_
  rintro e w1 ⟨rfl, hb1⟩
  have G1 := HG0.out.below (hb1.mono (by omega))
  have b0 := G1.b0
  have b1 := G1.b1
  have HR1 := Lib.hid ((hb1.block (w.heap.size + 1) (by omega)).trans HR.out)
  have HB1 := Lib.hid (HD.out.trans (hb1.mono HD.out.size))
  have hs1 : w.heap.size + 3 ≤ w1.heap.size := Nat.le_trans hsz hb1.size
  clear hb1 hv
  go_wp2_with fail
  go_quiet ((go_at_call 55; exact qsame (HAV.out _)))
  obtain ⟨r0, r1, g0, g1⟩ := two_cells HR1.out
  go_wp2
  have hfin := two_set (a := .int .i64 0) (b := .slice none 0 0) HR1.out
  refine bodyPost_ret (v := .tuple #[.agg #[.int .i64 0, .slice none 0 0], .int .i64 3]) (results_cell2 (p := 4) (u := 5) (ty := 26) rfl _ _ (w.heap.size + 1) 26 _ (0, 0) _ rfl hfin Tryd.underlying26 rfl (by exact info27)) rfl ⟨⟨_, rfl, Own.nil _ _⟩, ?_⟩
  exact ((drewN_below HB1.out _).setCell (p := ⟨w.heap.size + 1, 0, none⟩) (by simp) _).setCell (p := ⟨w.heap.size + 1, 1, none⟩) (by simp) _

theorem own_wv {v n : Nat} (hn : n ≤ 62) {w : World} {B : Nat} {u : Value} (h : w.ownsRow B 2 1 u (mem (anot (2 ^ n - 1) (2 ^ v))).length (natsV (mem (anot (2 ^ n - 1) (2 ^ v))))) : Own w B u (wvL v n) := by
  rw [left_mem hn] at h
  unfold Own wvL
  rw [List.length_map, List.map_map]
  exact h

set_option maxHeartbeats 3200000 in
theorem implTv_yes (b off cap : Nat) (zs : List Int) (x : Nat) (w : World) (hb : b < w.heap.size) (hc : Cells w b off zs) (hg : isG zs.length zs = true) (hT : Tab w) (hx : x < zs.length) (hn : 1 < zs.length) :
    Calls Tryd.prog 18 #[.agg #[.int .i64 zs.length, .slice (some ⟨b, off, none⟩) zs.length cap], .int .i64 x] w fun e w' => GRes w.heap.size (wvL x zs.length).length (onL zs (wvL x zs.length)) 0 e w' ∧ Below w.heap.size w w' := by
  obtain ⟨h1a, h1b, -, -, -⟩ := isG_parts hg
  obtain ⟨W, hW⟩ : ∃ W, W = ((w.alloc (.cells #[.int .i64 zs.length, .slice (some ⟨b, off, none⟩) zs.length cap] 26)).alloc (.cells #[.int .i64 0, .slice none 0 0] 26)).alloc (.cells #[.int .i64 x] 2) := ⟨_, rfl⟩
  have D0 : Below w.heap.size w W := by rw [hW]; exact (((Below.refl _ _).alloc (Nat.le_refl _) _).alloc (by simp) _).alloc (by simp; omega) _
  have hsz : w.heap.size + 3 ≤ W.heap.size := by rw [hW]; simp
  have HG0 : Hid (GBox W w.heap.size zs.length b off cap zs) := by
    show GBox _ _ _ _ _ _ _
    rw [hW]
    exact ((GBox.new (n := zs.length) (cap := cap) hb hc).below ((Below.refl _ _).alloc (by simp) _)).below ((Below.refl _ _).alloc (by simp) _)
  have HR : Hid (W.heap[w.heap.size + 1]? = some (.cells #[.int .i64 0, .slice none 0 0] 26 (0, 0))) := by show _ = _; rw [hW]; exact heap_old_at (heap_new_at _ _ _ (by simp)) _
  have HX : Hid (Cells W (w.heap.size + 1 + 1) 0 [(x : Int)]) := by
    show Cells _ _ _ _
    rw [hW]
    have := cell_one_new ((w.alloc (.cells #[.int .i64 zs.length, .slice (some ⟨b, off, none⟩) zs.length cap] 26)).alloc (.cells #[.int .i64 0, .slice none 0 0] 26)) (.int .i64 x) 2
    rw [World.size_alloc, World.size_alloc] at this
    exact cells_one (this 0 _ rfl)
  have hv := chk_some zs.length b off cap zs (w.heap.size + 1 + 1) 0 1 [(x : Int)] W HG0.out.lb HG0.out.cells (by omega) HX.out hg (by omega) (by simp) (hT.belowAll D0)
  rw [vc_yes (by rw [show [(x : Int)].length = 1 from rfl, vs_one]; simp; omega)] at hv
  have HD := Lib.hid D0
  have HAV : Hid (∀ W, Calls Tryd.prog 55 #[.int .i64 zs.length] W fun e w' => e = .returned (.int .i64 (2 ^ zs.length - 1)) ∧ W = w') := fun W => by
    have := allV_any zs.length W (by omega) (by omega)
    rw [Int.toNat_natCast] at this
    exact this
  have hw := i64_pow (x : Int) (by omega)
  rw [Int.toNat_natCast] at hw
  have hx0 : (0 : Int) ≤ x := by omega
  have hxl : (x : Int) ≤ 62 := by omega
  have hrow := left_row (n := zs.length) (v := x) (by omega)
  have hrz : (((anot (2 ^ zs.length - 1) (2 ^ x) : Nat) : Int) == 0) = false := by
    have := left_zero (v := x) hn
    simpa using this
  have hlt : anot (2 ^ zs.length - 1) (2 ^ x) < 9223372036854775808 := by
    have h2 : 0 < 2 ^ zs.length := Nat.two_pow_pos _
    have h3 : 2 ^ zs.length ≤ 2 ^ 62 := Nat.pow_le_pow_right (by decide) (by omega)
    have := anot_lt (a := 2 ^ zs.length - 1) (b := 2 ^ x) (m := zs.length) (by omega)
    omega
  have HMEM : Hid (∀ {w : World} {B : Nat} {u : Value}, w.ownsRow B 2 1 u (mem (anot (2 ^ zs.length - 1) (2 ^ x))).length (natsV (mem (anot (2 ^ zs.length - 1) (2 ^ x)))) → Own w B u (wvL x zs.length)) := fun h => own_wv (by omega) h
  obtain ⟨R, hR⟩ : ∃ R, R = anot (2 ^ zs.length - 1) (2 ^ x) := ⟨_, rfl⟩
  rw [← hR] at hrow hrz hlt HMEM
  clear hR
  have HGG := Lib.hid hg
  have HT0 := Lib.hid hT
  have hn0 : 0 < (wvL x zs.length).length := wvL_pos hn
  have hwl := wvL_length x zs.length
  clear hc hg D0 hT
  go_enter Tryd.func18, Tryd.ntmps18
  go_wp2_with fail
  rw [← hW]
  clear hW
  refine hv.mono ?_
  rintro e w1 ⟨rfl, hb1⟩
  have G1 := HG0.out.below (hb1.mono (by omega))
  have b0 := G1.b0
  have b1 := G1.b1
  have HR1 := Lib.hid ((hb1.block (w.heap.size + 1) (by omega)).trans HR.out)
  have HB1 := Lib.hid (HD.out.trans (hb1.mono HD.out.size))
  have hs1 : w.heap.size + 3 ≤ w1.heap.size := Nat.le_trans hsz hb1.size
  clear hb1 hv
  go_wp2_with fail
  go_quiet ((go_at_call 55; exact qsame (HAV.out _)))
  go_upto_region 7 with fail
  generalize hw2 : w1.drewN _ = w2
  have hd2 : Below w1.heap.size w1 w2 := by rw [← hw2]; exact drewN_below (Below.refl _ _) _
  have hs2 : w2.heap.size = w1.heap.size := by rw [← hw2]; rfl
  clear hw2
  have G2 := G1.below (hd2.mono (by omega))
  have b0 := G2.b0
  have b1 := G2.b1
  have HR2 := Lib.hid ((hd2.block (w.heap.size + 1) (by omega)).trans HR1.out)
  have HB2 := Lib.hid (HB1.out.trans (hd2.mono (by omega)))
  have hs3 : w.heap.size + 3 ≤ w2.heap.size := by omega
  have HLI : Hid (∀ W1, Below w2.heap.size w2 W1 → Calls Tryd.prog 57 #[.int .i64 R] W1 fun e w' => (∃ g cu, e = .returned (.slice (some ⟨g, 0, none⟩) (wvL x zs.length).length cu) ∧ Own w' W1.heap.size (.slice (some ⟨g, 0, none⟩) (wvL x zs.length).length cu) (wvL x zs.length) ∧ g < w'.heap.size) ∧ Below w2.heap.size w2 w') := fun W1 h => by
    refine (listOf_any R hlt W1 (HT0.out.belowAll (HB2.out.trans (h.mono (by omega))))).mono ?_
    rintro e w' ⟨u, rfl, hO, hbb⟩
    have hO2 := HMEM.out hO
    obtain ⟨g, cu, rfl, -, hg1⟩ := own_some8 hO2 rfl hn0
    exact ⟨⟨g, cu, rfl, hO2, hg1⟩, h.trans (hbb.mono h.size)⟩
  have HPO : Hid (∀ W1 g cu, Below w2.heap.size w2 W1 → Own W1 w2.heap.size (.slice (some ⟨g, 0, none⟩) (wvL x zs.length).length cu) (wvL x zs.length) → g < W1.heap.size → Calls Tryd.prog 56 #[.agg #[.int .i64 zs.length, .slice (some ⟨b, off, none⟩) zs.length cap], .slice (some ⟨g, 0, none⟩) (wvL x zs.length).length cu] W1 fun e w' => GRes W1.heap.size (wvL x zs.length).length (onL zs (wvL x zs.length)) 0 e w' ∧ Below w2.heap.size w2 w') := fun W1 g cu h hO hg1 => by
    have G3 := G2.below (h.mono (by omega))
    refine (implOn_yes b off cap g 0 cu zs (wvL x zs.length) W1 G3.lb G3.cells hg1 (own_cells8 hO rfl) HGG.out (HT0.out.belowAll (HB2.out.trans (h.mono (by omega)))) (wvL_asc _ _) hn0).mono ?_
    rintro e w' ⟨hr, hbb⟩
    exact ⟨hr, h.trans (hbb.mono h.size)⟩
  obtain ⟨r0, r1, g0, g1⟩ := two_cells HR2.out
  clear hrow hrz hd2 hs2
  go_region_with (first
    | (go_at_call 57; refine (HLI.out _ (by first | exact (Below.refl _ _).drew | exact Below.refl _ _)).mono ?_; rintro e w4 ⟨⟨g, cu, rfl, hO4, hg4⟩, hb4⟩; have HO4 := Lib.hid (hO4.base (B' := w2.heap.size) (by simp)); have G4 := G2.below (hb4.mono (by omega)); have b0 := G4.b0; have b1 := G4.b1; have HB4 := Lib.hid hb4; clear hO4 hb4)
    | (go_at_call 56; refine (HPO.out _ g cu HB4.out HO4.out hg4).mono ?_; rintro e w5 ⟨⟨u, rfl, hO⟩, hb5⟩; obtain ⟨ua, ul, uc, rfl⟩ := slice_of hO; have HO := Lib.hid (hO.base (B' := w2.heap.size) HB4.out.size); have HB5 := Lib.hid hb5; have HR5 := Lib.hid ((hb5.block (w.heap.size + 1) (by omega)).trans HR2.out); obtain ⟨r0, r1, g0, g1⟩ := two_cells HR5.out; clear hO hb5))
  all_goals
    go_wp2_with fail
    have hfin := two_set (a := .int .i64 (wvL x zs.length).length) (b := .slice ua ul uc) HR5.out
    refine bodyPost_ret (v := .tuple #[.agg #[.int .i64 (wvL x zs.length).length, .slice ua ul uc], .int .i64 0]) (results_cell2 (p := 4) (u := 5) (ty := 26) rfl _ _ (w.heap.size + 1) 26 _ (0, 0) _ rfl hfin Tryd.underlying26 rfl (by exact info27)) rfl ⟨⟨_, rfl, ?_⟩, ?_⟩
    · have hne : (Value.slice ua ul uc).ownBlock ≠ some (w.heap.size + 1) := fun e => by have := HO.out.ge _ e; omega
      exact (HO.out.base (by omega)).kept (grown_set (grown_set ⟨rfl, rfl, rfl, Nat.le_refl _, fun _ _ _ => rfl⟩ _ 0 _) _ 1 _) (.inr hne)
    · exact ((HB2.out.trans (HB5.out.mono (by omega))).setCell (p := ⟨w.heap.size + 1, 0, none⟩) (by simp) _).setCell (p := ⟨w.heap.size + 1, 1, none⟩) (by simp) _

theorem implTv_any (n : Int) (v : Value) (zs : List Int) (x : Int) (w : World) (h : Sl w v zs) (hl : zs.length ≤ 9223372036854775807) (hT : Tab w) :
    Calls Tryd.prog 18 #[.agg #[.int .i64 n, v], .int .i64 x] w fun e w' => GRes w.heap.size (tvN n zs x) (tvD n zs x) (tvC n zs x) e w' ∧ Below w.heap.size w w' := by
  have D0 : Below w.heap.size w (((w.alloc (.cells #[.int .i64 n, v] 26)).alloc (.cells #[.int .i64 0, .slice none 0 0] 26)).alloc (.cells #[.int .i64 x] 2)) := (((Below.refl _ _).alloc (Nat.le_refl _) _).alloc (by simp) _).alloc (by simp; omega) _
  unfold tvN tvD tvC tvOk
  cases hg : isG n zs with
  | false => exact implTv_code n v x 1 w _ rfl (by decide) (chk_no n v _ zs _ (h.below D0) hg hl (hT.belowAll D0))
  | true =>
    obtain ⟨h1, _, h3, _⟩ := isG_parts hg
    obtain ⟨b, off, cap, rfl, hb, hc⟩ := sl_some h (by omega)
    cases hx : (decide (0 ≤ x) && decide (x ≤ n - 1)) with
    | false =>
      refine implTv_code n _ x 2 w _ rfl (by decide) ?_
      have hx1 := cell_one_new ((w.alloc (.cells #[.int .i64 n, .slice (some ⟨b, off, none⟩) zs.length cap] 26)).alloc (.cells #[.int .i64 0, .slice none 0 0] 26)) (.int .i64 x) 2
      rw [World.size_alloc, World.size_alloc] at hx1
      have hv := chk_some n b off cap zs (w.heap.size + 1 + 1) 0 1 [x] _ (Nat.lt_of_lt_of_le hb D0.size) (hc.below D0 hb) (by simp) (cells_one (hx1 0 _ rfl)) hg hl (by simp) (hT.belowAll D0)
      rw [vc_no (by rw [show [x].length = 1 from rfl, vs_one]; exact hx)] at hv
      exact hv
    | true =>
      obtain rfl : (zs.length : Int) = n := h3
      simp only [Bool.and_eq_true, decide_eq_true_eq] at hx
      obtain ⟨k, rfl⟩ := Int.eq_ofNat_of_zero_le hx.1
      by_cases hn : 1 < zs.length
      · simp only [hn, decide_true, Bool.and_self, if_true, Int.toNat_natCast]
        exact implTv_yes b off cap zs k w hb hc hg hT (by omega) hn
      · simp only [hn, decide_false, Bool.and_false, if_false, if_true, Bool.false_eq_true]
        exact implTv_one b off cap zs k w hb hc hg hT (by omega) hn
end Go.Proofs.YtabkfihhfkmioaaDoor
