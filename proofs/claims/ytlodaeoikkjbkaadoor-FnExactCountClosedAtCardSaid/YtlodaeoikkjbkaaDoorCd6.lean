/-
  impl.CountClosedAt.
-/
import Derived.Test.YtlodaeoikkjbkaaDoorCc
import Derived.Test.YtlodaeoikkjbkaaDoorDs
import Derived.Test.YtlodaeoikkjbkaaDoorCk2
namespace Go.Proofs.YtlodaeoikkjbkaaDoor
set_option maxRecDepth 100000
set_option maxRecDepth 100000
open Go.RowKit Go.Shelf

attribute [local go_sem] Oper.semAt_some

def kOk (k : Int) : Bool := decide (0 ≤ k) && decide (k ≤ 8)
def CcC (n : Int) (zs : List Int) (x k : Int) : Int := if NC n zs x = 0 then (if kOk k then 0 else 2) else NC n zs x
def CcN (n : Int) (zs : List Int) (x k : Int) : Int := if NC n zs x = 0 then (if kOk k then wyN zs x.toNat k.toNat x.toNat else 0) else 0

set_option maxHeartbeats 4000000 in
theorem implCc_in (b off cap : Nat) (zs : List Int) (x k : Nat) (w : World) (hb : b < w.heap.size) (hc : Cells w b off zs) (hg : isG zs.length zs = true) (hx : x < zs.length) (hk : k ≤ 8) (hT : Tab w) :
    CallsIn Fence.wide 6 Tryd.prog 23 #[.agg #[.int .i64 zs.length, .slice (some ⟨b, off, none⟩) zs.length cap], .int .i64 x, .int .i64 k] w fun e w' => e = .returned (.tuple #[.int .i64 (wyN zs x k x), .int .i64 0]) ∧ Below w.heap.size w w' := by
  have D0 : Below w.heap.size w ((w.alloc (.cells #[.int .i64 zs.length, .slice (some ⟨b, off, none⟩) zs.length cap] 28)).alloc (.cells #[.int .i64 x] 2)) := ((Below.refl _ _).alloc (Nat.le_refl _) _).alloc (by simp) _
  have hx1 := cell_one_new (w.alloc (.cells #[.int .i64 zs.length, .slice (some ⟨b, off, none⟩) zs.length cap] 28)) (.int .i64 x) 2
  rw [World.size_alloc] at hx1
  have hv := chk_some zs.length b off cap zs (w.heap.size + 1) 0 1 [(x : Int)] _ (Nat.lt_of_lt_of_le hb D0.size) (hc.below D0 hb) (by simp) (cells_one (hx1 0 _ rfl)) hg (by have := isG_parts hg; omega) (by simp) (hT.belowAll D0)
  obtain ⟨g1, g2, -, -, -⟩ := isG_parts hg
  rw [vc_yes (by rw [show [(x : Int)].length = 1 from rfl, vs_one]; simp; omega)] at hv
  have HG0 := Lib.hid (GBox.new (n := zs.length) (cap := cap) hb hc)
  have HG := Lib.hid hg
  have hm62 : zs.length ≤ 62 := by omega
  have HT := Lib.hid (hT.belowAll D0)
  have hk0 : ¬ (k : Int) < 0 := by omega
  have hk8 : ¬ (8 : Int) < k := by omega
  have hx0 : (0 : Int) ≤ x := by omega
  have hx62 : (x : Int) < 62 := by omega
  have hTl := hT.lt
  clear hc hg hx1 hT
  refine callsIn_of_wp Tryd.func23 rfl trivial ?_ rfl
  simp only [Tryd.ntmps23, List.size_toArray, List.length_cons, List.length_nil, Nat.reduceAdd, Nat.reduceSub, Array.replicate_succ, Array.replicate_zero, List.push_toArray, List.append_toArray, List.nil_append, List.cons_append]
  gi_upto_region 6 with (refine ⟨trivial, ?_⟩; gi_at_call 36; refine (callsIn_wide.2 hv).mono ?_; rintro e w1 ⟨rfl, hb1⟩)
  have G1 := Lib.hid (HG0.out.below (((Below.refl (w.heap.size + 1) (w.alloc (.cells #[.int .i64 zs.length, .slice (some ⟨b, off, none⟩) zs.length cap] 28))).alloc (by simp) (.cells #[.int .i64 x] 2)).trans (hb1.mono (by simp))))
  have D1 : Below w.heap.size w w1 := D0.trans (hb1.mono (by simp; omega))
  have T1 := Lib.hid (HT.out.belowAll hb1)
  have s1 : w.heap.size + 2 ≤ w1.heap.size := by have := hb1.size; simpa using this
  clear hv hb1 D0 HG0 HT
  gi_upto_region 7 with fail
  obtain ⟨Wz, hWz⟩ : ∃ Wz, Wz = w1.alloc (.cells (rowsA fun _ => 0) 58) := ⟨_, rfl⟩
  refine at_world (w' := Wz) ?_ (by rw [hWz]; rfl)
  have hbz : Below w1.heap.size w1 Wz := by rw [hWz]; exact (Below.refl _ _).alloc (Nat.le_refl _) _
  have HA0 : Hid (AW Wz w1.heap.size (fun _ => 0)) := by show AW _ _ _; rw [hWz]; exact World.alloc_heap_new w1 _
  have ca := HA0.out.cell (j := x) (by omega)
  have fa := HA0.out.frozen x
  clear hWz
  gi_wp2
  obtain ⟨Wy, hWy⟩ : ∃ Wy, Wy = Wz.setCell ⟨w1.heap.size, x, none⟩ (.int .i64 1) := ⟨_, rfl⟩
  refine at_world (w' := Wy) ?_ hWy.symm
  have HA1 : Hid (AW Wy w1.heap.size (wyN zs x 0)) := by show AW _ _ _; rw [hWy]; exact HA0.out.set (by omega) 1
  have hE1 : Below w1.heap.size w1 Wy := by rw [hWy]; exact hbz.setCell (p := ⟨w1.heap.size, x, none⟩) (by simp) _
  clear hWy ca fa HA0 hbz
  gi_loopw [26] (fun v wr => ∃ t : Nat, t ≤ k ∧ v = .int .i64 t ∧ Hid (AW wr w1.heap.size (wyN zs x t)) ∧ Below w1.heap.size w1 wr) (fun v _ => k - (intOf v).toNat)
  case atStart => exact ⟨0, Nat.zero_le _, rfl, HA1, hE1⟩
  case round =>
    clear HA1 hE1
    obtain ⟨t, ht, rfl, HA, hE⟩ := hrel
    have hwl := HA.out.lt
    by_cases hlt : t < k
    · have hlti : (t : Int) < k := by omega
      have G2 := G1.out.below (hE.mono (by omega))
      have b0 := G2.b0; have b1 := G2.b1
      have hp8 := pow_le8 (t := t) (by omega)
      have HWY := Lib.hid (ways_in b off cap zs (wyN zs x t) (62 ^ t) wr G2.lb G2.cells HG.out (T1.out.below hE (by have := T1.out.lt; omega)) (Int.pow_nonneg (by decide)) (fun y => wyN_bound hm62 t y) (by omega))
      gi_wp2_with (first
        | (refine wpListIn_load_row rfl 58 _ rfl w1.heap.size rfl 58 (rowsA (wyN zs x t)) (0, 0) _ HA.out Tryd.underlying58 rfl (by rw [rowsA_size]; exact infoAW) ?_)
        | (refine ⟨trivial, ?_⟩; gi_at_call 44; refine HWY.out.mono ?_; rintro e w5 ⟨rfl, hb5⟩; have HA5 := Lib.hid (HA.out.belowAll hb5))
        | (refine wpListIn_store_row rfl 58 _ _ rfl w1.heap.size (rowsA (acW zs (wyN zs x t) zs.length)) rfl rfl 58 (rowsA (wyN zs x t)) HA5.out (by rw [rowsA_size]; exact infoAW) (by rw [rowsA_size, rowsA_size]) (rowsA_one _) ?_))
      have HA6 : Hid (AW (w5.setRow w1.heap.size (rowsA (acW zs (wyN zs x t) zs.length))) w1.heap.size (wyN zs x (t + 1))) := HA5.out.setRow _
      have hE6 : Below w1.heap.size w1 (w5.setRow w1.heap.size (rowsA (acW zs (wyN zs x t) zs.length))) := (hE.trans (hb5.mono (by omega))).trans (setRow_below (Nat.le_refl _) _)
      go_roundw
      case rel => exact ⟨t + 1, hlt, by go_num, HA6, hE6⟩
      case measure => simp [intOf]; omega
    · obtain rfl : t = k := by omega
      have ca := HA.out.cell (j := x) (by omega)
      have E := Lib.hid (D1.trans (hE.mono (by omega)))
      gi_wp2
      refine bodyPost_ret (results_tmp2 rfl _ _ _) rfl ⟨rfl, E.out⟩

theorem implCc_yes (b off cap : Nat) (zs : List Int) (x k : Nat) (w : World) (hb : b < w.heap.size) (hc : Cells w b off zs) (hg : isG zs.length zs = true) (hx : x < zs.length) (hk : k ≤ 8) (hT : Tab w) :
    Calls Tryd.prog 23 #[.agg #[.int .i64 zs.length, .slice (some ⟨b, off, none⟩) zs.length cap], .int .i64 x, .int .i64 k] w fun e w' => e = .returned (.tuple #[.int .i64 (wyN zs x k x), .int .i64 0]) ∧ Below w.heap.size w w' :=
  callsIn_wide.1 (implCc_in b off cap zs x k w hb hc hg hx hk hT)

set_option maxHeartbeats 1600000 in
theorem implCc_far (n : Int) (b off cap : Nat) (zs : List Int) (x k : Int) (w : World) (hb : b < w.heap.size) (hc : Cells w b off zs) (hg : isG n zs = true) (hx : (decide (0 ≤ x) && decide (x ≤ n - 1)) = false ∨ kOk k = false) (hl : zs.length ≤ 9223372036854775807) (hT : Tab w) :
    Calls Tryd.prog 23 #[.agg #[.int .i64 n, .slice (some ⟨b, off, none⟩) zs.length cap], .int .i64 x, .int .i64 k] w fun e w' => e = .returned (.tuple #[.int .i64 0, .int .i64 2]) ∧ Below w.heap.size w w' := by
  have D0 : Below w.heap.size w ((w.alloc (.cells #[.int .i64 n, .slice (some ⟨b, off, none⟩) zs.length cap] 28)).alloc (.cells #[.int .i64 x] 2)) := ((Below.refl _ _).alloc (Nat.le_refl _) _).alloc (by simp) _
  have hx1 := cell_one_new (w.alloc (.cells #[.int .i64 n, .slice (some ⟨b, off, none⟩) zs.length cap] 28)) (.int .i64 x) 2
  rw [World.size_alloc] at hx1
  have hv := chk_some n b off cap zs (w.heap.size + 1) 0 1 [x] _ (Nat.lt_of_lt_of_le hb D0.size) (hc.below D0 hb) (by simp) (cells_one (hx1 0 _ rfl)) hg hl (by simp) (hT.belowAll D0)
  clear hc hg hx1 hT
  cases hxx : decide (0 ≤ x) && decide (x ≤ n - 1) with
  | false =>
    rw [vc_no (by rw [show [x].length = 1 from rfl, vs_one]; exact hxx)] at hv
    clear hx hxx
    go_enter Tryd.func23, Tryd.ntmps23
    go_wp2_with fail
    refine hv.mono ?_
    rintro e w1 ⟨rfl, hb1⟩
    have D1 := D0.trans (hb1.mono (by simp; omega))
    clear hb1 hv
    go_wp2
    go_ret2
    exact ⟨rfl, D1⟩
  | true =>
    rw [vc_yes (by rw [show [x].length = 1 from rfl, vs_one]; exact hxx)] at hv
    have hk : kOk k = false := by
      rcases hx with h | h
      · rw [h] at hxx; cases hxx
      · exact h
    have hk2 : k < 0 ∨ (¬ k < 0 ∧ 8 < k) := by
      have : ¬ (0 ≤ k ∧ k ≤ 8) := fun h => by
        unfold kOk at hk
        rw [decide_eq_true h.1, decide_eq_true h.2] at hk; cases hk
      omega
    clear hx hxx hk
    rcases hk2 with h1 | ⟨h1, h2⟩
    all_goals
      go_enter Tryd.func23, Tryd.ntmps23
      go_wp2_with fail
      refine hv.mono ?_
      rintro e w1 ⟨rfl, hb1⟩
      have D1 := D0.trans (hb1.mono (by simp; omega))
      clear hb1 hv
      go_wp2
      go_ret2
      exact ⟨rfl, D1⟩

set_option maxHeartbeats 800000 in
theorem implCc_no (n : Int) (v : Value) (zs : List Int) (x k : Int) (w : World) (h : Sl w v zs) (hg : isG n zs = false) (hl : zs.length ≤ 9223372036854775807) (hT : Tab w) :
    Calls Tryd.prog 23 #[.agg #[.int .i64 n, v], .int .i64 x, .int .i64 k] w fun e w' => e = .returned (.tuple #[.int .i64 0, .int .i64 1]) ∧ Below w.heap.size w w' := by
  have D0 : Below w.heap.size w ((w.alloc (.cells #[.int .i64 n, v] 28)).alloc (.cells #[.int .i64 x] 2)) := ((Below.refl _ _).alloc (Nat.le_refl _) _).alloc (by simp) _
  have hv := fun u => chk_no n v u zs _ (h.below D0) hg hl (hT.belowAll D0)
  clear h hg hT
  go_enter Tryd.func23, Tryd.ntmps23
  go_wp2_with fail
  refine (hv _).mono ?_
  rintro e w1 ⟨rfl, hb1⟩
  have D1 := D0.trans (hb1.mono (by simp; omega))
  clear hb1 hv
  go_wp2
  go_ret2
  exact ⟨rfl, D1⟩

theorem implCc_any (n : Int) (v : Value) (zs : List Int) (x k : Int) (w : World) (h : Sl w v zs) (hl : zs.length ≤ 9223372036854775807) (hT : Tab w) :
    Calls Tryd.prog 23 #[.agg #[.int .i64 n, v], .int .i64 x, .int .i64 k] w fun e w' => e = .returned (.tuple #[.int .i64 (CcN n zs x k), .int .i64 (CcC n zs x k)]) ∧ Below w.heap.size w w' := by
  cases hg : isG n zs
  · have hN : NC n zs x = 1 := by simp [NC, hg]
    rw [show CcN n zs x k = 0 by simp [CcN, hN], show CcC n zs x k = 1 by simp [CcC, hN]]
    exact implCc_no n v zs x k w h hg hl hT
  · obtain ⟨h1, _, h3, _⟩ := isG_parts hg
    obtain ⟨b, off, cap, rfl, hb, hc⟩ := sl_some h (by omega)
    cases hx : (decide (0 ≤ x) && decide (x ≤ n - 1))
    · have hN : NC n zs x = 2 := by simp [NC, hg, hx]
      rw [show CcN n zs x k = 0 by simp [CcN, hN], show CcC n zs x k = 2 by simp [CcC, hN]]
      exact implCc_far n b off cap zs x k w hb hc hg (.inl hx) hl hT
    · have hN : NC n zs x = 0 := by simp [NC, hg, hx]
      cases hk : kOk k
      · rw [show CcN n zs x k = 0 by simp [CcN, hN, hk], show CcC n zs x k = 2 by simp [CcC, hN, hk]]
        exact implCc_far n b off cap zs x k w hb hc hg (.inr hk) hl hT
      · rw [show CcN n zs x k = wyN zs x.toNat k.toNat x.toNat by simp [CcN, hN, hk], show CcC n zs x k = 0 by simp [CcC, hN, hk]]
        simp only [Bool.and_eq_true, decide_eq_true_eq] at hx
        unfold kOk at hk
        simp only [Bool.and_eq_true, decide_eq_true_eq] at hk
        obtain ⟨j, rfl⟩ := Int.eq_ofNat_of_zero_le hx.1
        obtain ⟨t, rfl⟩ := Int.eq_ofNat_of_zero_le hk.1
        obtain rfl : (zs.length : Int) = n := h3
        exact implCc_yes b off cap zs j t w hb hc hg (by omega) (by omega) hT
end Go.Proofs.YtlodaeoikkjbkaaDoor
