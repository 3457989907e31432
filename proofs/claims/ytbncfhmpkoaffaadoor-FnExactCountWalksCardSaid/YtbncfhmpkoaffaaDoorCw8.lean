/-
  CountWalks: both programs.
-/
import Derived.Test.YtbncfhmpkoaffaaDoorWw8
import Derived.Test.YtbncfhmpkoaffaaDoorAr8
import Derived.Test.YtbncfhmpkoaffaaDoorCl8
namespace Go.Proofs.YtbncfhmpkoaffaaDoor
set_option maxRecDepth 100000
set_option maxRecDepth 100000
open Go.RowKit Go.Shelf

attribute [local go_sem] Oper.semAt_some

def kOk (k : Int) : Bool := decide (0 ≤ k) && decide (k ≤ 8)
def cwOk (n a b k : Int) : Bool := (inM n a && inM n b) && kOk k
/-- The number of walks and the code. -/
def cwN (n : Int) (zs : List Int) (a b k : Int) : Int := if isD n zs then (if cwOk n a b k then wyN zs a.toNat k.toNat b.toNat else 0) else 0
def cwC (n : Int) (zs : List Int) (a b k : Int) : Int := if isD n zs then (if cwOk n a b k then 0 else 2) else 1

theorem dg_rows {n : Int} {zs : List Int} (hg : DgOk n zs) : ∀ i, i < zs.length → 0 ≤ el zs i ∧ (el zs i).toNat < 2 ^ zs.length := fun i _ => ⟨hg.ge i, hg.lt i⟩
theorem inM_nat {m : Nat} {x : Nat} (h : x < m) : inM (m : Int) (x : Int) = true := by unfold inM; simp; omega

set_option maxHeartbeats 4000000 in
theorem implCw_in (b off cap : Nat) (zs : List Int) (x y k : Nat) (w : World) (hb : b < w.heap.size) (hc : Cells w b off zs) (hd : isD zs.length zs = true) (hx : x < zs.length) (hy : y < zs.length) (hk : k ≤ 8) (hl : zs.length ≤ 9223372036854775807) (hT : TabE w) :
    CallsIn Fence.wide 6 Tryd.prog 33 #[.agg #[.int .i64 zs.length, .slice (some ⟨b, off, none⟩) zs.length cap], .int .i64 x, .int .i64 y, .int .i64 k] w fun e w' => e = .returned (.tuple #[.int .i64 (wyN zs x k y), .int .i64 0]) ∧ Below w.heap.size w w' := by
  have D0 : Below w.heap.size w (w.alloc (.cells #[.int .i64 zs.length, .slice (some ⟨b, off, none⟩) zs.length cap] 29)) := (Below.refl _ _).alloc (Nat.le_refl _) _
  have his := chkD_any zs.length _ zs _ (.inr ⟨b, off, cap, rfl, Nat.lt_of_lt_of_le hb D0.size, hc.below D0 hb⟩) hl (hT.2.belowAll D0)
  unfold dC at his
  rw [hd, if_pos rfl] at his
  have hg := dg_ok hd
  have HG0 := Lib.hid (GBox.newD (n := (zs.length : Int)) (cap := cap) hb hc)
  have HG := Lib.hid hg
  have hm62 : zs.length ≤ 62 := hg.le
  have HT := Lib.hid (hT.1.belowAll D0)
  have hk0 : ¬ (k : Int) < 0 := by omega
  have hk8 : ¬ (8 : Int) < k := by omega
  have hx0 : (0 : Int) ≤ x := by omega
  have hx62 : (x : Int) < 62 := by omega
  have hy0 : (0 : Int) ≤ y := by omega
  have hy62 : (y : Int) < 62 := by omega
  have har := fun W g h => areRests_two (zs.length : Int) x y W g 2 h true (by rw [inM_nat hx, inM_nat hy]; rfl)
  clear hc hg hT hd
  refine callsIn_of_wp Tryd.func33 rfl trivial ?_ rfl
  simp only [Tryd.ntmps33, List.size_toArray, List.length_cons, List.length_nil, Nat.reduceAdd, Nat.reduceSub, Array.replicate_succ, Array.replicate_zero, List.push_toArray, List.append_toArray, List.nil_append, List.cons_append]
  gi_upto_region 6 with (first
    | (refine ⟨trivial, ?_⟩; gi_at_call 45; refine (callsIn_wide.2 his).mono ?_; rintro e w0 ⟨rfl, hb1⟩; have G0 := HG0.out.below (hb1.mono (by simp)); have b0 := G0.b0; have b1 := G0.b1)
    | (refine ⟨trivial, ?_⟩; gi_at_call 62; refine (callsIn_wide.2 (har _ _ (World.alloc_heap_new w0 _))).mono ?_; rintro e w' ⟨rfl, rfl⟩))
  obtain ⟨w1, hw1⟩ : ∃ w1, w1 = w0.alloc (.cells #[.int .i64 x, .int .i64 y] 2) := ⟨_, rfl⟩
  refine at_world (w' := w1) ?_ hw1.symm
  have hb01 : Below w0.heap.size w0 w1 := by rw [hw1]; exact (Below.refl _ _).alloc (Nat.le_refl _) _
  have G1 := Lib.hid (G0.below (hb01.mono (by have := G0.lt; omega)))
  have D1 : Below w.heap.size w w1 := D0.trans ((hb1.trans (hb01.mono hb1.size)).mono D0.size)
  have T1 := Lib.hid (HT.out.belowAll (hb1.trans (hb01.mono hb1.size)))
  have s1 : w.heap.size + 1 ≤ w1.heap.size := by have := G1.out.lt; omega
  clear his hb1 D0 HG0 HT har hw1 hb01 G0 b0 b1
  gi_upto_region 7 with fail
  obtain ⟨Wz, hWz⟩ : ∃ Wz, Wz = w1.alloc (.cells (rowsA fun _ => 0) 67) := ⟨_, rfl⟩
  refine at_world (w' := Wz) ?_ (by rw [hWz]; rfl)
  have hbz : Below w1.heap.size w1 Wz := by rw [hWz]; exact (Below.refl _ _).alloc (Nat.le_refl _) _
  have HA0 : Hid (AW Wz w1.heap.size (fun _ => 0)) := by show AW _ _ _; rw [hWz]; exact World.alloc_heap_new w1 _
  have ca := HA0.out.cell (j := x) (by omega)
  have fa := HA0.out.frozen x
  clear hWz
  gi_wp2
  obtain ⟨Wy, hWy⟩ : ∃ Wy, Wy = Wz.setCell ⟨w1.heap.size, x, none⟩ (.int .i64 1) := ⟨_, rfl⟩
  refine at_world (w' := Wy) ?_ hWy.symm
  have HA1 : Hid (AW Wy w1.heap.size (wyN zs x 0)) := by show AW _ _ _; rw [hWy]; exact HA0.out.set (by omega) 1
  have hE1 : Below w1.heap.size w1 Wy := by rw [hWy]; exact hbz.setCell (p := ⟨w1.heap.size, x, none⟩) (by simp) _
  clear hWy ca fa HA0 hbz
  gi_loopw [35] (fun v wr => ∃ t : Nat, t ≤ k ∧ v = .int .i64 t ∧ Hid (AW wr w1.heap.size (wyN zs x t)) ∧ Below w1.heap.size w1 wr) (fun v _ => k - (intOf v).toNat)
  case atStart => exact ⟨0, Nat.zero_le _, rfl, HA1, hE1⟩
  case round =>
    clear HA1 hE1
    obtain ⟨t, ht, rfl, HA, hE⟩ := hrel
    have hwl := HA.out.lt
    by_cases hlt : t < k
    · have hlti : (t : Int) < k := by omega
      have G2 := G1.out.below (hE.mono (by omega))
      have b0 := G2.b0; have b1 := G2.b1
      have hp8 := pow_le8 (t := t) (by omega)
      have HWY := Lib.hid (ways_in b off cap zs (wyN zs x t) (62 ^ t) wr G2.lb G2.cells hm62 (dg_rows HG.out) (T1.out.below hE (by have := T1.out.lt; omega)) (Int.pow_nonneg (by decide)) (fun y => wyN_bound hm62 t y) (by omega))
      gi_wp2_with (first
        | (refine wpListIn_load_row rfl 67 _ rfl w1.heap.size rfl 67 (rowsA (wyN zs x t)) (0, 0) _ HA.out Tryd.underlying67 rfl (by rw [rowsA_size]; exact infoAW) ?_)
        | (refine ⟨trivial, ?_⟩; gi_at_call 63; refine HWY.out.mono ?_; rintro e w5 ⟨rfl, hb5⟩; have HA5 := Lib.hid (HA.out.belowAll hb5))
        | (refine wpListIn_store_row rfl 67 _ _ rfl w1.heap.size (rowsA (acW zs (wyN zs x t) zs.length)) rfl rfl 67 (rowsA (wyN zs x t)) HA5.out (by rw [rowsA_size]; exact infoAW) (by rw [rowsA_size, rowsA_size]) (rowsA_one _) ?_))
      have HA6 : Hid (AW (w5.setRow w1.heap.size (rowsA (acW zs (wyN zs x t) zs.length))) w1.heap.size (wyN zs x (t + 1))) := HA5.out.setRow _
      have hE6 : Below w1.heap.size w1 (w5.setRow w1.heap.size (rowsA (acW zs (wyN zs x t) zs.length))) := (hE.trans (hb5.mono (by omega))).trans (setRow_below (Nat.le_refl _) _)
      go_roundw
      case rel => exact ⟨t + 1, hlt, by go_num, HA6, hE6⟩
      case measure => simp [intOf]; omega
    · obtain rfl : t = k := by omega
      have ca := HA.out.cell (j := y) (by omega)
      have E := Lib.hid (D1.trans (hE.mono (by omega)))
      gi_wp2
      refine bodyPost_ret (results_tmp2 rfl _ _ _) rfl ⟨rfl, E.out⟩

theorem kOk_no {k : Int} (h : kOk k = false) : k < 0 ∨ (¬ k < 0 ∧ 8 < k) := by
  have : ¬ (0 ≤ k ∧ k ≤ 8) := fun hh => by
    unfold kOk at h
    rw [decide_eq_true hh.1, decide_eq_true hh.2] at h; cases h
  omega

set_option maxHeartbeats 1600000 in
theorem implCw_far (n : Int) (b off cap : Nat) (zs : List Int) (x y k : Int) (w : World) (hb : b < w.heap.size) (hc : Cells w b off zs) (hd : isD n zs = true) (ho : cwOk n x y k = false) (hl : zs.length ≤ 9223372036854775807) (hT : TabE w) :
    Calls Tryd.prog 33 #[.agg #[.int .i64 n, .slice (some ⟨b, off, none⟩) zs.length cap], .int .i64 x, .int .i64 y, .int .i64 k] w fun e w' => e = .returned (.tuple #[.int .i64 0, .int .i64 2]) ∧ Below w.heap.size w w' := by
  have D0 : Below w.heap.size w (w.alloc (.cells #[.int .i64 n, .slice (some ⟨b, off, none⟩) zs.length cap] 29)) := (Below.refl _ _).alloc (Nat.le_refl _) _
  have his := chkD_any n _ zs _ (.inr ⟨b, off, cap, rfl, Nat.lt_of_lt_of_le hb D0.size, hc.below D0 hb⟩) hl (hT.2.belowAll D0)
  unfold dC at his
  rw [hd, if_pos rfl] at his
  have HG0 := Lib.hid (GBox.newD (n := n) (cap := cap) hb hc)
  clear hc hT hd
  cases hxx : inM n x && inM n y with
  | false =>
    have har := fun W g h => areRests_two n x y W g 2 h false hxx
    clear ho hxx
    go_enter Tryd.func33, Tryd.ntmps33
    go_wp2_with (first
      | (go_at_call 45; refine his.mono ?_; rintro e w0 ⟨rfl, hb1⟩; have G0 := HG0.out.below (hb1.mono (by simp)); have b0 := G0.b0; have b1 := G0.b1; have E := Lib.hid (D0.trans (hb1.mono D0.size)))
      | (go_at_call 62; refine (har _ _ (World.alloc_heap_new w0 _)).mono ?_; rintro e w' ⟨rfl, rfl⟩))
    go_ret2
    exact ⟨rfl, E.out.alloc E.out.size _⟩
  | true =>
    have har := fun W g h => areRests_two n x y W g 2 h true hxx
    have hk : kOk k = false := by unfold cwOk at ho; rw [hxx] at ho; simpa using ho
    have hk2 := kOk_no hk
    clear ho hxx hk
    rcases hk2 with h1 | ⟨h1, h2⟩
    all_goals
      go_enter Tryd.func33, Tryd.ntmps33
      go_wp2_with (first
        | (go_at_call 45; refine his.mono ?_; rintro e w0 ⟨rfl, hb1⟩; have G0 := HG0.out.below (hb1.mono (by simp)); have b0 := G0.b0; have b1 := G0.b1; have E := Lib.hid (D0.trans (hb1.mono D0.size)))
        | (go_at_call 62; refine (har _ _ (World.alloc_heap_new w0 _)).mono ?_; rintro e w' ⟨rfl, rfl⟩))
      go_ret2
      exact ⟨rfl, E.out.alloc E.out.size _⟩

set_option maxHeartbeats 800000 in
theorem implCw_no (n : Int) (v : Value) (zs : List Int) (x y k : Int) (w : World) (hs : Sl w v zs) (hd : isD n zs = false) (hl : zs.length ≤ 9223372036854775807) (hT : TabE w) :
    Calls Tryd.prog 33 #[.agg #[.int .i64 n, v], .int .i64 x, .int .i64 y, .int .i64 k] w fun e w' => e = .returned (.tuple #[.int .i64 0, .int .i64 1]) ∧ Below w.heap.size w w' := by
  have D0 : Below w.heap.size w (w.alloc (.cells #[.int .i64 n, v] 29)) := (Below.refl _ _).alloc (Nat.le_refl _) _
  have his := chkD_any n v zs _ (hs.below D0) hl (hT.2.belowAll D0)
  unfold dC at his
  rw [hd, if_neg (by simp)] at his
  have HD := Lib.hid D0
  clear hs hd D0 hT
  go_enter Tryd.func33, Tryd.ntmps33
  go_wp2_with (go_at_call 45; refine his.mono ?_; rintro e w1 ⟨rfl, hb1⟩; have HB1 := Lib.hid (HD.out.trans (hb1.mono HD.out.size)); clear hb1)
  go_ret2
  exact ⟨rfl, HB1.out⟩

theorem cwOk_parts {n a b k : Int} (h : cwOk n a b k = true) : (0 ≤ a ∧ a < n) ∧ (0 ≤ b ∧ b < n) ∧ 0 ≤ k ∧ k ≤ 8 := by
  unfold cwOk inM kOk at h
  simp only [Bool.and_eq_true, decide_eq_true_eq] at h
  exact ⟨h.1.1, h.1.2, h.2⟩

theorem implCw_any (n : Int) (v : Value) (zs : List Int) (a c k : Int) (w : World) (hs : Sl w v zs) (hl : zs.length ≤ 9223372036854775807) (hT : TabE w) :
    Calls Tryd.prog 33 #[.agg #[.int .i64 n, v], .int .i64 a, .int .i64 c, .int .i64 k] w fun e w' => e = .returned (.tuple #[.int .i64 (cwN n zs a c k), .int .i64 (cwC n zs a c k)]) ∧ Below w.heap.size w w' := by
  unfold cwN cwC
  cases hd : isD n zs with
  | false => exact implCw_no n v zs a c k w hs hd hl hT
  | true =>
    rcases hs with ⟨a', c', rfl, rfl⟩ | ⟨b, off, cap, rfl, hb, hc⟩
    · rw [isD_nil] at hd; exact absurd hd (by simp)
    · cases ho : cwOk n a c k with
      | false => exact implCw_far n b off cap zs a c k w hb hc hd ho hl hT
      | true =>
        obtain ⟨⟨p1, p2⟩, ⟨p3, p4⟩, p5, p6⟩ := cwOk_parts ho
        obtain ⟨i, rfl⟩ := Int.eq_ofNat_of_zero_le p1
        obtain ⟨j, rfl⟩ := Int.eq_ofNat_of_zero_le p3
        obtain ⟨t, rfl⟩ := Int.eq_ofNat_of_zero_le p5
        obtain rfl : (zs.length : Int) = n := (dg_ok hd).size
        exact callsIn_wide.1 (implCw_in b off cap zs i j t w hb hc hd (by omega) (by omega) (by omega) hl hT)

theorem l01In_val (x lo hi : Int) (W : World) (r : Bool) (h : (decide (lo ≤ x) && decide (x ≤ hi)) = r) :
    Calls Tryd.prog 60 #[.int .i64 x, .int .i64 lo, .int .i64 hi] W fun e w' => e = .returned (.bool r) ∧ W = w' := by
  have := in_any x lo hi W
  rw [h] at this
  exact this
theorem inM_in (n x : Int) : (decide (0 ≤ x) && decide (x ≤ n - 1)) = inM n x := by
  unfold inM
  rw [show decide (x ≤ n - 1) = decide (x < n) from decide_eq_decide.2 (by omega)]

set_option maxHeartbeats 4000000 in
theorem specCw_yes (b off cap : Nat) (zs : List Int) (x y k : Nat) (w : World) (hb : b < w.heap.size) (hc : Cells w b off zs) (hd : isD zs.length zs = true) (hx : x < zs.length) (hy : y < zs.length) (hk : k ≤ 8) (hl : zs.length ≤ 9223372036854775807) :
    Calls Tryd.prog 32 #[.agg #[.int .i64 zs.length, .slice (some ⟨b, off, none⟩) zs.length cap], .int .i64 x, .int .i64 y, .int .i64 k] w fun e w' => e = .returned (.tuple #[.int .i64 (wyN zs x k y), .int .i64 0]) ∧ Below w.heap.size w w' := by
  have D0 : Below w.heap.size w (w.alloc (.cells #[.int .i64 zs.length, .slice (some ⟨b, off, none⟩) zs.length cap] 29)) := (Below.refl _ _).alloc (Nat.le_refl _) _
  have his := l08Is_some zs.length b off cap zs _ (Nat.lt_of_lt_of_le hb D0.size) (hc.below D0 hb) hl
  rw [hd] at his
  have hg := dg_ok hd
  have HG0 := Lib.hid (GBox.newD (n := (zs.length : Int)) (cap := cap) hb hc)
  have HG := Lib.hid hg
  have hm62 : zs.length ≤ 62 := hg.le
  have i1 := fun W => l01In_val x 0 ((zs.length : Int) - 1) W true (by rw [inM_in]; exact inM_nat hx)
  have i2 := fun W => l01In_val y 0 ((zs.length : Int) - 1) W true (by rw [inM_in]; exact inM_nat hy)
  have i3 := fun W => l01In_val k 0 8 W true (by simp; omega)
  have hmk := run_mkInts zs.length (by omega)
  have hx0 : (0 : Int) ≤ x := by omega
  have hxn : (x : Int) < zs.length := by omega
  have hy0 : (0 : Int) ≤ y := by omega
  have hyn : (y : Int) < zs.length := by omega
  clear hc hg hd
  go_enter Tryd.func32, Tryd.ntmps32
  go_wp2_with (first
    | (go_at_call 42; refine his.mono ?_; rintro e w1 ⟨rfl, hb1⟩; have G1 := Lib.hid (HG0.out.below (hb1.mono (by simp))); have b0 := G1.out.b0; have b1 := G1.out.b1; have D1 : Below w.heap.size w w1 := D0.trans (hb1.mono D0.size); have s1 : w.heap.size + 1 ≤ w1.heap.size := (by have := G1.out.lt; omega); have hcz := (Blk.new w1 (List.replicate zs.length 0)).cell (i := x) (by simpa using hx); have hfz := (Blk.new w1 (List.replicate zs.length 0)).frozen x)
    | (go_at_call 60; with_reducible refine (i1 _).mono ?_; rintro e w' ⟨rfl, rfl⟩)
    | (go_at_call 60; with_reducible refine (i2 _).mono ?_; rintro e w' ⟨rfl, rfl⟩)
    | (go_at_call 60; with_reducible refine (i3 _).mono ?_; rintro e w' ⟨rfl, rfl⟩))
  clear his hb1 D0 HG0 i1 i2 i3
  obtain ⟨Wy, hWy⟩ : ∃ Wy, Wy = w1.alloc (.cells ((intsA (List.replicate zs.length 0)).setIfInBounds x (.int .i64 1)) 2) := ⟨_, rfl⟩
  rw [← hWy]
  have HA1 : Hid (Blk Wy w1.heap.size (fnL (wyN zs x 0) zs.length)) := by
    show Blk _ _ _
    have e : (intsA (List.replicate zs.length 0)).setIfInBounds x (.int .i64 1) = intsA (fnL (wyN zs x 0) zs.length) := by
      have h : (List.replicate zs.length (0 : Int)).set x 1 = fnL (wyN zs x 0) zs.length := by rw [fnL_zero, fnL_set]; rfl
      rw [← h]; unfold intsA; rw [List.setIfInBounds_toArray, List.map_set]
    rw [hWy, e]; exact Blk.new w1 _
  have hE1 : Below w1.heap.size w1 Wy := by rw [hWy]; exact (Below.refl _ _).alloc (Nat.le_refl _) _
  clear hWy b0 b1 hcz hfz
  go_loopw [3, 10] (fun kv nv wr => ∃ t r gN : Nat, t + r = k ∧ kv = .int .i64 r ∧ nv = .slice (some ⟨gN, 0, none⟩) zs.length zs.length ∧ w1.heap.size ≤ gN ∧ Hid (Blk wr gN (fnL (wyN zs x t) zs.length)) ∧ Below w1.heap.size w1 wr) (fun kv _ _ => (intOf kv).toNat)
  case atStart => exact ⟨0, k, w1.heap.size, by omega, rfl, rfl, Nat.le_refl _, HA1, hE1⟩
  case round =>
    clear HA1 hE1
    obtain ⟨t, r, gN, htr, rfl, rfl, hgN, HN, hE⟩ := hrel
    have b0 := (G1.out.below (hE.mono (by omega))).b0
    have b1 := (G1.out.below (hE.mono (by omega))).b1
    have hwl := HN.out.lt
    rcases Nat.eq_zero_or_pos r with rfl | hrp
    · obtain rfl : t = k := by omega
      have hcx := HN.out.cell (i := y) (by rw [fnL_length]; exact hy)
      rw [fnL_at _ hy] at hcx
      have E := Lib.hid (D1.trans (hE.mono (by omega)))
      go_wp2
      go_ret2
      exact ⟨rfl, E.out⟩
    · have hr0 : (0 : Int) < (r : Int) := by omega
      have hp7 := pow_le7 (t := t) (by omega)
      have hpp : (0 : Int) ≤ 62 ^ t := Int.pow_nonneg (by decide)
      have HF := Lib.hid (fun y => wyN_bound (zs := zs) (v := x) hm62 t y)
      have HAM := Lib.hid (fun (i y : Nat) (hi : i < zs.length) => acW_le hpp (fun y => wyN_bound (zs := zs) (v := x) hm62 t y) hm62 (x := i) (y := y) hi)
      go_wp2
      obtain ⟨wo, hwo⟩ : ∃ wo, wo = wr.alloc (.cells (intsA (List.replicate zs.length 0)) 2) := ⟨_, rfl⟩
      obtain ⟨gX, hgX⟩ : ∃ gX, gX = wr.heap.size := ⟨_, rfl⟩
      have HX0 : Hid (Blk wo gX (fnL (acW zs (wyN zs x t) 0) zs.length)) := by show Blk _ _ _; rw [show acW zs (wyN zs x t) 0 = fun _ => 0 from rfl, ← fnL_zero, hwo, hgX]; exact Blk.new wr _
      have HN0 : Hid (Blk wo gN (fnL (wyN zs x t) zs.length)) := by show Blk _ _ _; rw [hwo]; exact HN.out.alloc _
      have hE0 : Below w1.heap.size w1 wo := by rw [hwo]; exact hE.alloc hE.size _
      rw [← hwo, ← hgX]
      rw [← hgX] at hwl
      clear hwo hgX HN hE b0 b1
      go_loopw [12] (fun iv wr => ∃ i : Nat, i ≤ zs.length ∧ iv = .int .i64 i ∧ Hid (Blk wr gX (fnL (acW zs (wyN zs x t) i) zs.length)) ∧ Hid (Blk wr gN (fnL (wyN zs x t) zs.length)) ∧ Below w1.heap.size w1 wr) (fun iv _ => zs.length - (intOf iv).toNat)
      case atStart => exact ⟨0, Nat.zero_le _, rfl, HX0, HN0, hE0⟩
      case round =>
        clear HX0 HN0 hE0
        obtain ⟨i, hi, rfl, HX, HN, hE⟩ := hrel
        have b0 := (G1.out.below (hE.mono (by omega))).b0
        have b1 := (G1.out.below (hE.mono (by omega))).b1
        by_cases hlt : i < zs.length
        · have hlti : (i : Int) < zs.length := by omega
          go_wp2
          have HX1 : Hid (Blk wr gX (fnL (amM zs (wyN zs x t) i 0) zs.length)) := by show Blk _ _ _; rw [amM_zero]; exact HX.out
          clear b0 b1
          go_loopw [13] (fun jv wr => ∃ j : Nat, j ≤ zs.length ∧ jv = .int .i64 j ∧ Hid (Blk wr gX (fnL (amM zs (wyN zs x t) i j) zs.length)) ∧ Hid (Blk wr gN (fnL (wyN zs x t) zs.length)) ∧ Below w1.heap.size w1 wr) (fun jv _ => zs.length - (intOf jv).toNat)
          case atStart => exact ⟨0, Nat.zero_le _, rfl, HX1, HN, hE⟩
          case round =>
            clear HX1 HX HN hE
            obtain ⟨j, hj, rfl, HX, HN, hE⟩ := hrel
            have b0 := (G1.out.below (hE.mono (by omega))).b0
            have b1 := (G1.out.below (hE.mono (by omega))).b1
            by_cases hlj : j < zs.length
            · have hljj : (j : Int) < zs.length := by omega
              have G2 := G1.out.below (hE.mono (by omega))
              have hi0 : (0 : Int) ≤ i := by omega
              have hj0 : (0 : Int) ≤ j := by omega
              have hlh := fun r h => hasD_rows HG.out i j (cap := cap) wr G2.lb G2.cells hlt (by omega) r h
              have hws := hE.size
              have hgX := HX.out.lt
              have hgN2 := HN.out.lt
              cases hbt : bt (el zs i) j with
              | true =>
                have hcall := hlh true hbt
                have HY := Lib.hid (amM_yes (f := wyN zs x t) hbt)
                go_wp2_with (go_at_call 61; refine hcall.mono ?_; rintro e wh ⟨rfl, hbh⟩)
                have HXh : Hid (Blk wh gX (fnL (amM zs (wyN zs x t) i j) zs.length)) := HX.out.belowAll hbh
                have HNh : Hid (Blk wh gN (fnL (wyN zs x t) zs.length)) := HN.out.belowAll hbh
                have hEh : Below w1.heap.size w1 wh := hE.trans (hbh.mono hws)
                have hwh := hbh.size
                clear hcall hlh hbh HX HN hE G2 b0 b1
                obtain ⟨wr2, rfl⟩ : ∃ wr2 : World, wr2 = wh := ⟨_, rfl⟩
                have cX := HXh.out.cell (i := j) (by rw [fnL_length]; exact hlj)
                have fX := HXh.out.frozen j
                have cN := HNh.out.cell (i := i) (by rw [fnL_length]; exact hlt)
                rw [fnL_at _ hlj] at cX
                rw [fnL_at _ hlt] at cN
                obtain ⟨a0, a1⟩ := HAM.out i j hlt
                obtain ⟨c0, c1⟩ := HF.out i
                have eA : amM zs (wyN zs x t) i j j = acW zs (wyN zs x t) i j := by simp [amM]
                rw [eA] at cX a0 a1
                obtain ⟨A, hA⟩ : ∃ A, A = acW zs (wyN zs x t) i j := ⟨_, rfl⟩
                obtain ⟨F, hF⟩ : ∃ F, F = wyN zs x t i := ⟨_, rfl⟩
                rw [← hA] at cX a0 a1
                rw [← hF] at cN c0 c1
                have hAF : IntKind.i64.wrap (A + F) = A + F := by rw [IntKind.wrap_i64]; omega
                have HAA := Lib.hid hA
                have HFF := Lib.hid hF
                clear hbt eA hA hF
                go_wp2_with fail
                go_region
                obtain ⟨w5, h5⟩ : ∃ w5, w5 = (wr2.setCell ⟨gX, j, none⟩ (.int .i64 (A + F))).drew := ⟨_, rfl⟩
                rw [← h5]
                have HX5 : Hid (Blk w5 gX (fnL (amM zs (wyN zs x t) i (j + 1)) zs.length)) := by
                  have h := HXh.out.set j (A + F)
                  rw [fnL_set, HAA.out, HFF.out, HY.out] at h
                  show Blk _ _ _
                  rw [h5, HAA.out, HFF.out]; exact h
                have HN5 : Hid (Blk w5 gN (fnL (wyN zs x t) zs.length)) := by
                  show Blk _ _ _
                  rw [h5]; exact (HNh.out.other (a := ⟨gX, j, none⟩) (by simp; omega) _)
                have hE5 : Below w1.heap.size w1 w5 := by rw [h5]; exact (hEh.setCell (p := ⟨gX, j, none⟩) (by simp; omega) _).drew
                clear h5 cX cN fX HXh HNh hEh
                go_wp2
                go_roundw
                case rel => exact ⟨j + 1, hlj, by go_num, HX5, HN5, hE5⟩
                case measure => simp [intOf]; omega
              | false =>
                have hcall := hlh false hbt
                have HX5 : Hid (Blk wr gX (fnL (amM zs (wyN zs x t) i (j + 1)) zs.length)) := by show Blk _ _ _; rw [amM_no hbt]; exact HX.out
                clear hbt
                go_wp2_with (go_at_call 61; refine hcall.mono ?_; rintro e wh ⟨rfl, hbh⟩)
                have HX6 : Hid (Blk wh gX (fnL (amM zs (wyN zs x t) i (j + 1)) zs.length)) := HX5.out.belowAll hbh
                have HN6 : Hid (Blk wh gN (fnL (wyN zs x t) zs.length)) := HN.out.belowAll hbh
                have hE6 : Below w1.heap.size w1 wh := hE.trans (hbh.mono hws)
                go_roundw
                case rel => exact ⟨j + 1, hlj, by go_num, HX6, HN6, hE6⟩
                case measure => simp [intOf]; omega
            · obtain rfl : j = zs.length := by omega
              have HX6 : Hid (Blk wr gX (fnL (acW zs (wyN zs x t) (i + 1)) zs.length)) := by
                show Blk _ _ _
                rw [show fnL (acW zs (wyN zs x t) (i + 1)) zs.length = fnL (amM zs (wyN zs x t) i zs.length) zs.length from fnL_congr fun q hq => by simp [amM, hq]]
                exact HX.out
              go_wp2
              go_roundw
              case rel => exact ⟨i + 1, hlt, by go_num, HX6, HN, hE⟩
              case measure => simp [intOf]; omega
        · obtain rfl : i = zs.length := by omega
          have HX6 : Hid (Blk wr gX (fnL (wyN zs x (t + 1)) zs.length)) := HX
          go_wp2
          go_roundw
          case rel => exact ⟨t + 1, r - 1, gX, by omega, congrArg (Value.int .i64) (by omega), rfl, by omega, HX6, hE⟩
          case measure => simp [intOf]; omega

set_option maxHeartbeats 1600000 in
theorem specCw_far (n : Int) (b off cap : Nat) (zs : List Int) (x y k : Int) (w : World) (hb : b < w.heap.size) (hc : Cells w b off zs) (hd : isD n zs = true) (ho : cwOk n x y k = false) (hl : zs.length ≤ 9223372036854775807) :
    Calls Tryd.prog 32 #[.agg #[.int .i64 n, .slice (some ⟨b, off, none⟩) zs.length cap], .int .i64 x, .int .i64 y, .int .i64 k] w fun e w' => e = .returned (.tuple #[.int .i64 0, .int .i64 2]) ∧ Below w.heap.size w w' := by
  have D0 : Below w.heap.size w (w.alloc (.cells #[.int .i64 n, .slice (some ⟨b, off, none⟩) zs.length cap] 29)) := (Below.refl _ _).alloc (Nat.le_refl _) _
  have his := l08Is_some n b off cap zs _ (Nat.lt_of_lt_of_le hb D0.size) (hc.below D0 hb) hl
  rw [hd] at his
  have HG0 := Lib.hid (GBox.newD (n := n) (cap := cap) hb hc)
  have hn1 : 1 ≤ n ∧ n ≤ 62 := by have := dg_ok hd; have := this.size; have := (dg_ok hd).pos; have := (dg_ok hd).le; omega
  clear hc hd
  cases hx : inM n x with
  | false =>
    have i1 := fun W => l01In_val x 0 (n - 1) W false (by rw [inM_in]; exact hx)
    clear ho hx
    go_enter Tryd.func32, Tryd.ntmps32
    go_wp2_with (first
      | (go_at_call 42; refine his.mono ?_; rintro e w0 ⟨rfl, hb1⟩; have G0 := HG0.out.below (hb1.mono (by simp)); have b0 := G0.b0; have b1 := G0.b1; have E := Lib.hid (D0.trans (hb1.mono D0.size)))
      | (go_at_call 60; with_reducible refine (i1 _).mono ?_; rintro e w' ⟨rfl, rfl⟩))
    go_ret2
    exact ⟨rfl, E.out⟩
  | true =>
    have i1 := fun W => l01In_val x 0 (n - 1) W true (by rw [inM_in]; exact hx)
    cases hy : inM n y with
    | false =>
      have i2 := fun W => l01In_val y 0 (n - 1) W false (by rw [inM_in]; exact hy)
      have hne : Hid (x ≠ y) := fun e => by rw [e, hy] at hx; cases hx
      clear ho hx hy
      go_enter Tryd.func32, Tryd.ntmps32
      go_wp2_with (first
        | (go_at_call 42; refine his.mono ?_; rintro e w0 ⟨rfl, hb1⟩; have G0 := HG0.out.below (hb1.mono (by simp)); have b0 := G0.b0; have b1 := G0.b1; have E := Lib.hid (D0.trans (hb1.mono D0.size)))
        | (go_at_call 60; with_reducible refine (i1 _).mono ?_; rintro e w' ⟨rfl, rfl⟩)
        | (go_at_call 60; with_reducible refine (i2 _).mono ?_; rintro e w' ⟨rfl, rfl⟩))
      go_ret2
      exact ⟨rfl, E.out⟩
    | true =>
      have i2 := fun W => l01In_val y 0 (n - 1) W true (by rw [inM_in]; exact hy)
      have hk : kOk k = false := by unfold cwOk at ho; rw [hx, hy] at ho; simpa using ho
      have i3 := fun W => l01In_val k 0 8 W false hk
      clear ho hx hy hk
      go_enter Tryd.func32, Tryd.ntmps32
      go_wp2_with (first
        | (go_at_call 42; refine his.mono ?_; rintro e w0 ⟨rfl, hb1⟩; have G0 := HG0.out.below (hb1.mono (by simp)); have b0 := G0.b0; have b1 := G0.b1; have E := Lib.hid (D0.trans (hb1.mono D0.size)))
        | (go_at_call 60; with_reducible refine (i1 _).mono ?_; rintro e w' ⟨rfl, rfl⟩)
        | (go_at_call 60; with_reducible refine (i2 _).mono ?_; rintro e w' ⟨rfl, rfl⟩)
        | (go_at_call 60; with_reducible refine (i3 _).mono ?_; rintro e w' ⟨rfl, rfl⟩))
      go_ret2
      exact ⟨rfl, E.out⟩

set_option maxHeartbeats 800000 in
theorem specCw_no (n : Int) (v : Value) (zs : List Int) (x y k : Int) (w : World) (hs : Sl w v zs) (hd : isD n zs = false) (hl : zs.length ≤ 9223372036854775807) :
    Calls Tryd.prog 32 #[.agg #[.int .i64 n, v], .int .i64 x, .int .i64 y, .int .i64 k] w fun e w' => e = .returned (.tuple #[.int .i64 0, .int .i64 1]) ∧ Below w.heap.size w w' := by
  have D0 : Below w.heap.size w (w.alloc (.cells #[.int .i64 n, v] 29)) := (Below.refl _ _).alloc (Nat.le_refl _) _
  have his := l08Is_any n v zs _ (hs.below D0) hl
  rw [hd] at his
  have HD := Lib.hid D0
  clear hs hd D0
  go_enter Tryd.func32, Tryd.ntmps32
  go_wp2_with (go_at_call 42; refine his.mono ?_; rintro e w1 ⟨rfl, hb1⟩; have HB1 := Lib.hid (HD.out.trans (hb1.mono HD.out.size)); clear hb1)
  go_ret2
  exact ⟨rfl, HB1.out⟩

theorem specCw_any (n : Int) (v : Value) (zs : List Int) (a c k : Int) (w : World) (hs : Sl w v zs) (hl : zs.length ≤ 9223372036854775807) :
    Calls Tryd.prog 32 #[.agg #[.int .i64 n, v], .int .i64 a, .int .i64 c, .int .i64 k] w fun e w' => e = .returned (.tuple #[.int .i64 (cwN n zs a c k), .int .i64 (cwC n zs a c k)]) ∧ Below w.heap.size w w' := by
  unfold cwN cwC
  cases hd : isD n zs with
  | false => exact specCw_no n v zs a c k w hs hd hl
  | true =>
    rcases hs with ⟨a', c', rfl, rfl⟩ | ⟨b, off, cap, rfl, hb, hc⟩
    · rw [isD_nil] at hd; exact absurd hd (by simp)
    · cases ho : cwOk n a c k with
      | false => exact specCw_far n b off cap zs a c k w hb hc hd ho hl
      | true =>
        obtain ⟨⟨p1, p2⟩, ⟨p3, p4⟩, p5, p6⟩ := cwOk_parts ho
        obtain ⟨i, rfl⟩ := Int.eq_ofNat_of_zero_le p1
        obtain ⟨j, rfl⟩ := Int.eq_ofNat_of_zero_le p3
        obtain ⟨t, rfl⟩ := Int.eq_ofNat_of_zero_le p5
        obtain rfl : (zs.length : Int) = n := (dg_ok hd).size
        exact specCw_yes b off cap zs i j t w hb hc hd (by omega) (by omega) (by omega) hl
end Go.Proofs.YtbncfhmpkoaffaaDoor
