/-
  GirthAt of both programs, for all arguments.
-/
import Derived.Test.YtehpafbhejcbmaaDoorGv8
namespace Go.Proofs.YtehpafbhejcbmaaDoor
set_option maxRecDepth 100000
set_option maxRecDepth 100000
open Go.RowKit

def gaD (n : Int) (zs : List Int) (x : Int) : Int := if isG n zs then if (decide (0 ≤ x) && decide (x ≤ n - 1)) then gaN zs x.toNat else 0 else 0
def gaE (n : Int) (zs : List Int) (x : Int) : Int := if isG n zs then if (decide (0 ≤ x) && decide (x ≤ n - 1)) then gaC zs x.toNat else 2 else 1

set_option maxHeartbeats 1600000 in
theorem implGa_far (n : Int) (b off cap : Nat) (zs : List Int) (x : Int) (w : World) (hb : b < w.heap.size) (hc : Cells w b off zs) (hg : isG n zs = true) (hx : (decide (0 ≤ x) && decide (x ≤ n - 1)) = false) (hl : zs.length ≤ 9223372036854775807) (hT : Tab w) :
    Calls Tryd.prog 15 #[.agg #[.int .i64 n, .slice (some ⟨b, off, none⟩) zs.length cap], .int .i64 x] w fun e w' => e = .returned (.tuple #[.int .i64 0, .int .i64 2]) ∧ Below w.heap.size w w' := by
  have D0 : Below w.heap.size w (((w.alloc (.cells #[.int .i64 n, .slice (some ⟨b, off, none⟩) zs.length cap] 28)).alloc (.cells #[.int .i64 x] 2)).alloc (.cells #[.int .i64 x] 2)) := (((Below.refl _ _).alloc (Nat.le_refl _) _).alloc (by simp) _).alloc (by simp; omega) _
  have hx1 := cell_one_new ((w.alloc (.cells #[.int .i64 n, .slice (some ⟨b, off, none⟩) zs.length cap] 28)).alloc (.cells #[.int .i64 x] 2)) (.int .i64 x) 2
  rw [World.size_alloc, World.size_alloc] at hx1
  have hv := chk_some n b off cap zs (w.heap.size + 1 + 1) 0 1 [x] _ (Nat.lt_of_lt_of_le hb D0.size) (hc.below D0 hb) (by simp) (cells_one (hx1 0 _ rfl)) hg hl (by simp) (hT.belowAll D0)
  rw [vc_no (by rw [show [x].length = 1 from rfl, vs_one]; exact hx)] at hv
  clear hc hg hx1 hx hT
  go_enter Tryd.func15, Tryd.ntmps15
  go_wp2_with fail
  refine hv.mono ?_
  rintro e w1 ⟨rfl, hb1⟩
  have D1 := D0.trans (hb1.mono (by simp; omega))
  clear hb1 hv
  go_wp2
  go_ret2
  exact ⟨rfl, D1⟩

set_option maxHeartbeats 1600000 in
theorem implGa_no (n : Int) (v : Value) (zs : List Int) (x : Int) (w : World) (h : Sl w v zs) (hg : isG n zs = false) (hl : zs.length ≤ 9223372036854775807) (hT : Tab w) :
    Calls Tryd.prog 15 #[.agg #[.int .i64 n, v], .int .i64 x] w fun e w' => e = .returned (.tuple #[.int .i64 0, .int .i64 1]) ∧ Below w.heap.size w w' := by
  have D0 : Below w.heap.size w (((w.alloc (.cells #[.int .i64 n, v] 28)).alloc (.cells #[.int .i64 x] 2)).alloc (.cells #[.int .i64 x] 2)) := (((Below.refl _ _).alloc (Nat.le_refl _) _).alloc (by simp) _).alloc (by simp; omega) _
  have hv := fun u => chk_no n v u zs _ (h.below D0) hg hl (hT.belowAll D0)
  clear h hg hT
  go_enter Tryd.func15, Tryd.ntmps15
  go_wp2_with fail
  refine (hv _).mono ?_
  rintro e w1 ⟨rfl, hb1⟩
  have D1 := D0.trans (hb1.mono (by simp; omega))
  clear hb1 hv
  go_wp2
  go_ret2
  exact ⟨rfl, D1⟩

set_option maxHeartbeats 1600000 in
theorem specGa_far (n : Int) (b off cap : Nat) (zs : List Int) (x : Int) (w : World) (hb : b < w.heap.size) (hc : Cells w b off zs) (hg : isG n zs = true) (hx : (decide (0 ≤ x) && decide (x ≤ n - 1)) = false) (hl : zs.length ≤ 9223372036854775807) :
    Calls Tryd.prog 14 #[.agg #[.int .i64 n, .slice (some ⟨b, off, none⟩) zs.length cap], .int .i64 x] w fun e w' => e = .returned (.tuple #[.int .i64 0, .int .i64 2]) ∧ Below w.heap.size w w' := by
  have D0 : Below w.heap.size w ((w.alloc (.cells #[.int .i64 n, .slice (some ⟨b, off, none⟩) zs.length cap] 28)).alloc (.cells #[.int .i64 x] 2)) := ((Below.refl _ _).alloc (Nat.le_refl _) _).alloc (by simp) _
  have hx1 := cell_one_new (w.alloc (.cells #[.int .i64 n, .slice (some ⟨b, off, none⟩) zs.length cap] 28)) (.int .i64 x) 2
  rw [World.size_alloc] at hx1
  have hv := code2_some n b off cap zs (w.heap.size + 1) 0 1 [x] _ (Nat.lt_of_lt_of_le hb D0.size) (hc.below D0 hb) (by simp) (cells_one (hx1 0 _ rfl)) hg hl (by simp)
  rw [vc_no (by rw [show [x].length = 1 from rfl, vs_one]; exact hx)] at hv
  clear hc hg hx1 hx
  go_enter Tryd.func14, Tryd.ntmps14
  go_wp2_with fail
  refine hv.mono ?_
  rintro e w1 ⟨rfl, hb1⟩
  have D1 := D0.trans (hb1.mono (by simp; omega))
  clear hb1 hv
  go_wp2
  go_ret2
  exact ⟨rfl, D1⟩

set_option maxHeartbeats 1600000 in
theorem specGa_no (n : Int) (v : Value) (zs : List Int) (x : Int) (w : World) (h : Sl w v zs) (hg : isG n zs = false) (hl : zs.length ≤ 9223372036854775807) :
    Calls Tryd.prog 14 #[.agg #[.int .i64 n, v], .int .i64 x] w fun e w' => e = .returned (.tuple #[.int .i64 0, .int .i64 1]) ∧ Below w.heap.size w w' := by
  have D0 : Below w.heap.size w ((w.alloc (.cells #[.int .i64 n, v] 28)).alloc (.cells #[.int .i64 x] 2)) := ((Below.refl _ _).alloc (Nat.le_refl _) _).alloc (by simp) _
  have hv := fun u => code2_no n v u zs _ (h.below D0) hg hl
  clear h hg
  go_enter Tryd.func14, Tryd.ntmps14
  go_wp2_with fail
  refine (hv _).mono ?_
  rintro e w1 ⟨rfl, hb1⟩
  have D1 := D0.trans (hb1.mono (by simp; omega))
  clear hb1 hv
  go_wp2
  go_ret2
  exact ⟨rfl, D1⟩

set_option maxHeartbeats 1600000 in
theorem specGa_yes (b off cap : Nat) (zs : List Int) (x : Nat) (w : World) (hb : b < w.heap.size) (hc : Cells w b off zs) (hg : isG zs.length zs = true) (hx : x < zs.length) :
    Calls Tryd.prog 14 #[.agg #[.int .i64 zs.length, .slice (some ⟨b, off, none⟩) zs.length cap], .int .i64 x] w fun e w' => e = .returned (.tuple #[.int .i64 (gaN zs x), .int .i64 (gaC zs x)]) ∧ Below w.heap.size w w' := by
  obtain ⟨p1, p2, -, h4, -⟩ := isG_iff.1 hg
  have D0 : Below w.heap.size w ((w.alloc (.cells #[.int .i64 zs.length, .slice (some ⟨b, off, none⟩) zs.length cap] 28)).alloc (.cells #[.int .i64 x] 2)) := ((Below.refl _ _).alloc (Nat.le_refl _) _).alloc (by simp) _
  have hx1 := cell_one_new (w.alloc (.cells #[.int .i64 zs.length, .slice (some ⟨b, off, none⟩) zs.length cap] 28)) (.int .i64 x) 2
  rw [World.size_alloc] at hx1
  have hv := code2_some zs.length b off cap zs (w.heap.size + 1) 0 1 [(x : Int)] _ (Nat.lt_of_lt_of_le hb D0.size) (hc.below D0 hb) (by simp) (cells_one (hx1 0 _ rfl)) hg (by omega) (by simp)
  rw [vc_yes (by rw [show [(x : Int)].length = 1 from rfl, vs_one]; simp; omega)] at hv
  have HF : Hid (∀ W, Below w.heap.size w W → Calls Tryd.prog 30 #[.agg #[.int .i64 zs.length, .slice (some ⟨b, off, none⟩) zs.length cap], .int .i64 x] W fun e w' => e = .returned (.int .i64 (gaN zs x)) ∧ Below W.heap.size W w') := fun W hW => by
    have h := girthSv_some b off cap zs x W (Nat.lt_of_lt_of_le hb hW.size) (hc.below hW hb) hg
    unfold oG at h
    rw [gaL_eq hg hx] at h
    exact h
  have hgb := gF_bd2 (zs := zs) (q := edX x (edL zs)) (fun p hp => edL_lt (edX_sub hp) (fun i hi => (h4 i hi).2.1))
  rw [gaL_eq hg hx] at hgb
  have hNC : (gaN zs x = 0 ∧ gaC zs x = 4) ∨ (gaN zs x ≠ 0 ∧ gaC zs x = 0) := by
    unfold gaN gaC
    by_cases e : gF zs (gaL zs x) = 63
    · rw [if_pos e, if_pos e]; exact .inl ⟨rfl, rfl⟩
    · rw [if_neg e, if_neg e]; exact .inr ⟨by omega, rfl⟩
  have HR0 : Hid (((w.alloc (.cells #[.int .i64 zs.length, .slice (some ⟨b, off, none⟩) zs.length cap] 28)).alloc (.cells #[.int .i64 x] 2)).heap[w.heap.size]? = some (.cells #[.int .i64 zs.length, .slice (some ⟨b, off, none⟩) zs.length cap] 28 (0, 0))) := heap_old_at (World.alloc_heap_new w _) _
  have HD0 := Lib.hid D0
  generalize gaN zs x = N at *
  generalize gaC zs x = C at *
  clear hc hg hx1 D0 hgb h4
  rcases hNC with ⟨rfl, rfl⟩ | ⟨hN, rfl⟩
  · go_enter Tryd.func14, Tryd.ntmps14
    go_wp2_with fail
    refine hv.mono ?_
    rintro e w1 ⟨rfl, hb1⟩
    obtain ⟨b0, b1, -, -⟩ := two_cells ((hb1.block w.heap.size (by simp; omega)).trans HR0.out)
    have HB1 := Lib.hid (HD0.out.trans (hb1.mono HD0.out.size))
    clear hb1 hv
    go_wp2_with (go_at_call 30; refine (HF.out _ HB1.out).mono ?_; rintro e w2 ⟨rfl, hb2⟩)
    go_ret2
    exact ⟨rfl, HB1.out.trans (hb2.mono HB1.out.size)⟩
  · have hNb : (N == 0) = false := by simpa using hN
    go_enter Tryd.func14, Tryd.ntmps14
    go_wp2_with fail
    refine hv.mono ?_
    rintro e w1 ⟨rfl, hb1⟩
    obtain ⟨b0, b1, -, -⟩ := two_cells ((hb1.block w.heap.size (by simp; omega)).trans HR0.out)
    have HB1 := Lib.hid (HD0.out.trans (hb1.mono HD0.out.size))
    clear hb1 hv
    go_wp2_with (go_at_call 30; refine (HF.out _ HB1.out).mono ?_; rintro e w2 ⟨rfl, hb2⟩)
    go_ret2
    exact ⟨rfl, HB1.out.trans (hb2.mono HB1.out.size)⟩

theorem implGa_any (n : Int) (v : Value) (zs : List Int) (x : Int) (w : World) (h : Sl w v zs) (hl : zs.length ≤ 9223372036854775807) (hT : Tab w) :
    Calls Tryd.prog 15 #[.agg #[.int .i64 n, v], .int .i64 x] w fun e w' => e = .returned (.tuple #[.int .i64 (gaD n zs x), .int .i64 (gaE n zs x)]) ∧ Below w.heap.size w w' := by
  unfold gaD gaE
  cases hg : isG n zs with
  | false => exact implGa_no n v zs x w h hg hl hT
  | true =>
    obtain ⟨h1, _, h3, _⟩ := isG_parts hg
    obtain ⟨b, off, cap, rfl, hb, hc⟩ := sl_some h (by omega)
    cases hx : (decide (0 ≤ x) && decide (x ≤ n - 1)) with
    | false => exact implGa_far n b off cap zs x w hb hc hg hx hl hT
    | true =>
      obtain rfl : (zs.length : Int) = n := h3
      simp only [Bool.and_eq_true, decide_eq_true_eq] at hx
      obtain ⟨k, rfl⟩ := Int.eq_ofNat_of_zero_le hx.1
      rw [if_pos rfl, if_pos rfl, if_pos rfl, if_pos rfl, Int.toNat_natCast]
      exact callsIn_wide.1 (implGa_in b off cap zs k w hb hc hg (by omega) hT)

theorem specGa_any (n : Int) (v : Value) (zs : List Int) (x : Int) (w : World) (h : Sl w v zs) (hl : zs.length ≤ 9223372036854775807) :
    Calls Tryd.prog 14 #[.agg #[.int .i64 n, v], .int .i64 x] w fun e w' => e = .returned (.tuple #[.int .i64 (gaD n zs x), .int .i64 (gaE n zs x)]) ∧ Below w.heap.size w w' := by
  unfold gaD gaE
  cases hg : isG n zs with
  | false => exact specGa_no n v zs x w h hg hl
  | true =>
    obtain ⟨h1, _, h3, _⟩ := isG_parts hg
    obtain ⟨b, off, cap, rfl, hb, hc⟩ := sl_some h (by omega)
    cases hx : (decide (0 ≤ x) && decide (x ≤ n - 1)) with
    | false => exact specGa_far n b off cap zs x w hb hc hg hx hl
    | true =>
      obtain rfl : (zs.length : Int) = n := h3
      simp only [Bool.and_eq_true, decide_eq_true_eq] at hx
      obtain ⟨k, rfl⟩ := Int.eq_ofNat_of_zero_le hx.1
      rw [if_pos rfl, if_pos rfl, if_pos rfl, if_pos rfl, Int.toNat_natCast]
      exact specGa_yes b off cap zs k w hb hc hg (by omega)
end Go.Proofs.YtehpafbhejcbmaaDoor
