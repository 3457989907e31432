/-
  spec.l05Closed. (A tied seat.)
-/
import Derived.Test.YtklgimikdnokcaaDoorKm
import Derived.Test.YtklgimikdnokcaaDoorBb
import Derived.Test.YtklgimikdnokcaaDoorIn
import Derived.Deep.RegionWith
namespace Go.Proofs.YtklgimikdnokcaaDoor
set_option maxRecDepth 100000
open Go.RowKit

/-- The first t numbers that f tells, without 0. -/
def upTo (f : Nat → Bool) (t : Nat) : List Int := ((List.range t).filter fun y => decide (y ≠ 0) && f y).map fun y : Nat => (y : Int)
theorem upTo_length (f : Nat → Bool) (t : Nat) : (upTo f t).length ≤ t := by
  unfold upTo; rw [List.length_map]; have := List.length_filter_le (fun y => decide (y ≠ 0) && f y) (List.range t); rw [List.length_range] at this; exact this
theorem upTo_one (f : Nat → Bool) : upTo f 1 = [] := by simp [upTo, List.range_succ]
theorem upTo_yes (f : Nat → Bool) (t : Nat) (h0 : t ≠ 0) (h : f t = true) : upTo f (t + 1) = upTo f t ++ [(t : Int)] := by simp [upTo, List.range_succ, List.filter_append, h, h0]
theorem upTo_no (f : Nat → Bool) (t : Nat) (h : f t = false) : upTo f (t + 1) = upTo f t := by simp [upTo, List.range_succ, List.filter_append, h]
theorem upTo_clE (k p : Nat) (js : List Int) : upTo (metF k p js js.length) (gOrd k p) = clE k p js := rfl
theorem row_slice {w : World} {B : Nat} {u : Value} {n : Nat} {L : List Value} (h : w.ownsRow B 2 1 u n L) : ∃ a l c, u = .slice a l c := by
  rcases h.2 with ⟨rfl, _⟩ | ⟨g, cap, cur, rfl, _⟩
  · exact ⟨_, _, _, rfl⟩
  · exact ⟨_, _, _, rfl⟩

set_option maxHeartbeats 3200000 in
set_option maxRecDepth 100000 in
theorem l05Closed_near (k p cap : Nat) (a : Option Addr) (js : List Int) (w : World) (h : gOk k p = true) (hj : elOk (gOrd k p) js js.length = true) (hc : js.length = 0 ∨ ∃ b off, a = some ⟨b, off, none⟩ ∧ b < w.heap.size ∧ Cells w b off js) (hl : js.length ≤ 9223372036854775807) :
    Calls Tryd.prog 30 #[gv k p, .slice a js.length cap] w fun e w' => (∃ u, e = .returned u ∧ Own w' w.heap.size u (clE k p js)) ∧ Below w.heap.size w w' := by
  have D0 : Below w.heap.size w (w.alloc (.cells #[.int .i64 k, .int .i64 p] 27)) := (Below.refl _ _).alloc (Nat.le_refl _) _
  have HB0 := Lib.hid (World.alloc_heap_new w (.cells #[.int .i64 k, .int .i64 p] 27))
  have ho := Lib.hid (l05Order_any k p (w.alloc (.cells #[.int .i64 k, .int .i64 p] 27)) h)
  have HI := Lib.hid (fun x W (hx : x < gOrd k p) => l05Inverse_any k p x W h hx)
  have HIL := Lib.hid (fun x (hx : x < gOrd k p) => @gInv_lt k p x h hx)
  have HJ := Lib.hid hj
  have HC := Lib.hid hc
  have hn := gOrd_le h
  have hn1 := gOrd_pos h
  have HU := Lib.hid (upTo_clE k p js)
  obtain ⟨n, hnn⟩ : ∃ n, n = gOrd k p := ⟨_, rfl⟩
  have hmk := run_mkBools n (by omega)
  rw [← hnn] at ho HI HIL HJ hn hn1 HU
  simp only [World.size_alloc] at ho
  rw [← HU.out]
  obtain ⟨F, hF⟩ : ∃ F, F = metF k p js js.length := ⟨_, rfl⟩
  rw [← hF]
  have HF := Lib.hid hF
  clear hj hc hnn h hF
  simp only [gv] at *
  go_enter Tryd.func30, Tryd.ntmps30
  go_wp2_with fail
  refine ho.out.mono ?_
  rintro e w1 ⟨rfl, hb1⟩
  have s1 := hb1.size
  simp only [World.size_alloc] at s1
  go_wp2_with fail
  obtain ⟨gm, hgm⟩ : ∃ gm, gm = w1.heap.size := ⟨_, rfl⟩
  obtain ⟨w2, h2⟩ : ∃ w2, w2 = (w1.alloc (.cells (boolsA (List.replicate n false)) 4)).alloc (.cells #[] 2) := ⟨_, rfl⟩
  have HM2 : Hid (BBlk w2 gm (boolsF n (metF k p js 0))) := by show BBlk _ _ _; rw [show metF k p js 0 = fun _ => false from rfl, boolsF_none, h2, hgm]; exact (BBlk.new w1 _).alloc _
  have HZ2 : Hid (Blk w2 (gm + 1) []) := by
    show Blk _ _ _
    rw [h2, hgm]
    exact heap_new_at (w1.alloc (.cells (boolsA (List.replicate n false)) 4)) (.cells #[] 2) (w1.heap.size + 1) (by simp)
  have hb2 : Below w1.heap.size w1 w2 := by rw [h2]; exact ((Below.refl _ _).alloc (Nat.le_refl _) _).alloc (by simp) _
  have E2 : Below (w.heap.size + 1) (w.alloc (.cells #[.int .i64 k, .int .i64 p] 27)) w2 := by have := hb1.trans (hb2.mono (by simpa using s1)); simpa using this
  have s2 : gm + 2 ≤ w2.heap.size := by rw [h2, hgm]; simp
  have g1 : w.heap.size + 1 ≤ gm := by omega
  rw [← h2, ← hgm]
  clear h2 hb2 hb1 hgm s1 ho hmk
  go_loopw [7] (fun i wr => ∃ t : Nat, t ≤ js.length ∧ i = .int .i64 t ∧ Hid (BBlk wr gm (boolsF n (metF k p js t))) ∧ Hid (Blk wr (gm + 1) []) ∧ Below (w.heap.size + 1) (w.alloc (.cells #[.int .i64 k, .int .i64 p] 27)) wr ∧ gm + 2 ≤ wr.heap.size) (fun i _ => js.length - (intOf i).toNat)
  case atStart => exact ⟨0, Nat.zero_le _, rfl, HM2, HZ2, E2, s2⟩
  case round =>
    obtain ⟨t, ht, rfl, HM, HZ, hE, hs⟩ := hrel
    by_cases hlt : (t : Int) < js.length
    · have htl : t < js.length := by omega
      obtain ⟨b, off, rfl, hb, hcc⟩ : ∃ b off, a = some ⟨b, off, none⟩ ∧ b < w.heap.size ∧ Cells w b off js := by rcases HC.out with h | h <;> first | omega | exact h
      have hzw : (w.alloc (.cells #[.int .i64 k, .int .i64 p] 27)).cell? ⟨b, off + t, none⟩ = some (.int .i64 (el js t)) := (D0.cell (p := ⟨b, off + t, none⟩) hb).trans (hcc t htl)
      have hz : wr.cell? ⟨b, off + t, none⟩ = some (.int .i64 (el js t)) := (hE.cell (p := ⟨b, off + t, none⟩) (by simp; omega)).trans hzw
      have ht0 : (0 : Int) ≤ t := by omega
      have he := elOk_at HJ.out htl
      obtain ⟨y, hy⟩ := Int.eq_ofNat_of_zero_le he.1
      rw [hy] at hz hzw he
      have hyn : y < n := by omega
      have HMS := Lib.hid (metF_succ k p js t)
      rw [hy, Int.toNat_natCast] at HMS
      have hql := HIL.out y hyn
      obtain ⟨q, hq⟩ : ∃ q, q = gQuo k p 0 y := ⟨_, rfl⟩
      have c1 : wr.cell? ⟨gm, y, none⟩ = some (.bool (eb (boolsF n (metF k p js t)) y)) := HM.out.cell (by rw [boolsF_length]; exact hyn)
      have f1 : wr.frozen? ⟨gm, y, none⟩ = false := HM.out.frozen y
      have hy0 : (0 : Int) ≤ y := by omega
      have hyn2 : (y : Int) < n := by omega
      obtain ⟨w3, h3⟩ : ∃ w3, w3 = wr.setCell ⟨gm, y, none⟩ (.bool true) := ⟨_, rfl⟩
      have HM3 : Hid (BBlk w3 gm (boolsF n fun z => metF k p js t z || z == y)) := by show BBlk _ _ _; rw [← boolsF_set, h3]; exact HM.out.set y true
      have HZ3 : Hid (Blk w3 (gm + 1) []) := by rw [h3]; exact HZ.out.other (by simp) _
      have hE3 : Below (w.heap.size + 1) (w.alloc (.cells #[.int .i64 k, .int .i64 p] 27)) w3 := by rw [h3]; exact hE.setCell (p := ⟨gm, y, none⟩) (by simpa using g1) _
      have s3 : gm + 2 ≤ w3.heap.size := by rw [h3]; simpa using hs
      clear hcc he
      go_wp2_with fail
      rw [← h3]
      clear h3 hz c1 f1 HM HZ hE
      have hz3 : w3.cell? ⟨b, off + t, none⟩ = some (.int .i64 y) := (hE3.cell (p := ⟨b, off + t, none⟩) (by simp; omega)).trans hzw
      obtain ⟨r0, r1, -, -⟩ := two_cells ((hE3.block w.heap.size (by omega)).trans HB0.out)
      have hiv := HI.out y w3.drew hyn
      rw [← hq] at hiv hql HMS
      have HIV := Lib.hid hiv
      have q0 : (0 : Int) ≤ q := by omega
      have qn : (q : Int) < n := by omega
      have HW : Hid (∀ w4 : World, Below w3.drew.heap.size w3.drew w4 → BBlk w4 gm (boolsF n fun z => metF k p js t z || z == y) ∧ Blk w4 (gm + 1) [] ∧ Below (w.heap.size + 1) (w.alloc (.cells #[.int .i64 k, .int .i64 p] 27)) w4 ∧ gm + 2 ≤ w4.heap.size) := fun w4 h4 =>
        ⟨(h4.block gm (by simp; omega)).trans HM3.out, (h4.block (gm + 1) (by simp; omega)).trans HZ3.out, hE3.drew.trans (h4.mono (by simp; omega)), Nat.le_trans s3 (by simpa using h4.size)⟩
      clear hiv hq
      go_region_with (go_at_call 52; with_reducible refine HIV.out.mono ?_; rintro e w4 ⟨rfl, hb4⟩; obtain ⟨hM4, hZ4, hE4, s4⟩ := HW.out w4 hb4; have HM4 := Lib.hid hM4; have HZ4 := Lib.hid hZ4; clear hb4 hZ4; have c4 := hM4.cell (i := q) (by rw [boolsF_length]; exact hql); have f4 := hM4.frozen q; clear hM4)
      all_goals
        have HM5 : Hid (BBlk (w4.setCell ⟨gm, q, none⟩ (.bool true)) gm (boolsF n (metF k p js (t + 1)))) := by
          show BBlk _ _ _
          rw [show metF k p js (t + 1) = fun z => metF k p js (t + 1) z from rfl, HMS.out, ← boolsF_set]
          exact HM4.out.set q true
        have HZ5 : Hid (Blk (w4.setCell ⟨gm, q, none⟩ (.bool true)) (gm + 1) []) := HZ4.out.other (by simp) _
        have hE5 := hE4.setCell (p := ⟨gm, q, none⟩) (by simpa using g1) (.bool true)
        clear HM4 HZ4 hE4 c4 f4 HW HIV r0 r1 hz3 HM3 HZ3 hE3
        go_wp2_with fail
        go_roundw
        case rel => exact ⟨t + 1, by omega, by go_num, HM5, HZ5, hE5, by simpa using s4⟩
        case measure => simp [intOf]; omega
    · obtain rfl : t = js.length := by omega
      obtain ⟨i0, hi, hz0, hz1, hz2⟩ := info_parts mk_info
      have KI := Lib.hid hi; have KI0 := Lib.hid hz0; have KI1 := Lib.hid hz1; have KI2 := Lib.hid hz2
      clear hi hz0 hz1 hz2
      rw [← HF.out] at HM
      have HO0 : Hid (Own wr (gm + 1) (.slice (some ⟨gm + 1, 0, none⟩) 0 0) (upTo F 1)) := by
        show Own _ _ _ _
        rw [upTo_one]
        exact Own.of_blk (L := []) HZ.out (Nat.le_refl _) (by simp)
      clear HZ HI HIL HJ HC HB0
      obtain ⟨wo, rfl⟩ : ∃ wo : World, wo = wr := ⟨_, rfl⟩
      go_wp2_with fail
      go_loopw [6, 8] (fun l c wr => ∃ x : Nat, 1 ≤ x ∧ x ≤ n ∧ c = .int .i64 x ∧ Hid (Own wr (gm + 1) l (upTo F x)) ∧ Hid (BBlk wr gm (boolsF n F)) ∧ Below (w.heap.size + 1) (w.alloc (.cells #[.int .i64 k, .int .i64 p] 27)) wr ∧ gm + 2 ≤ wr.heap.size) (fun _ c _ => n - (intOf c).toNat)
      case atStart => exact ⟨1, Nat.le_refl _, by omega, rfl, HO0, HM, hE, hs⟩
      case round =>
        obtain ⟨x, hx1, hxn, rfl, HL, HMx, hEx, hsx⟩ := hrel
        obtain ⟨la, ll, lc, hleq⟩ := row_slice HL.out
        subst hleq
        by_cases hlx : x < n
        · have hx0 : (0 : Int) ≤ x := by omega
          have hxi : (x : Int) < n := by omega
          have hsl := upTo_length F x
          have c1 : wr.cell? ⟨gm, x, none⟩ = some (.bool (eb (boolsF n F) x)) := HMx.out.cell (by rw [boolsF_length]; exact hlx)
          rw [eb_boolsF n F x hlx] at c1
          cases hr : F x with
          | true =>
            rw [hr] at c1
            have HN := Lib.hid (upTo_yes F x (by omega) hr)
            obtain ⟨S, hS⟩ : ∃ S, S = upTo F x := ⟨_, rfl⟩
            rw [← hS] at hsl HL HN
            have HL2 : Hid (Own (wr.alloc (.cells #[.int .i64 x] 2)) (gm + 1) (.slice la ll lc) S) := HL.out.below ((Below.refl _ _).alloc (Nat.le_refl _) _)
            clear hr hS HL
            go_wp2_with (at_builtin; refine wpList_append_own _ rfl (.tmp 43) (.tmp 45) 24 rfl (gm + 1) 2 i0 (.int .i64 0) 1 8 Tryd.underlying24 KI.out KI0.out KI1.out KI2.out rfl (by decide) _ _ _ rfl HL2.out ⟨wr.heap.size, 0, none⟩ 1 1 [.int .i64 x] rfl rfl (cell_one_new _ _ _) (ints_oneCell .i64 [(x : Int)]) (by unfold maxLen; omega) (by omega) (by simp; omega) ?_; intro u4 w4 hown4 hgr4 _; obtain ⟨qa, ql, qc, rfl⟩ := row_slice hown4; have HO4 := Lib.hid hown4; have HG4 := Lib.hid hgr4; clear hown4 hgr4)
            have HL4 : Hid (Own w4 (gm + 1) (.slice qa ql qc) (upTo F (x + 1))) := by
              show World.ownsRow _ _ _ _ _ _ _
              rw [HN.out, List.length_append, List.map_append]
              exact HO4.out
            have hE4 : Below (w.heap.size + 1) (w.alloc (.cells #[.int .i64 k, .int .i64 p] 27)) w4 := (hEx.alloc (by omega) _).grown HG4.out (by simp; omega) (fun j e => by have := HL2.out.ge j e; omega)
            have HM4 : Hid (BBlk w4 gm (boolsF n F)) := (HG4.out.block gm (by simp; omega) (fun e => by have := HL2.out.ge gm e.symm; omega)).trans (HMx.out.alloc _)
            have s4 : gm + 2 ≤ w4.heap.size := by have := HG4.out.size; simp at this; omega
            clear HO4 HG4 HL2 hEx HMx c1
            go_wp2_with fail
            go_roundw
            case rel => exact ⟨x + 1, by omega, by omega, by go_num, HL4, HM4, hE4, s4⟩
            case measure => simp [intOf]; omega
          | false =>
            rw [hr] at c1
            have HL4 : Hid (Own wr (gm + 1) (.slice la ll lc) (upTo F (x + 1))) := by show Own _ _ _ _; rw [upTo_no F x hr]; exact HL.out
            clear hr HL
            go_wp2_with fail
            go_roundw
            case rel => exact ⟨x + 1, by omega, by omega, by go_num, HL4, HMx, hEx, hsx⟩
            case measure => simp [intOf]; omega
        · obtain rfl : x = n := by omega
          go_wp2_with fail
          go_ret
          exact ⟨⟨_, rfl, HL.out.base (by omega)⟩, D0.trans (hEx.mono (by omega))⟩

theorem l05Closed_any (k p : Nat) (v : Value) (js : List Int) (w : World) (h : gOk k p = true) (hj : elOk (gOrd k p) js js.length = true) (hs : Sl w v js) (hl : js.length ≤ 9223372036854775807) :
    Calls Tryd.prog 30 #[gv k p, v] w fun e w' => (∃ u, e = .returned u ∧ Own w' w.heap.size u (clE k p js)) ∧ Below w.heap.size w w' := by
  rcases hs with ⟨a, c, rfl, rfl⟩ | ⟨b, off, cap, rfl, hb, hc⟩
  · exact l05Closed_near k p c a [] w h hj (.inl rfl) (by simp)
  · exact l05Closed_near k p cap _ js w h hj (.inr ⟨b, off, rfl, hb, hc⟩) hl
end Go.Proofs.YtklgimikdnokcaaDoor
