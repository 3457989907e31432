/-
  spec.DistanceOf and impl.DistanceOf.
-/
import Derived.Test.YtbpcdgfcdahnlaaDoorLi
namespace Go.Proofs.YtbpcdgfcdahnlaaDoor
set_option maxRecDepth 100000
open Go.RowKit

/-- The distance and the code. -/
def doD (zs : List Int) (x y : Nat) : Int := if dOf (Rw zs x 0) zs.length x y < 0 then 0 else dOf (Rw zs x 0) zs.length x y
def doC (zs : List Int) (x y : Nat) : Int := if dOf (Rw zs x 0) zs.length x y < 0 then 4 else 0
def DoD (n : Int) (zs : List Int) (x y : Int) : Int := if isG n zs then (if (decide (0 ≤ x) && decide (x ≤ n - 1) && (decide (0 ≤ y) && decide (y ≤ n - 1))) then doD zs x.toNat y.toNat else 0) else 0
def DoC (n : Int) (zs : List Int) (x y : Int) : Int := if isG n zs then (if (decide (0 ≤ x) && decide (x ≤ n - 1) && (decide (0 ≤ y) && decide (y ≤ n - 1))) then doC zs x.toNat y.toNat else 2) else 1
theorem vs_pair (n x y : Int) : vsOk n [x, y] 2 = (decide (0 ≤ x) && decide (x ≤ n - 1) && (decide (0 ≤ y) && decide (y ≤ n - 1))) := by simp [vsOk, el, List.range_succ]
theorem cells_two (w : World) (x y : Int) : Cells (w.alloc (.cells #[.int .i64 x, .int .i64 y] 2)) w.heap.size 0 [x, y] := by
  intro i hi
  have h := World.cell?_alloc_new (w := w) #[.int .i64 x, .int .i64 y] 2 i
  have hi2 : i < 2 := by simpa using hi
  rw [Nat.zero_add, h]
  rcases (by omega : i = 0 ∨ i = 1) with rfl | rfl <;> rfl

set_option maxHeartbeats 800000 in
theorem hasMember_any (r : Nat) (b : Nat) (w : World) (hr : (r : Int) ≤ 9223372036854775807) (hb : b < 62) :
    Calls Tryd.prog 97 #[.int .i64 r, .int .i64 b] w fun e w' => e = .returned (.bool (r.testBit b)) ∧ w = w' := by
  have HS : Hid ((bits .and .i64 ((r : Int) / 2 ^ b) 1 == 1) = r.testBit b) := by
    have := shr_bit (r : Int) b (by omega) hr
    unfold bt at this
    rw [Int.toNat_natCast] at this
    exact this
  have hb0 : (0 : Int) ≤ b := by omega
  go_enter Tryd.func97, Tryd.ntmps97
  go_wp2
  go_ret
  exact ⟨ret_bool HS.out, rfl⟩

set_option maxHeartbeats 1600000 in
theorem levelWith_some (gl capl : Nat) (ls : List Nat) (b : Nat) (w : World) (B : Nat) (ho : w.ownsRow B 2 1 (.slice (some ⟨gl, 0, none⟩) ls.length capl) ls.length (natsV ls)) (hr62 : ∀ (k r : Nat), ls[k]? = some r → (r : Int) ≤ 4611686018427387904) (hb : b < 62) (hlen : ls.length ≤ 62) :
    Calls Tryd.prog 73 #[.slice (some ⟨gl, 0, none⟩) ls.length capl, .int .i64 b] w fun e w' => ((∃ (d r : Nat), ls[d]? = some r ∧ r.testBit b = true ∧ e = .returned (.tuple #[.int .i64 d, .bool true])) ∨ ((∀ (k r : Nat), ls[k]? = some r → r.testBit b = false) ∧ e = .returned (.tuple #[.int .i64 0, .bool false]))) ∧ Below w.heap.size w w' := by
  have HO := Lib.hid ho
  have HR := Lib.hid hr62
  clear ho hr62
  go_enter Tryd.func73, Tryd.ntmps73
  go_wp2
  go_loop [6, 10] (fun _ i => ∃ k : Nat, k ≤ ls.length ∧ i = .int .i64 k ∧ Hid (∀ (j r : Nat), j < k → ls[j]? = some r → r.testBit b = false)) (fun _ i => ls.length - (intOf i).toNat)
  case atStart => exact ⟨0, Nat.zero_le _, rfl, fun j r hj => absurd hj (by omega)⟩
  case round =>
    obtain ⟨k, hk, rfl, HN⟩ := hrel
    by_cases hlt : (k : Int) < ls.length
    · have hkl : k < ls.length := by omega
      have hk0 : (0 : Int) ≤ k := by omega
      obtain ⟨r, hr⟩ : ∃ r, ls[k]? = some r := ⟨_, List.getElem?_eq_getElem hkl⟩
      have hcl : w.cell? ⟨gl, k, none⟩ = some (.int .i64 (r : Int)) := (World.ownsRow.cellAt HO.out k (by omega)).trans (natsV_at hr)
      have hcall := fun W => hasMember_any r b W (by have := HR.out k r hr; omega) hb
      have HRK := Lib.hid hr
      clear hr
      cases hbit : r.testBit b with
      | true =>
        rw [hbit] at hcall
        have HB := Lib.hid hbit
        clear hbit
        go_wp2_with (go_at_call 97; refine (hcall _).mono ?_; rintro e w2 ⟨rfl, rfl⟩)
        go_ret2
        exact ⟨.inl ⟨k, r, HRK.out, HB.out, rfl⟩, Below.refl _ _⟩
      | false =>
        rw [hbit] at hcall
        have HN2 : Hid (∀ (j r : Nat), j < k + 1 → ls[j]? = some r → r.testBit b = false) := fun j q hj hq => by
          rcases Nat.lt_or_ge j k with h | h
          · exact HN.out j q h hq
          · obtain rfl : j = k := by omega
            rw [HRK.out] at hq
            obtain rfl : r = q := by simpa using hq
            exact hbit
        clear hbit HN
        go_wp2_with (go_at_call 97; refine (hcall _).mono ?_; rintro e w2 ⟨rfl, rfl⟩)
        go_round
        case rel => exact ⟨k + 1, by omega, by go_num, HN2⟩
        case measure => simp [intOf]; omega
    · have hkl : k = ls.length := by omega
      go_wp2
      go_ret2
      exact ⟨.inr ⟨fun j r hr => HN.out j r (by rcases List.getElem?_eq_some_iff.1 hr with ⟨h, _⟩; omega) hr, rfl⟩, Below.refl _ _⟩

set_option maxRecDepth 100000 in
set_option maxHeartbeats 1600000 in
theorem specDo_yes (n : Int) (b off cap : Nat) (zs : List Int) (x y : Nat) (w : World) (hb : b < w.heap.size) (hc : Cells w b off zs) (hg : isG n zs = true) (hx : x < zs.length) (hy : y < zs.length) (hl : zs.length ≤ 9223372036854775807) :
    Calls Tryd.prog 43 #[.agg #[.int .i64 n, .slice (some ⟨b, off, none⟩) zs.length cap], .int .i64 x, .int .i64 y] w fun e w' => e = .returned (.tuple #[.int .i64 (doD zs x y), .int .i64 (doC zs x y)]) ∧ Below w.heap.size w w' := by
  have D0 : Below w.heap.size w ((w.alloc (.cells #[.int .i64 n, .slice (some ⟨b, off, none⟩) zs.length cap] 28)).alloc (.cells #[.int .i64 x, .int .i64 y] 2)) := ((Below.refl _ _).alloc (Nat.le_refl _) _).alloc (by simp) _
  have hx1 := cells_two (w.alloc (.cells #[.int .i64 n, .slice (some ⟨b, off, none⟩) zs.length cap] 28)) x y
  rw [World.size_alloc] at hx1
  have hv := code2_some n b off cap zs (w.heap.size + 1) 0 2 [(x : Int), (y : Int)] _ (Nat.lt_of_lt_of_le hb D0.size) (hc.below D0 hb) (by simp) hx1 hg hl (by simp)
  obtain ⟨g1, g2, g3, -, -⟩ := isG_parts hg
  rw [vc_yes (by rw [show [(x : Int), (y : Int)].length = 2 from rfl, vs_pair]; simp; omega)] at hv
  have HG0 := Lib.hid (GBox.new (n := n) (cap := cap) hb hc)
  have HG := Lib.hid hg
  have hm62 : zs.length ≤ 62 := by omega
  clear hc hg hx1 g3
  go_enter Tryd.func43, Tryd.ntmps43
  go_wp2_with fail
  refine hv.mono ?_
  rintro e w1 ⟨rfl, hb1⟩
  have G1 := HG0.out.below (((Below.refl (w.heap.size + 1) (w.alloc (.cells #[.int .i64 n, .slice (some ⟨b, off, none⟩) zs.length cap] 28))).alloc (by simp) (.cells #[.int .i64 x, .int .i64 y] 2)).trans (hb1.mono (by simp)))
  have b0 := G1.b0
  have b1 := G1.b1
  have D1 := D0.trans (hb1.mono (by simp; omega))
  clear hb1 hv
  go_wp2_with fail
  refine (from_n n b off cap zs x w1 G1.lb G1.cells HG.out hx).mono ?_
  rintro e w2 ⟨ud, rfl, hO1, hb2⟩
  have D2 := D1.trans (hb2.mono D1.size)
  obtain ⟨gd, cd, rfl⟩ : ∃ gd cd, ud = .slice (some ⟨gd, 0, none⟩) zs.length cd := by
    rcases hO1.form with ⟨_, h0⟩ | ⟨gd, cd, h1, h2, h3⟩
    · have h4 := congrArg List.length h0
      rw [dsL_length, List.length_nil] at h4
      omega
    · rw [dsL_length] at h1
      exact ⟨gd, cd, h1⟩
  obtain ⟨d, hd⟩ : ∃ d, d = dOf (Rw zs x 0) zs.length x y := ⟨_, rfl⟩
  have hcd : w2.cell? ⟨gd, y, none⟩ = some (.int .i64 d) := by
    have h := hO1
    unfold Own at h; rw [dsL_length] at h; rw [hd, ← dsL_at hy]
    exact (World.ownsRow.cellAt h y (by omega)).trans (map_at _ y (by rw [dsL_length]; omega))
  have HDN : Hid (doD zs x y = if d < 0 then 0 else d) := by show doD _ _ _ = _; rw [doD, ← hd]
  have HCN : Hid (doC zs x y = if d < 0 then 4 else 0) := by show doC _ _ _ = _; rw [doC, ← hd]
  have hy0 : (0 : Int) ≤ y := by omega
  have hyl : (y : Int) < zs.length := by omega
  clear hO1 hb2 b0 b1 G1 D1 hd
  by_cases hneg : d < 0
  · have e1 : doD zs x y = 0 := by rw [HDN.out, if_pos hneg]
    have e2 : doC zs x y = 4 := by rw [HCN.out, if_pos hneg]
    have E1 := Lib.hid e1; have E2 := Lib.hid e2
    clear e1 e2
    go_wp2
    go_ret2
    exact ⟨by rw [E1.out, E2.out]; rfl, D2⟩
  · have e1 : doD zs x y = d := by rw [HDN.out, if_neg hneg]
    have e2 : doC zs x y = 0 := by rw [HCN.out, if_neg hneg]
    have E1 := Lib.hid e1; have E2 := Lib.hid e2
    clear e1 e2
    go_wp2
    go_ret2
    exact ⟨by rw [E1.out, E2.out]; rfl, D2⟩

set_option maxHeartbeats 800000 in
theorem specDo_out (n : Int) (b off cap : Nat) (zs : List Int) (x y : Int) (w : World) (hb : b < w.heap.size) (hc : Cells w b off zs) (hg : isG n zs = true) (hx : (decide (0 ≤ x) && decide (x ≤ n - 1) && (decide (0 ≤ y) && decide (y ≤ n - 1))) = false) (hl : zs.length ≤ 9223372036854775807) :
    Calls Tryd.prog 43 #[.agg #[.int .i64 n, .slice (some ⟨b, off, none⟩) zs.length cap], .int .i64 x, .int .i64 y] w fun e w' => e = .returned (.tuple #[.int .i64 0, .int .i64 2]) ∧ Below w.heap.size w w' := by
  have D0 : Below w.heap.size w ((w.alloc (.cells #[.int .i64 n, .slice (some ⟨b, off, none⟩) zs.length cap] 28)).alloc (.cells #[.int .i64 x, .int .i64 y] 2)) := ((Below.refl _ _).alloc (Nat.le_refl _) _).alloc (by simp) _
  have hx1 := cells_two (w.alloc (.cells #[.int .i64 n, .slice (some ⟨b, off, none⟩) zs.length cap] 28)) x y
  rw [World.size_alloc] at hx1
  have hv := code2_some n b off cap zs (w.heap.size + 1) 0 2 [x, y] _ (Nat.lt_of_lt_of_le hb D0.size) (hc.below D0 hb) (by simp) hx1 hg hl (by simp)
  rw [vc_no (by rw [show [x, y].length = 2 from rfl, vs_pair]; exact hx)] at hv
  clear hc hg hx1 hx
  go_enter Tryd.func43, Tryd.ntmps43
  go_wp2_with fail
  refine hv.mono ?_
  rintro e w1 ⟨rfl, hb1⟩
  have D1 := D0.trans (hb1.mono (by simp; omega))
  clear hb1 hv
  go_wp2
  go_ret2
  exact ⟨rfl, D1⟩

set_option maxHeartbeats 800000 in
theorem specDo_no (n : Int) (v : Value) (zs : List Int) (x y : Int) (w : World) (h : Sl w v zs) (hg : isG n zs = false) (hl : zs.length ≤ 9223372036854775807) :
    Calls Tryd.prog 43 #[.agg #[.int .i64 n, v], .int .i64 x, .int .i64 y] w fun e w' => e = .returned (.tuple #[.int .i64 0, .int .i64 1]) ∧ Below w.heap.size w w' := by
  have D0 : Below w.heap.size w ((w.alloc (.cells #[.int .i64 n, v] 28)).alloc (.cells #[.int .i64 x, .int .i64 y] 2)) := ((Below.refl _ _).alloc (Nat.le_refl _) _).alloc (by simp) _
  have hv := fun u => code2_no n v u zs _ (h.below D0) hg hl
  clear h hg
  go_enter Tryd.func43, Tryd.ntmps43
  go_wp2_with fail
  refine (hv _).mono ?_
  rintro e w1 ⟨rfl, hb1⟩
  have D1 := D0.trans (hb1.mono (by simp; omega))
  clear hb1 hv
  go_wp2
  go_ret2
  exact ⟨rfl, D1⟩

theorem specDo_any (n : Int) (v : Value) (zs : List Int) (x y : Int) (w : World) (h : Sl w v zs) (hl : zs.length ≤ 9223372036854775807) :
    Calls Tryd.prog 43 #[.agg #[.int .i64 n, v], .int .i64 x, .int .i64 y] w fun e w' => e = .returned (.tuple #[.int .i64 (DoD n zs x y), .int .i64 (DoC n zs x y)]) ∧ Below w.heap.size w w' := by
  cases hg : isG n zs
  · rw [show DoD n zs x y = 0 by simp [DoD, hg], show DoC n zs x y = 1 by simp [DoC, hg]]
    exact specDo_no n v zs x y w h hg hl
  · obtain ⟨h1, _, h3, _⟩ := isG_parts hg
    obtain ⟨b, off, cap, rfl, hb, hc⟩ := sl_some h (by omega)
    cases hx : (decide (0 ≤ x) && decide (x ≤ n - 1) && (decide (0 ≤ y) && decide (y ≤ n - 1)))
    · rw [show DoD n zs x y = 0 by simp only [DoD, hg, hx]; simp, show DoC n zs x y = 2 by simp only [DoC, hg, hx]; simp]
      exact specDo_out n b off cap zs x y w hb hc hg hx hl
    · rw [show DoD n zs x y = doD zs x.toNat y.toNat by simp only [DoD, hg, hx]; simp, show DoC n zs x y = doC zs x.toNat y.toNat by simp only [DoC, hg, hx]; simp]
      simp only [Bool.and_eq_true, decide_eq_true_eq] at hx
      obtain ⟨⟨x0, x1⟩, y0, y1⟩ := hx
      obtain ⟨k, rfl⟩ := Int.eq_ofNat_of_zero_le x0
      obtain ⟨m, rfl⟩ := Int.eq_ofNat_of_zero_le y0
      exact specDo_yes n b off cap zs k m w hb hc hg (by omega) (by omega) hl

set_option maxRecDepth 100000 in
set_option maxHeartbeats 1600000 in
theorem implDo_yes (n : Int) (b off cap : Nat) (zs : List Int) (x y : Nat) (w : World) (hb : b < w.heap.size) (hc : Cells w b off zs) (hg : isG n zs = true) (hx : x < zs.length) (hy : y < zs.length) (hl : zs.length ≤ 9223372036854775807) (hT : Tab w) :
    Calls Tryd.prog 44 #[.agg #[.int .i64 n, .slice (some ⟨b, off, none⟩) zs.length cap], .int .i64 x, .int .i64 y] w fun e w' => e = .returned (.tuple #[.int .i64 (doD zs x y), .int .i64 (doC zs x y)]) ∧ Below w.heap.size w w' := by
  have D0 : Below w.heap.size w ((w.alloc (.cells #[.int .i64 n, .slice (some ⟨b, off, none⟩) zs.length cap] 28)).alloc (.cells #[.int .i64 x, .int .i64 y] 2)) := ((Below.refl _ _).alloc (Nat.le_refl _) _).alloc (by simp) _
  have hx1 := cells_two (w.alloc (.cells #[.int .i64 n, .slice (some ⟨b, off, none⟩) zs.length cap] 28)) x y
  rw [World.size_alloc] at hx1
  have hv := chk_some n b off cap zs (w.heap.size + 1) 0 2 [(x : Int), (y : Int)] _ (Nat.lt_of_lt_of_le hb D0.size) (hc.below D0 hb) (by simp) hx1 hg hl (by simp) (hT.belowAll D0)
  obtain ⟨g1, g2, g3, -, -⟩ := isG_parts hg
  rw [vc_yes (by rw [show [(x : Int), (y : Int)].length = 2 from rfl, vs_pair]; simp; omega)] at hv
  have HG0 := Lib.hid (GBox.new (n := n) (cap := cap) hb hc)
  have HG := Lib.hid hg
  have hm62 : zs.length ≤ 62 := by omega
  have HT := Lib.hid (hT.belowAll D0)
  clear hc hg hx1 g3 hT
  go_enter Tryd.func44, Tryd.ntmps44
  go_wp2_with fail
  refine hv.mono ?_
  rintro e w1 ⟨rfl, hb1⟩
  have G1 := HG0.out.below (((Below.refl (w.heap.size + 1) (w.alloc (.cells #[.int .i64 n, .slice (some ⟨b, off, none⟩) zs.length cap] 28))).alloc (by simp) (.cells #[.int .i64 x, .int .i64 y] 2)).trans (hb1.mono (by simp)))
  have b0 := G1.b0
  have b1 := G1.b1
  have D1 := D0.trans (hb1.mono (by simp; omega))
  have T1 := HT.out.belowAll hb1
  clear hb1 hv
  go_wp2_with fail
  refine (levelRows_zero n b off cap zs x w1 G1.lb G1.cells T1 HG.out hx).mono ?_
  rintro e w2 ⟨ls, gl, capl, rfl, hown, hok, hpos, hb2⟩
  have D2 := D1.trans (hb2.mono D1.size)
  have hlen := hok.len
  have hlw := levelWith_some gl capl ls y w2 w1.heap.size hown (fun k r hr => pow_small (hok.bit k r hr).1 hm62) (by omega) (by omega)
  have HOK := Lib.hid hok
  clear hown hb2 b0 b1 G1 D1 T1 hok
  go_wp2_with fail
  refine hlw.mono ?_
  rintro e w3 ⟨⟨d, r, hd, hbit, rfl⟩ | ⟨hno, rfl⟩, hb3⟩
  · have h := HOK.out.yes hx hd hbit
    have D3 := D2.trans (hb3.mono D2.size)
    have e1 : doD zs x y = d := by rw [doD, h, if_neg (by omega)]
    have e2 : doC zs x y = 0 := by rw [doC, h, if_neg (by omega)]
    have E1 := Lib.hid e1; have E2 := Lib.hid e2
    clear e1 e2 h hlw hb3
    go_wp2
    go_ret2
    exact ⟨by rw [E1.out, E2.out]; rfl, D3⟩
  · have h := HOK.out.no hno
    have D3 := D2.trans (hb3.mono D2.size)
    have e1 : doD zs x y = 0 := by rw [doD, h, if_pos (by omega)]
    have e2 : doC zs x y = 4 := by rw [doC, h, if_pos (by omega)]
    have E1 := Lib.hid e1; have E2 := Lib.hid e2
    clear e1 e2 h hlw hb3
    go_wp2
    go_ret2
    exact ⟨by rw [E1.out, E2.out]; rfl, D3⟩

set_option maxHeartbeats 800000 in
theorem implDo_out (n : Int) (b off cap : Nat) (zs : List Int) (x y : Int) (w : World) (hb : b < w.heap.size) (hc : Cells w b off zs) (hg : isG n zs = true) (hx : (decide (0 ≤ x) && decide (x ≤ n - 1) && (decide (0 ≤ y) && decide (y ≤ n - 1))) = false) (hl : zs.length ≤ 9223372036854775807) (hT : Tab w) :
    Calls Tryd.prog 44 #[.agg #[.int .i64 n, .slice (some ⟨b, off, none⟩) zs.length cap], .int .i64 x, .int .i64 y] w fun e w' => e = .returned (.tuple #[.int .i64 0, .int .i64 2]) ∧ Below w.heap.size w w' := by
  have D0 : Below w.heap.size w ((w.alloc (.cells #[.int .i64 n, .slice (some ⟨b, off, none⟩) zs.length cap] 28)).alloc (.cells #[.int .i64 x, .int .i64 y] 2)) := ((Below.refl _ _).alloc (Nat.le_refl _) _).alloc (by simp) _
  have hx1 := cells_two (w.alloc (.cells #[.int .i64 n, .slice (some ⟨b, off, none⟩) zs.length cap] 28)) x y
  rw [World.size_alloc] at hx1
  have hv := chk_some n b off cap zs (w.heap.size + 1) 0 2 [x, y] _ (Nat.lt_of_lt_of_le hb D0.size) (hc.below D0 hb) (by simp) hx1 hg hl (by simp) (hT.belowAll D0)
  rw [vc_no (by rw [show [x, y].length = 2 from rfl, vs_pair]; exact hx)] at hv
  clear hc hg hx1 hx hT
  go_enter Tryd.func44, Tryd.ntmps44
  go_wp2_with fail
  refine hv.mono ?_
  rintro e w1 ⟨rfl, hb1⟩
  have D1 := D0.trans (hb1.mono (by simp; omega))
  clear hb1 hv
  go_wp2
  go_ret2
  exact ⟨rfl, D1⟩

set_option maxHeartbeats 800000 in
theorem implDo_no (n : Int) (v : Value) (zs : List Int) (x y : Int) (w : World) (h : Sl w v zs) (hg : isG n zs = false) (hl : zs.length ≤ 9223372036854775807) (hT : Tab w) :
    Calls Tryd.prog 44 #[.agg #[.int .i64 n, v], .int .i64 x, .int .i64 y] w fun e w' => e = .returned (.tuple #[.int .i64 0, .int .i64 1]) ∧ Below w.heap.size w w' := by
  have D0 : Below w.heap.size w ((w.alloc (.cells #[.int .i64 n, v] 28)).alloc (.cells #[.int .i64 x, .int .i64 y] 2)) := ((Below.refl _ _).alloc (Nat.le_refl _) _).alloc (by simp) _
  have hv := fun u => chk_no n v u zs _ (h.below D0) hg hl (hT.belowAll D0)
  clear h hg hT
  go_enter Tryd.func44, Tryd.ntmps44
  go_wp2_with fail
  refine (hv _).mono ?_
  rintro e w1 ⟨rfl, hb1⟩
  have D1 := D0.trans (hb1.mono (by simp; omega))
  clear hb1 hv
  go_wp2
  go_ret2
  exact ⟨rfl, D1⟩

theorem implDo_any (n : Int) (v : Value) (zs : List Int) (x y : Int) (w : World) (h : Sl w v zs) (hl : zs.length ≤ 9223372036854775807) (hT : Tab w) :
    Calls Tryd.prog 44 #[.agg #[.int .i64 n, v], .int .i64 x, .int .i64 y] w fun e w' => e = .returned (.tuple #[.int .i64 (DoD n zs x y), .int .i64 (DoC n zs x y)]) ∧ Below w.heap.size w w' := by
  cases hg : isG n zs
  · rw [show DoD n zs x y = 0 by simp [DoD, hg], show DoC n zs x y = 1 by simp [DoC, hg]]
    exact implDo_no n v zs x y w h hg hl hT
  · obtain ⟨h1, _, h3, _⟩ := isG_parts hg
    obtain ⟨b, off, cap, rfl, hb, hc⟩ := sl_some h (by omega)
    cases hx : (decide (0 ≤ x) && decide (x ≤ n - 1) && (decide (0 ≤ y) && decide (y ≤ n - 1)))
    · rw [show DoD n zs x y = 0 by simp only [DoD, hg, hx]; simp, show DoC n zs x y = 2 by simp only [DoC, hg, hx]; simp]
      exact implDo_out n b off cap zs x y w hb hc hg hx hl hT
    · rw [show DoD n zs x y = doD zs x.toNat y.toNat by simp only [DoD, hg, hx]; simp, show DoC n zs x y = doC zs x.toNat y.toNat by simp only [DoC, hg, hx]; simp]
      simp only [Bool.and_eq_true, decide_eq_true_eq] at hx
      obtain ⟨⟨x0, x1⟩, y0, y1⟩ := hx
      obtain ⟨k, rfl⟩ := Int.eq_ofNat_of_zero_le x0
      obtain ⟨m, rfl⟩ := Int.eq_ofNat_of_zero_le y0
      exact implDo_yes n b off cap zs k m w hb hc hg (by omega) (by omega) hl hT
end Go.Proofs.YtbpcdgfcdahnlaaDoor
