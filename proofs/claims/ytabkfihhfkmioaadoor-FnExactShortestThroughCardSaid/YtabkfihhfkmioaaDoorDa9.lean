/-
  ShortestThrough of both programs. (gen/mk_da9.py)
-/
import Derived.Test.YtabkfihhfkmioaaDoorCz9
import Derived.Test.YtabkfihhfkmioaaDoorCy9
import Derived.Test.YtabkfihhfkmioaaDoorCk2
namespace Go.Proofs.YtabkfihhfkmioaaDoor
set_option maxRecDepth 100000
open Go.RowKit

/-- The number and the code for an edge. -/
def shN (zs : List Int) (x y : Nat) : Int := if bt (el zs x) y then if gF zs (edL zs) = 63 then 0 else ctN zs x y (gF zs (edL zs)) else 0
def shC (zs : List Int) (x y : Nat) : Int := if bt (el zs x) y then if gF zs (edL zs) = 63 then 4 else 0 else 5
def okP (n x y : Int) : Bool := decide (0 ≤ x ∧ x ≤ n - 1 ∧ 0 ≤ y ∧ y ≤ n - 1)
def shD (n : Int) (zs : List Int) (x y : Int) : Int := if isG n zs then if okP n x y then shN zs x.toNat y.toNat else 0 else 0
def shE (n : Int) (zs : List Int) (x y : Int) : Int := if isG n zs then if okP n x y then shC zs x.toNat y.toNat else 2 else 1
theorem two_new9 (w : World) (x y : Int) : Cells (w.alloc (.cells #[.int .i64 x, .int .i64 y] 2)) w.heap.size 0 [x, y] := by
  intro i hi
  have h := World.cell?_alloc_new (w := w) #[.int .i64 x, .int .i64 y] 2 i
  have hi2 : i < 2 := by simpa using hi
  rw [Nat.zero_add, h]
  rcases (by omega : i = 0 ∨ i = 1) with rfl | rfl <;> rfl
/-- The girth is no more than the cycles with an edge. -/
theorem gF_edge {zs : List Int} (hg : isG zs.length zs = true) {x y : Nat} (hx : x < zs.length) (hy : y < zs.length) (hbt : bt (el zs x) y = true) : gF zs (edL zs) ≤ cyc zs x y := by
  obtain ⟨g1, g2, -, g4, g5⟩ := isG_iff.1 hg
  have hne : x ≠ y := fun e => by rw [e, (g4 y hy).2.2] at hbt; cases hbt
  have h := (gF_le.1 (Int.le_refl (gF zs (edL zs)))).2
  rcases Nat.lt_or_ge x y with hlt | hge
  · exact h (x, y) (edL_mem.2 ⟨hx, by omega, hlt, hbt⟩)
  · rw [cyc_symm hg hx hy hne hbt]
    exact h (y, x) (edL_mem.2 ⟨hy, by omega, by omega, by rw [g5 y x hy hx]; exact hbt⟩)
theorem gF_three {zs : List Int} (hg : isG zs.length zs = true) : 3 ≤ gF zs (edL zs) := by
  obtain ⟨g1, g2, -, g4, g5⟩ := isG_iff.1 hg
  refine gF_le.2 ⟨by omega, fun p hp => ?_⟩
  have := edL_lt hp (fun i hi => (g4 i hi).2.1)
  exact cyc_ge (by omega) (by omega)
theorem ct_yes {zs : List Int} {x y : Nat} {G : Int} (h3 : 3 ≤ G) (h : arL zs x y = G) : ctN zs x y G = awN zs x y := by
  unfold arL at h
  unfold ctN awN
  generalize cyD zs x (2 ^ y) = D at *
  by_cases e : 0 ≤ D y
  · rw [if_pos e] at h; rw [if_pos h, if_pos e]
  · rw [if_neg e] at h; omega
theorem ct_no {zs : List Int} {x y : Nat} {G : Int} (h3 : 3 ≤ G) (h : arL zs x y ≠ G) : ctN zs x y G = 0 := by
  unfold arL at h
  unfold ctN
  generalize cyD zs x (2 ^ y) = D at *
  refine if_neg fun e2 => h ?_
  rw [if_pos (by omega)]; exact e2

set_option maxHeartbeats 3200000 in
theorem implSh_yes (b off cap : Nat) (zs : List Int) (x y : Nat) (w : World) (hb : b < w.heap.size) (hc : Cells w b off zs) (hg : isG zs.length zs = true) (hx : x < zs.length) (hy : y < zs.length) (hT : Tab w) :
    Calls Tryd.prog 34 #[.agg #[.int .i64 zs.length, .slice (some ⟨b, off, none⟩) zs.length cap], .int .i64 x, .int .i64 y] w fun e w' => e = .returned (.tuple #[.int .i64 (shN zs x y), .int .i64 (shC zs x y)]) ∧ Below w.heap.size w w' := by
  obtain ⟨p1, p2, -, h4, -⟩ := isG_iff.1 hg
  have hpw : 2 ^ zs.length ≤ 2 ^ 62 := Nat.pow_le_pow_right (by decide) (by omega)
  have D0 : Below w.heap.size w ((w.alloc (.cells #[.int .i64 zs.length, .slice (some ⟨b, off, none⟩) zs.length cap] 26)).alloc (.cells #[.int .i64 x, .int .i64 y] 2)) := ((Below.refl _ _).alloc (Nat.le_refl _) _).alloc (by simp) _
  have hx1 := two_new9 (w.alloc (.cells #[.int .i64 zs.length, .slice (some ⟨b, off, none⟩) zs.length cap] 26)) x y
  rw [World.size_alloc] at hx1
  have hv := chk_some zs.length b off cap zs (w.heap.size + 1) 0 2 [(x : Int), (y : Int)] _ (Nat.lt_of_lt_of_le hb D0.size) (hc.below D0 hb) (by simp) hx1 hg (by omega) (by simp) (hT.belowAll D0)
  rw [vc_yes (by rw [show [(x : Int), (y : Int)].length = 2 from rfl, vs_two]; simp; omega)] at hv
  have HGO : Hid (∀ W, Below w.heap.size w W → Calls Tryd.prog 88 #[.agg #[.int .i64 zs.length, .slice (some ⟨b, off, none⟩) zs.length cap]] W fun e w' => e = .returned (.tuple #[.int .i64 (goN zs), .int .i64 (goC zs)]) ∧ Below W.heap.size W w') := fun W hW => callsIn_wide.1 (implGi_in b off cap zs W (Nat.lt_of_lt_of_le hb hW.size) (hc.below hW hb) hg (hT.belowAll hW))
  obtain ⟨r, hr⟩ : ∃ r : Nat, el zs x = (r : Int) := ⟨(el zs x).toNat, by have := (h4 x hx).1; omega⟩
  have hrl : r < 2 ^ zs.length := by have := (h4 x hx).2.1; rw [hr, Int.toNat_natCast] at this; exact this
  have HM : Hid (∀ W, Calls Tryd.prog 70 #[.int .i64 r, .int .i64 y] W fun e w' => e = .returned (.bool (bt (el zs x) y)) ∧ W = w') := fun W => by
    have h := hasM_any r y W (by omega) (by omega)
    have e : bt (el zs x) y = r.testBit y := by unfold bt; rw [hr, Int.toNat_natCast]
    rw [e]; exact h
  have HCR : Hid (∀ W, Below w.heap.size w W → W.cell? ⟨b, off + x, none⟩ = some (.int .i64 (r : Int))) := fun W hW => by rw [← hr]; exact (hc.below hW hb) x hx
  have h3 := gF_three hg
  have HCY : Hid (bt (el zs x) y = true → ∀ W, Below w.heap.size w W → Calls Tryd.prog 89 #[.agg #[.int .i64 zs.length, .slice (some ⟨b, off, none⟩) zs.length cap], .int .i64 x, .int .i64 y, .int .i64 (gF zs (edL zs))] W fun e w' => e = .returned (.int .i64 (ctN zs x y (gF zs (edL zs)))) ∧ Below W.heap.size W w') := fun hbt W hW => by
    have hle := gF_edge hg hx hy hbt
    obtain ⟨g, hgg⟩ := Int.eq_ofNat_of_zero_le (show 0 ≤ gF zs (edL zs) by omega)
    rw [hgg] at h3 hle ⊢
    exact callsIn_wide.1 (cycles_in b off cap zs x y g W (Nat.lt_of_lt_of_le hb hW.size) (hc.below hW hb) (hT.belowAll hW) hg hx hy (by omega) hle)
  have HR0 : Hid (((w.alloc (.cells #[.int .i64 zs.length, .slice (some ⟨b, off, none⟩) zs.length cap] 26)).alloc (.cells #[.int .i64 x, .int .i64 y] 2)).heap[w.heap.size]? = some (.cells #[.int .i64 zs.length, .slice (some ⟨b, off, none⟩) zs.length cap] 26 (0, 0))) := heap_old_at (World.alloc_heap_new w _) _
  have HD0 := Lib.hid D0
  unfold goN goC at HGO
  unfold shN shC
  have hx0 : (0 : Int) ≤ x := by omega
  have hxl : (x : Int) < zs.length := by omega
  generalize gF zs (edL zs) = G at *
  clear hc hg hx1 D0 h4 hr hT
  cases hbt : bt (el zs x) y with
  | false =>
    rw [hbt] at HM
    clear HCY hbt
    go_enter Tryd.func34, Tryd.ntmps34
    go_wp2_with fail
    refine hv.mono ?_
    rintro e w1 ⟨rfl, hb1⟩
    obtain ⟨b0, b1, -, -⟩ := two_cells ((hb1.block w.heap.size (by simp; omega)).trans HR0.out)
    have HB1 := Lib.hid (HD0.out.trans (hb1.mono HD0.out.size))
    have cr := HCR.out _ HB1.out
    clear hb1 hv
    go_wp2_with (go_at_call 70; refine (HM.out _).mono ?_; rintro e w2 ⟨rfl, rfl⟩)
    go_ret2
    exact ⟨rfl, HB1.out⟩
  | true =>
    rw [hbt] at HM
    have HCY2 := Lib.hid (HCY.out hbt)
    clear HCY hbt
    by_cases hG : G = 63
    · rw [if_pos hG] at HGO
      rw [if_pos rfl, if_pos rfl, if_pos hG, if_pos hG]
      rw [if_pos hG] at HGO
      clear HCY2 hG
      go_enter Tryd.func34, Tryd.ntmps34
      go_wp2_with fail
      refine hv.mono ?_
      rintro e w1 ⟨rfl, hb1⟩
      obtain ⟨b0, b1, -, -⟩ := two_cells ((hb1.block w.heap.size (by simp; omega)).trans HR0.out)
      have HB1 := Lib.hid (HD0.out.trans (hb1.mono HD0.out.size))
      have cr := HCR.out _ HB1.out
      clear hb1 hv
      go_wp2_with (first
        | (go_at_call 70; refine (HM.out _).mono ?_; rintro e w2 ⟨rfl, rfl⟩)
        | (go_at_call 88; refine (HGO.out _ HB1.out).mono ?_; rintro e w3 ⟨rfl, hb3⟩; have HB3 := Lib.hid (HB1.out.trans (hb3.mono HB1.out.size)); clear hb3))
      go_ret2
      exact ⟨rfl, HB3.out⟩
    · rw [if_neg hG] at HGO
      rw [if_pos rfl, if_pos rfl, if_neg hG, if_neg hG]
      rw [if_neg hG] at HGO
      clear hG
      go_enter Tryd.func34, Tryd.ntmps34
      go_wp2_with fail
      refine hv.mono ?_
      rintro e w1 ⟨rfl, hb1⟩
      obtain ⟨b0, b1, -, -⟩ := two_cells ((hb1.block w.heap.size (by simp; omega)).trans HR0.out)
      have HX1 := Lib.hid ((hb1.block w.heap.size (by simp; omega)).trans HR0.out)
      have HB1 := Lib.hid (HD0.out.trans (hb1.mono HD0.out.size))
      have cr := HCR.out _ HB1.out
      have s1 : w.heap.size < w1.heap.size := (Array.getElem?_eq_some_iff.1 HX1.out).1
      clear hb1 hv
      go_wp2_with (first
        | (go_at_call 70; refine (HM.out _).mono ?_; rintro e w2 ⟨rfl, rfl⟩)
        | (go_at_call 88; refine (HGO.out _ HB1.out).mono ?_; rintro e w3 ⟨rfl, hb3⟩; obtain ⟨y0, y1, -, -⟩ := two_cells ((hb3.block _ s1).trans HX1.out); have HB3 := Lib.hid (HB1.out.trans (hb3.mono HB1.out.size)); clear hb3)
        | (go_at_call 89; refine (HCY2.out _ HB3.out).mono ?_; rintro e w4 ⟨rfl, hb4⟩))
      go_ret2
      exact ⟨rfl, HB3.out.trans (hb4.mono HB3.out.size)⟩

set_option maxHeartbeats 3200000 in
theorem specSh_yes (b off cap : Nat) (zs : List Int) (x y : Nat) (w : World) (hb : b < w.heap.size) (hc : Cells w b off zs) (hg : isG zs.length zs = true) (hx : x < zs.length) (hy : y < zs.length) :
    Calls Tryd.prog 33 #[.agg #[.int .i64 zs.length, .slice (some ⟨b, off, none⟩) zs.length cap], .int .i64 x, .int .i64 y] w fun e w' => e = .returned (.tuple #[.int .i64 (shN zs x y), .int .i64 (shC zs x y)]) ∧ Below w.heap.size w w' := by
  obtain ⟨p1, p2, -, h4, -⟩ := isG_iff.1 hg
  have hpw : 2 ^ zs.length ≤ 2 ^ 62 := Nat.pow_le_pow_right (by decide) (by omega)
  have D0 : Below w.heap.size w ((w.alloc (.cells #[.int .i64 zs.length, .slice (some ⟨b, off, none⟩) zs.length cap] 26)).alloc (.cells #[.int .i64 x, .int .i64 y] 2)) := ((Below.refl _ _).alloc (Nat.le_refl _) _).alloc (by simp) _
  have hx1 := two_new9 (w.alloc (.cells #[.int .i64 zs.length, .slice (some ⟨b, off, none⟩) zs.length cap] 26)) x y
  rw [World.size_alloc] at hx1
  have hv := code2_some zs.length b off cap zs (w.heap.size + 1) 0 2 [(x : Int), (y : Int)] _ (Nat.lt_of_lt_of_le hb D0.size) (hc.below D0 hb) (by simp) hx1 hg (by omega) (by simp)
  rw [vc_yes (by rw [show [(x : Int), (y : Int)].length = 2 from rfl, vs_two]; simp; omega)] at hv
  have HGO : Hid (∀ W, Below w.heap.size w W → Calls Tryd.prog 86 #[.agg #[.int .i64 zs.length, .slice (some ⟨b, off, none⟩) zs.length cap], .int .i64 (-1)] W fun e w' => e = .returned (.int .i64 (goN zs)) ∧ Below W.heap.size W w') := fun W hW => girthS_some b off cap zs W (Nat.lt_of_lt_of_le hb hW.size) (hc.below hW hb) hg
  have HCY : Hid (∀ W, Below w.heap.size w W → Calls Tryd.prog 87 #[.agg #[.int .i64 zs.length, .slice (some ⟨b, off, none⟩) zs.length cap], .int .i64 x, .int .i64 y] W fun e w' => e = .returned (.tuple #[.int .i64 (arL zs x y), .int .i64 (awN zs x y)]) ∧ Below W.heap.size W w') := fun W hW => aroundW_some b off cap zs x y W (Nat.lt_of_lt_of_le hb hW.size) (hc.below hW hb) hg hx hy
  have HCR : Hid (∀ W, Below w.heap.size w W → W.cell? ⟨b, off + x, none⟩ = some (.int .i64 (el zs x))) := fun W hW => (hc.below hW hb) x hx
  have h3 := gF_three hg
  have bit0 := bit_zero (el zs x) y (h4 x hx).1 (by have := (h4 x hx).1; have := (h4 x hx).2.1; omega)
  have hx62 : (y : Int) ≤ 61 := by omega
  have hy0 : (0 : Int) ≤ y := by omega
  have HR0 : Hid (((w.alloc (.cells #[.int .i64 zs.length, .slice (some ⟨b, off, none⟩) zs.length cap] 26)).alloc (.cells #[.int .i64 x, .int .i64 y] 2)).heap[w.heap.size]? = some (.cells #[.int .i64 zs.length, .slice (some ⟨b, off, none⟩) zs.length cap] 26 (0, 0))) := heap_old_at (World.alloc_heap_new w _) _
  have HD0 := Lib.hid D0
  have HCA := Lib.hid (fun h => ct_yes (zs := zs) (x := x) (y := y) h3 h)
  have HCB := Lib.hid (fun h => ct_no (zs := zs) (x := x) (y := y) h3 h)
  unfold goN at HGO
  unfold shN shC
  have hx0 : (0 : Int) ≤ x := by omega
  have hxl : (x : Int) < zs.length := by omega
  generalize gF zs (edL zs) = G at *
  generalize arL zs x y = AR at *
  generalize awN zs x y = AN at *
  generalize ctN zs x y G = CN at *
  clear hc hg hx1 D0 h4
  cases hbt : bt (el zs x) y with
  | false =>
    rw [hbt] at bit0
    clear hbt
    go_enter Tryd.func33, Tryd.ntmps33
    go_wp2_with fail
    refine hv.mono ?_
    rintro e w1 ⟨rfl, hb1⟩
    obtain ⟨b0, b1, -, -⟩ := two_cells ((hb1.block w.heap.size (by simp; omega)).trans HR0.out)
    have HB1 := Lib.hid (HD0.out.trans (hb1.mono HD0.out.size))
    have cr := HCR.out _ HB1.out
    clear hb1 hv
    go_wp2_with fail
    go_ret2
    exact ⟨rfl, HB1.out⟩
  | true =>
    rw [hbt] at bit0
    clear hbt
    by_cases hG : G = 63
    · rw [if_pos hG] at HGO
      rw [if_pos rfl, if_pos rfl, if_pos hG, if_pos hG]
      clear hG
      go_enter Tryd.func33, Tryd.ntmps33
      go_wp2_with fail
      refine hv.mono ?_
      rintro e w1 ⟨rfl, hb1⟩
      obtain ⟨b0, b1, -, -⟩ := two_cells ((hb1.block w.heap.size (by simp; omega)).trans HR0.out)
      have HB1 := Lib.hid (HD0.out.trans (hb1.mono HD0.out.size))
      have cr := HCR.out _ HB1.out
      clear hb1 hv
      go_wp2_with (go_at_call 86; refine (HGO.out _ HB1.out).mono ?_; rintro e w3 ⟨rfl, hb3⟩)
      go_ret2
      exact ⟨rfl, HB1.out.trans (hb3.mono HB1.out.size)⟩
    · rw [if_neg hG] at HGO
      rw [if_pos rfl, if_pos rfl, if_neg hG, if_neg hG]
      have hG0 : (G == 0) = false := by rw [beq_eq_false_iff_ne]; omega
      clear hG
      have HEQ : (AR = G ∧ CN = AN) ∨ ((AR != G) = true ∧ CN = 0) := by
        by_cases e : AR = G
        · exact .inl ⟨e, HCA.out e⟩
        · exact .inr ⟨by rw [bne_iff_ne]; exact e, HCB.out e⟩
      clear HCA HCB
      rcases HEQ with ⟨rfl, rfl⟩ | ⟨hne, rfl⟩
      all_goals
        go_enter Tryd.func33, Tryd.ntmps33
        go_wp2_with fail
        refine hv.mono ?_
        rintro e w1 ⟨rfl, hb1⟩
        obtain ⟨b0, b1, -, -⟩ := two_cells ((hb1.block w.heap.size (by simp; omega)).trans HR0.out)
        have HX1 := Lib.hid ((hb1.block w.heap.size (by simp; omega)).trans HR0.out)
        have HB1 := Lib.hid (HD0.out.trans (hb1.mono HD0.out.size))
        have cr := HCR.out _ HB1.out
        have s1 : w.heap.size < w1.heap.size := (Array.getElem?_eq_some_iff.1 HX1.out).1
        clear hb1 hv
        go_wp2_with (first
          | (go_at_call 86; refine (HGO.out _ HB1.out).mono ?_; rintro e w3 ⟨rfl, hb3⟩; obtain ⟨y0, y1, -, -⟩ := two_cells ((hb3.block _ s1).trans HX1.out); have HB3 := Lib.hid (HB1.out.trans (hb3.mono HB1.out.size)); clear hb3)
          | (go_at_call 87; refine (HCY.out _ HB3.out).mono ?_; rintro e w4 ⟨rfl, hb4⟩))
        go_ret2
        exact ⟨rfl, HB3.out.trans (hb4.mono HB3.out.size)⟩

set_option maxHeartbeats 1600000 in
theorem implSh_far (n : Int) (b off cap : Nat) (zs : List Int) (x y : Int) (w : World) (hb : b < w.heap.size) (hc : Cells w b off zs) (hg : isG n zs = true) (hx : okP n x y = false) (hl : zs.length ≤ 9223372036854775807) (hT : Tab w) :
    Calls Tryd.prog 34 #[.agg #[.int .i64 n, .slice (some ⟨b, off, none⟩) zs.length cap], .int .i64 x, .int .i64 y] w fun e w' => e = .returned (.tuple #[.int .i64 0, .int .i64 2]) ∧ Below w.heap.size w w' := by
  have D0 : Below w.heap.size w ((w.alloc (.cells #[.int .i64 n, .slice (some ⟨b, off, none⟩) zs.length cap] 26)).alloc (.cells #[.int .i64 x, .int .i64 y] 2)) := ((Below.refl _ _).alloc (Nat.le_refl _) _).alloc (by simp) _
  have hx1 := two_new9 (w.alloc (.cells #[.int .i64 n, .slice (some ⟨b, off, none⟩) zs.length cap] 26)) x y
  rw [World.size_alloc] at hx1
  have hv := chk_some n b off cap zs (w.heap.size + 1) 0 2 [x, y] _ (Nat.lt_of_lt_of_le hb D0.size) (hc.below D0 hb) (by simp) hx1 hg hl (by simp) (hT.belowAll D0)
  rw [vc_no (by rw [show [x, y].length = 2 from rfl, vs_two]; exact hx)] at hv
  clear hc hg hx1 hx hT
  go_enter Tryd.func34, Tryd.ntmps34
  go_wp2_with fail
  refine hv.mono ?_
  rintro e w1 ⟨rfl, hb1⟩
  have D1 := D0.trans (hb1.mono (by simp; omega))
  clear hb1 hv
  go_wp2
  go_ret2
  exact ⟨rfl, D1⟩

set_option maxHeartbeats 1600000 in
theorem implSh_no (n : Int) (v : Value) (zs : List Int) (x y : Int) (w : World) (h : Sl w v zs) (hg : isG n zs = false) (hl : zs.length ≤ 9223372036854775807) (hT : Tab w) :
    Calls Tryd.prog 34 #[.agg #[.int .i64 n, v], .int .i64 x, .int .i64 y] w fun e w' => e = .returned (.tuple #[.int .i64 0, .int .i64 1]) ∧ Below w.heap.size w w' := by
  have D0 : Below w.heap.size w ((w.alloc (.cells #[.int .i64 n, v] 26)).alloc (.cells #[.int .i64 x, .int .i64 y] 2)) := ((Below.refl _ _).alloc (Nat.le_refl _) _).alloc (by simp) _
  have hv := fun u => chk_no n v u zs _ (h.below D0) hg hl (hT.belowAll D0)
  clear h hg hT
  go_enter Tryd.func34, Tryd.ntmps34
  go_wp2_with fail
  refine (hv _).mono ?_
  rintro e w1 ⟨rfl, hb1⟩
  have D1 := D0.trans (hb1.mono (by simp; omega))
  clear hb1 hv
  go_wp2
  go_ret2
  exact ⟨rfl, D1⟩

set_option maxHeartbeats 1600000 in
theorem specSh_far (n : Int) (b off cap : Nat) (zs : List Int) (x y : Int) (w : World) (hb : b < w.heap.size) (hc : Cells w b off zs) (hg : isG n zs = true) (hx : okP n x y = false) (hl : zs.length ≤ 9223372036854775807) :
    Calls Tryd.prog 33 #[.agg #[.int .i64 n, .slice (some ⟨b, off, none⟩) zs.length cap], .int .i64 x, .int .i64 y] w fun e w' => e = .returned (.tuple #[.int .i64 0, .int .i64 2]) ∧ Below w.heap.size w w' := by
  have D0 : Below w.heap.size w ((w.alloc (.cells #[.int .i64 n, .slice (some ⟨b, off, none⟩) zs.length cap] 26)).alloc (.cells #[.int .i64 x, .int .i64 y] 2)) := ((Below.refl _ _).alloc (Nat.le_refl _) _).alloc (by simp) _
  have hx1 := two_new9 (w.alloc (.cells #[.int .i64 n, .slice (some ⟨b, off, none⟩) zs.length cap] 26)) x y
  rw [World.size_alloc] at hx1
  have hv := code2_some n b off cap zs (w.heap.size + 1) 0 2 [x, y] _ (Nat.lt_of_lt_of_le hb D0.size) (hc.below D0 hb) (by simp) hx1 hg hl (by simp)
  rw [vc_no (by rw [show [x, y].length = 2 from rfl, vs_two]; exact hx)] at hv
  clear hc hg hx1 hx
  go_enter Tryd.func33, Tryd.ntmps33
  go_wp2_with fail
  refine hv.mono ?_
  rintro e w1 ⟨rfl, hb1⟩
  have D1 := D0.trans (hb1.mono (by simp; omega))
  clear hb1 hv
  go_wp2
  go_ret2
  exact ⟨rfl, D1⟩

set_option maxHeartbeats 1600000 in
theorem specSh_no (n : Int) (v : Value) (zs : List Int) (x y : Int) (w : World) (h : Sl w v zs) (hg : isG n zs = false) (hl : zs.length ≤ 9223372036854775807) :
    Calls Tryd.prog 33 #[.agg #[.int .i64 n, v], .int .i64 x, .int .i64 y] w fun e w' => e = .returned (.tuple #[.int .i64 0, .int .i64 1]) ∧ Below w.heap.size w w' := by
  have D0 : Below w.heap.size w ((w.alloc (.cells #[.int .i64 n, v] 26)).alloc (.cells #[.int .i64 x, .int .i64 y] 2)) := ((Below.refl _ _).alloc (Nat.le_refl _) _).alloc (by simp) _
  have hv := fun u => code2_no n v u zs _ (h.below D0) hg hl
  clear h hg
  go_enter Tryd.func33, Tryd.ntmps33
  go_wp2_with fail
  refine (hv _).mono ?_
  rintro e w1 ⟨rfl, hb1⟩
  have D1 := D0.trans (hb1.mono (by simp; omega))
  clear hb1 hv
  go_wp2
  go_ret2
  exact ⟨rfl, D1⟩

theorem implSh_any (n : Int) (v : Value) (zs : List Int) (x y : Int) (w : World) (h : Sl w v zs) (hl : zs.length ≤ 9223372036854775807) (hT : Tab w) :
    Calls Tryd.prog 34 #[.agg #[.int .i64 n, v], .int .i64 x, .int .i64 y] w fun e w' => e = .returned (.tuple #[.int .i64 (shD n zs x y), .int .i64 (shE n zs x y)]) ∧ Below w.heap.size w w' := by
  unfold shD shE
  cases hg : isG n zs with
  | false => exact implSh_no n v zs x y w h hg hl hT
  | true =>
    obtain ⟨h1, _, h3, _⟩ := isG_parts hg
    obtain ⟨b, off, cap, rfl, hb, hc⟩ := sl_some h (by omega)
    cases hx : okP n x y with
    | false => exact implSh_far n b off cap zs x y w hb hc hg hx hl hT
    | true =>
      obtain rfl : (zs.length : Int) = n := h3
      have hx2 := of_decide_eq_true hx
      obtain ⟨k, rfl⟩ := Int.eq_ofNat_of_zero_le hx2.1
      obtain ⟨m, rfl⟩ := Int.eq_ofNat_of_zero_le hx2.2.2.1
      rw [if_pos rfl, if_pos rfl, if_pos rfl, if_pos rfl, Int.toNat_natCast, Int.toNat_natCast]
      exact implSh_yes b off cap zs k m w hb hc hg (by omega) (by omega) hT

theorem specSh_any (n : Int) (v : Value) (zs : List Int) (x y : Int) (w : World) (h : Sl w v zs) (hl : zs.length ≤ 9223372036854775807) :
    Calls Tryd.prog 33 #[.agg #[.int .i64 n, v], .int .i64 x, .int .i64 y] w fun e w' => e = .returned (.tuple #[.int .i64 (shD n zs x y), .int .i64 (shE n zs x y)]) ∧ Below w.heap.size w w' := by
  unfold shD shE
  cases hg : isG n zs with
  | false => exact specSh_no n v zs x y w h hg hl
  | true =>
    obtain ⟨h1, _, h3, _⟩ := isG_parts hg
    obtain ⟨b, off, cap, rfl, hb, hc⟩ := sl_some h (by omega)
    cases hx : okP n x y with
    | false => exact specSh_far n b off cap zs x y w hb hc hg hx hl
    | true =>
      obtain rfl : (zs.length : Int) = n := h3
      have hx2 := of_decide_eq_true hx
      obtain ⟨k, rfl⟩ := Int.eq_ofNat_of_zero_le hx2.1
      obtain ⟨m, rfl⟩ := Int.eq_ofNat_of_zero_le hx2.2.2.1
      rw [if_pos rfl, if_pos rfl, if_pos rfl, if_pos rfl, Int.toNat_natCast, Int.toNat_natCast]
      exact specSh_yes b off cap zs k m w hb hc hg (by omega) (by omega)
end Go.Proofs.YtabkfihhfkmioaaDoor
