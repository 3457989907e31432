/-
  spec.PutEdge, TakeEdge: what they return.
-/
import Derived.Test.YtkgnebjpcmblfaaDoorPe5
namespace Go.Proofs.YtkgnebjpcmblfaaDoor
open Go.RowKit

def inE (n x y : Int) : Bool := decide (0 ≤ x ∧ x ≤ n - 1 ∧ 0 ≤ y ∧ y ≤ n - 1 ∧ x ≠ y)
def TCc (n : Int) (zs : List Int) (x y : Int) : Int := if isG n zs then (if inE n x y then 0 else 2) else 1
def okE (s : Bool) (n : Int) (zs : List Int) (x y : Int) : Bool := isG n zs && inE n x y && (bt (el zs x.toNat) y.toNat == s)
def EN (s : Bool) (n : Int) (zs : List Int) (x y : Int) : Int := if okE s n zs x y then n else 0
def EL (s : Bool) (n : Int) (zs : List Int) (x y : Int) : List Int := if okE s n zs x y then flipL zs x.toNat y.toNat else []
def EC (s : Bool) (n : Int) (zs : List Int) (x y : Int) : Int := if TCc n zs x y = 0 then (if bt (el zs x.toNat) y.toNat == s then 0 else 5) else TCc n zs x y
theorem EL_length (s : Bool) (n : Int) (zs : List Int) (x y : Int) : (EL s n zs x y).length ≤ zs.length := by unfold EL; split <;> simp [flipL_length]

theorem vs_two (n x y : Int) : vsOk n [x, y] 2 = decide (0 ≤ x ∧ x ≤ n - 1 ∧ 0 ≤ y ∧ y ≤ n - 1) := by
  rw [vsOk_succ, vsOk_succ, vsOk_zero]
  simp [el, Bool.and_assoc]

theorem two_any (n : Int) (v : Value) (zs : List Int) (x y : Int) (w : World) (h : Sl w v zs) (hl : zs.length ≤ 9223372036854775807) :
    Calls Tryd.prog 60 #[.agg #[.int .i64 n, v], .int .i64 x, .int .i64 y] w fun e w' => e = .returned (.int .i64 (TCc n zs x y)) ∧ Below w.heap.size w w' := by
  cases hg : isG n zs
  · rw [show TCc n zs x y = 1 by simp [TCc, hg]]
    exact two_of v n x y 1 1 w (fun W hb _ _ _ => verts_no n v _ zs W (h.below hb) hg hl) (.inr (.inr ⟨by decide, rfl⟩))
  · obtain ⟨h1, _, h3, _⟩ := isG_parts hg
    obtain ⟨b, off, cap, rfl, hb, hc⟩ := sl_some h (by omega)
    refine two_of _ n x y (vc n [x, y]) _ w (fun W hW k hk hcl => verts_some n b off cap zs k 0 2 [x, y] W (Nat.lt_of_lt_of_le hb hW.size) (hc.below hW hb) hk hcl hg hl (by simp)) ?_
    by_cases hin : 0 ≤ x ∧ x ≤ n - 1 ∧ 0 ≤ y ∧ y ≤ n - 1
    · have hv : vc n [x, y] = 0 := vc_yes (by rw [show [x, y].length = 2 from rfl, vs_two]; simpa using hin)
      by_cases hxy : x = y
      · exact .inl ⟨hv, hxy, by simp [TCc, hg, inE, hxy]⟩
      · refine .inr (.inl ⟨hv, hxy, ?_⟩)
        have : inE n x y = true := by unfold inE; simp [hxy]; omega
        simp [TCc, hg, this]
    · have hv : vc n [x, y] = 2 := vc_no (by rw [show [x, y].length = 2 from rfl, vs_two]; simpa using hin)
      refine .inr (.inr ⟨by rw [hv]; decide, ?_⟩)
      have : inE n x y = false := by unfold inE; simp; omega
      simp [TCc, hg, this, hv]
theorem TCc_parts {n : Int} {zs : List Int} {x y : Int} (h : TCc n zs x y = 0) : isG n zs = true ∧ 0 ≤ x ∧ x ≤ n - 1 ∧ 0 ≤ y ∧ y ≤ n - 1 ∧ x ≠ y := by
  unfold TCc at h
  split at h
  · rename_i hg
    split at h
    · rename_i hi
      unfold inE at hi
      exact ⟨hg, by simpa using hi⟩
    · cases h
  · cases h
theorem okE_of {s : Bool} {n : Int} {zs : List Int} {x y : Int} : okE s n zs x y = (decide (TCc n zs x y = 0) && (bt (el zs x.toNat) y.toNat == s)) := by
  unfold okE TCc
  cases isG n zs <;> cases inE n x y <;> simp

set_option maxHeartbeats 1600000 in
theorem specPutEdge_code (n : Int) (v : Value) (zs : List Int) (x y : Int) (w : World) (h : Sl w v zs) (hl : zs.length ≤ 9223372036854775807) (hc : TCc n zs x y ≠ 0) :
    Calls Tryd.prog 29 #[.agg #[.int .i64 n, v], .int .i64 x, .int .i64 y] w fun e w' => GRes w.heap.size 0 [] (TCc n zs x y) e w' ∧ Below w.heap.size w w' := by
  have D0 : Below w.heap.size w ((w.alloc (.cells #[.int .i64 n, v] 28)).alloc (.cells #[.int .i64 0, .slice none 0 0] 28)) := ((Below.refl _ _).alloc (Nat.le_refl _) _).alloc (by simp) _
  have htw := two_any n v zs x y _ (h.below D0) hl
  simp only [World.size_alloc] at htw
  have HH1 := Lib.hid (heap_new_at (w.alloc (.cells #[.int .i64 n, v] 28)) (.cells #[.int .i64 0, .slice none 0 0] 28) (w.heap.size + 1) (by simp))
  generalize TCc n zs x y = c at htw hc ⊢
  have hc' : (c == 0) = false := by simpa using hc
  clear h
  go_enter Tryd.func29, Tryd.ntmps29
  go_wp2_with (go_at_call 60; refine htw.mono ?_; rintro e w1 ⟨rfl, hb1⟩; have RB := Lib.hid ((hb1.block (w.heap.size + 1) (by omega)).trans HH1.out); obtain ⟨r0, r1, g0, g1⟩ := two_cells RB.out)
  have hfin := two_set (a := .int .i64 0) (b := .slice none 0 0) RB.out
  refine bodyPost_ret (v := .tuple #[.agg #[.int .i64 0, .slice none 0 0], .int .i64 c]) (results_cell2 (p := 6) (u := 7) (ty := 28) rfl _ _ (w.heap.size + 1) 28 _ (0, 0) _ rfl hfin Tryd.underlying28 rfl (by exact info27)) rfl ⟨⟨_, rfl, Own.nil _ _⟩, ?_⟩
  exact ((D0.trans (hb1.mono (by omega))).setCell (p := ⟨w.heap.size + 1, 0, none⟩) (by simp) _).setCell (p := ⟨w.heap.size + 1, 1, none⟩) (by simp) _

set_option maxHeartbeats 1600000 in
theorem specPutEdge_state (n : Int) (b off cap : Nat) (zs : List Int) (x y : Nat) (w : World) (hb : b < w.heap.size) (hcc : Cells w b off zs) (hl : zs.length ≤ 9223372036854775807) (hc : TCc n zs x y = 0) (hbt : bt (el zs x) y = true) :
    Calls Tryd.prog 29 #[.agg #[.int .i64 n, .slice (some ⟨b, off, none⟩) zs.length cap], .int .i64 x, .int .i64 y] w fun e w' => GRes w.heap.size 0 [] 5 e w' ∧ Below w.heap.size w w' := by
  obtain ⟨hg, p1, p2, p3, p4, p5⟩ := TCc_parts hc
  obtain ⟨h1a, h1b, h3, -, -⟩ := isG_parts hg
  have HZ := Lib.hid (isG_row_ok hg)
  have D0 : Below w.heap.size w ((w.alloc (.cells #[.int .i64 n, .slice (some ⟨b, off, none⟩) zs.length cap] 28)).alloc (.cells #[.int .i64 0, .slice none 0 0] 28)) := ((Below.refl _ _).alloc (Nat.le_refl _) _).alloc (by simp) _
  have htw := two_any n (.slice (some ⟨b, off, none⟩) zs.length cap) zs x y _ (Sl.below (.inr ⟨b, off, cap, rfl, hb, hcc⟩) D0) hl
  rw [hc] at htw
  simp only [World.size_alloc] at htw
  have HG0 := Lib.hid (GBox.new (n := n) (cap := cap) hb hcc)
  have HH1 := Lib.hid (heap_new_at (w.alloc (.cells #[.int .i64 n, .slice (some ⟨b, off, none⟩) zs.length cap] 28)) (.cells #[.int .i64 0, .slice none 0 0] 28) (w.heap.size + 1) (by simp))
  have hx : x < zs.length := by omega
  have hx0 : (0 : Int) ≤ x := by omega
  have hxm : (x : Int) < zs.length := by omega
  have hy0 : (0 : Int) ≤ y := by omega
  have hym : (y : Int) < 62 := by omega
  have HBT : Hid (bt (el zs x) (y : Int).toNat = true) := by show _ = _; simpa using hbt
  clear hcc hg hc hbt p1 p2 p3 p4 p5 h3
  go_enter Tryd.func29, Tryd.ntmps29
  have G1 := HG0.out.below ((Below.refl (w.heap.size + 1) _).alloc (by simp) (.cells #[.int .i64 0, .slice none 0 0] 28))
  have b0 := G1.b0
  have b1 := G1.b1
  go_wp2_with (first | (go_at_call 60; refine htw.mono ?_; rintro e w1 ⟨rfl, hb1⟩; have G2 := G1.below (hb1.mono (by omega)); have b0 := G2.b0; have b1 := G2.b1) | (go_at_call 61; refine (has_any n b off zs.length cap (el zs x) x y w1 G2.lb (G2.cells x hx) hx0 hxm hy0 hym (HZ.out x hx).1 (HZ.out x hx).2 true HBT.out).mono ?_; rintro e w2 ⟨rfl, hb2⟩; have hb2' := hb1.trans (hb2.mono (by have := hb1.size; simpa using this)); have RB := Lib.hid ((hb2'.block (w.heap.size + 1) (by omega)).trans HH1.out); obtain ⟨r0, r1, g0, g1⟩ := two_cells RB.out))
  have hfin := two_set (a := .int .i64 0) (b := .slice none 0 0) RB.out
  refine bodyPost_ret (v := .tuple #[.agg #[.int .i64 0, .slice none 0 0], .int .i64 5]) (results_cell2 (p := 6) (u := 7) (ty := 28) rfl _ _ (w.heap.size + 1) 28 _ (0, 0) _ rfl hfin Tryd.underlying28 rfl (by exact info27)) rfl ⟨⟨_, rfl, Own.nil _ _⟩, ?_⟩
  exact ((D0.trans (hb2'.mono (by omega))).setCell (p := ⟨w.heap.size + 1, 0, none⟩) (by simp) _).setCell (p := ⟨w.heap.size + 1, 1, none⟩) (by simp) _

set_option maxHeartbeats 1600000 in
theorem specPutEdge_yes (n : Int) (b off cap : Nat) (zs : List Int) (x y : Nat) (w : World) (hb : b < w.heap.size) (hcc : Cells w b off zs) (hl : zs.length ≤ 9223372036854775807) (hc : TCc n zs x y = 0) (hbt : bt (el zs x) y = false) :
    Calls Tryd.prog 29 #[.agg #[.int .i64 n, .slice (some ⟨b, off, none⟩) zs.length cap], .int .i64 x, .int .i64 y] w fun e w' => GRes w.heap.size n (flipL zs x y) 0 e w' ∧ Below w.heap.size w w' := by
  obtain ⟨hg, p1, p2, p3, p4, p5⟩ := TCc_parts hc
  obtain ⟨h1a, h1b, h3, h4, -⟩ := isG_parts hg
  have HZ := Lib.hid (isG_row_ok hg)
  have hx : x < zs.length := by omega
  have hy : y < zs.length := by omega
  have hxy : x ≠ y := fun e => p5 (by rw [e])
  have hz : ∀ i, i < zs.length → 0 ≤ el zs i ∧ el zs i ≤ 2 ^ zs.length - 1 := by
    intro i hi
    have hr := rowsOk_at h4 hi
    have a := rowOk_le hr
    rw [show n.toNat = zs.length by omega] at a
    exact ⟨rowOk_ge hr, a⟩
  have D0 : Below w.heap.size w ((w.alloc (.cells #[.int .i64 n, .slice (some ⟨b, off, none⟩) zs.length cap] 28)).alloc (.cells #[.int .i64 0, .slice none 0 0] 28)) := ((Below.refl _ _).alloc (Nat.le_refl _) _).alloc (by simp) _
  have htw := two_any n (.slice (some ⟨b, off, none⟩) zs.length cap) zs x y _ (Sl.below (.inr ⟨b, off, cap, rfl, hb, hcc⟩) D0) hl
  rw [hc] at htw
  simp only [World.size_alloc] at htw
  have HG0 := Lib.hid (GBox.new (n := n) (cap := cap) hb hcc)
  have HH1 := Lib.hid (heap_new_at (w.alloc (.cells #[.int .i64 n, .slice (some ⟨b, off, none⟩) zs.length cap] 28)) (.cells #[.int .i64 0, .slice none 0 0] 28) (w.heap.size + 1) (by simp))
  have hfl : putL zs x y = flipL zs x y := putL_flip hxy hbt (by rw [isG_symm hg hx hy]; exact hbt)
  have HFL := Lib.hid hfl
  have HX := Lib.hid hz
  have HXY := Lib.hid hxy
  have hx0 : (0 : Int) ≤ x := by omega
  have hxm : (x : Int) < zs.length := by omega
  have hy0 : (0 : Int) ≤ y := by omega
  have hym : (y : Int) < 62 := by omega
  have hl62 : zs.length ≤ 62 := by omega
  have HBT : Hid (bt (el zs x) (y : Int).toNat = false) := by show _ = _; simpa using hbt
  clear hcc hg hc hbt p1 p2 p3 p4 p5 h3 hfl hz h4 hxy
  go_enter Tryd.func29, Tryd.ntmps29
  have G1 := HG0.out.below ((Below.refl (w.heap.size + 1) _).alloc (by simp) (.cells #[.int .i64 0, .slice none 0 0] 28))
  have b0 := G1.b0
  have b1 := G1.b1
  go_wp2_with (first | (go_at_call 60; refine htw.mono ?_; rintro e w1 ⟨rfl, hb1⟩; have G2 := G1.below (hb1.mono (by omega)); have b0 := G2.b0; have b1 := G2.b1) | (go_at_call 61; refine (has_any n b off zs.length cap (el zs x) x y w1 G2.lb (G2.cells x hx) hx0 hxm hy0 hym (HZ.out x hx).1 (HZ.out x hx).2 false HBT.out).mono ?_; rintro e w2 ⟨rfl, hb2⟩; have G3 := G2.below (hb2.mono G2.lt); have b0 := G3.b0; have b1 := G3.b1))
  refine (l01Join_some n b off cap zs.length zs x y w2 rfl G3.lb G3.cells hx hy hl62 HX.out).mono ?_
  rintro e w3 ⟨u, rfl, hO, hb3⟩
  obtain ⟨g, cu, rfl, hg0, hg1⟩ := own_some hO (m := zs.length) (by rw [HFL.out]; exact flipL_length _ _ _) (by omega)
  have s1 : w.heap.size + 1 + 1 ≤ w1.heap.size := by have := hb1.size; simpa using this
  have s2 := hb2.size
  have RB := Lib.hid ((hb3.block (w.heap.size + 1) (by omega)).trans ((hb2.block (w.heap.size + 1) (by omega)).trans ((hb1.block (w.heap.size + 1) (by omega)).trans HH1.out)))
  obtain ⟨r0, r1, g0, g1⟩ := two_cells RB.out
  have D3 := D0.trans ((hb1.mono (by omega)).trans ((hb2.mono (by omega)).trans (hb3.mono (by omega))))
  rw [HFL.out] at hO
  have HO := Lib.hid hO
  clear hb1 hb2 hb3 hO htw G1 G2 G3 b0 b1
  go_wp2
  have hfin := two_set (a := .int .i64 n) (b := .slice (some ⟨g, 0, none⟩) zs.length cu) RB.out
  have hgr : w3.grownBy ((w3.setCell ⟨w.heap.size + 1, 0, none⟩ (.int .i64 n)).setCell ⟨w.heap.size + 1, 1, none⟩ (.slice (some ⟨g, 0, none⟩) zs.length cu)) (some (w.heap.size + 1)) := grown_set (grown_set ⟨rfl, rfl, rfl, Nat.le_refl _, fun _ _ _ => rfl⟩ _ 0 _) _ 1 _
  refine bodyPost_ret (v := .tuple #[.agg #[.int .i64 n, .slice (some ⟨g, 0, none⟩) zs.length cu], .int .i64 0]) (results_cell2 (p := 6) (u := 7) (ty := 28) rfl _ _ (w.heap.size + 1) 28 _ (0, 0) _ rfl hfin Tryd.underlying28 rfl (by exact info27)) rfl ⟨⟨_, rfl, ?_⟩, ?_⟩
  · exact (HO.out.kept hgr (.inr (by simp [Value.ownBlock]; omega))).base (by omega)
  · exact (D3.setCell (p := ⟨w.heap.size + 1, 0, none⟩) (by simp) _).setCell (p := ⟨w.heap.size + 1, 1, none⟩) (by simp) _

theorem specPutEdge_any (n : Int) (v : Value) (zs : List Int) (x y : Int) (w : World) (h : Sl w v zs) (hl : zs.length ≤ 9223372036854775807) :
    Calls Tryd.prog 29 #[.agg #[.int .i64 n, v], .int .i64 x, .int .i64 y] w fun e w' => GRes w.heap.size (EN false n zs x y) (EL false n zs x y) (EC false n zs x y) e w' ∧ Below w.heap.size w w' := by
  by_cases hc : TCc n zs x y = 0
  · obtain ⟨hg, p1, p2, p3, p4, p5⟩ := TCc_parts hc
    obtain ⟨h1, _, h3, _⟩ := isG_parts hg
    obtain ⟨b, off, cap, rfl, hb, hcc⟩ := sl_some h (by omega)
    obtain ⟨x, rfl⟩ := Int.eq_ofNat_of_zero_le p1
    obtain ⟨y, rfl⟩ := Int.eq_ofNat_of_zero_le p3
    cases hbt : bt (el zs x) y
    · have ho : okE false n zs x y = true := by rw [okE_of]; simp [hc, hbt]
      rw [show EL false n zs x y = flipL zs x y by simp [EL, ho], show EN false n zs x y = n by simp [EN, ho], show EC false n zs x y = 0 by simp [EC, hc, hbt]]
      exact specPutEdge_yes n b off cap zs x y w hb hcc hl hc hbt
    · have ho : okE false n zs x y = false := by rw [okE_of]; simp [hbt]
      rw [show EL false n zs x y = [] by simp [EL, ho], show EN false n zs x y = 0 by simp [EN, ho], show EC false n zs x y = 5 by simp [EC, hc, hbt]]
      exact specPutEdge_state n b off cap zs x y w hb hcc hl hc hbt
  · have ho : okE false n zs x y = false := by rw [okE_of]; simp [hc]
    rw [show EL false n zs x y = [] by simp [EL, ho], show EN false n zs x y = 0 by simp [EN, ho], show EC false n zs x y = TCc n zs x y by simp [EC, hc]]
    exact specPutEdge_code n v zs x y w h hl hc

set_option maxHeartbeats 1600000 in
theorem specTakeEdge_code (n : Int) (v : Value) (zs : List Int) (x y : Int) (w : World) (h : Sl w v zs) (hl : zs.length ≤ 9223372036854775807) (hc : TCc n zs x y ≠ 0) :
    Calls Tryd.prog 31 #[.agg #[.int .i64 n, v], .int .i64 x, .int .i64 y] w fun e w' => GRes w.heap.size 0 [] (TCc n zs x y) e w' ∧ Below w.heap.size w w' := by
  have D0 : Below w.heap.size w ((w.alloc (.cells #[.int .i64 n, v] 28)).alloc (.cells #[.int .i64 0, .slice none 0 0] 28)) := ((Below.refl _ _).alloc (Nat.le_refl _) _).alloc (by simp) _
  have htw := two_any n v zs x y _ (h.below D0) hl
  simp only [World.size_alloc] at htw
  have HH1 := Lib.hid (heap_new_at (w.alloc (.cells #[.int .i64 n, v] 28)) (.cells #[.int .i64 0, .slice none 0 0] 28) (w.heap.size + 1) (by simp))
  generalize TCc n zs x y = c at htw hc ⊢
  have hc' : (c == 0) = false := by simpa using hc
  clear h
  go_enter Tryd.func31, Tryd.ntmps31
  go_wp2_with (go_at_call 60; refine htw.mono ?_; rintro e w1 ⟨rfl, hb1⟩; have RB := Lib.hid ((hb1.block (w.heap.size + 1) (by omega)).trans HH1.out); obtain ⟨r0, r1, g0, g1⟩ := two_cells RB.out)
  have hfin := two_set (a := .int .i64 0) (b := .slice none 0 0) RB.out
  refine bodyPost_ret (v := .tuple #[.agg #[.int .i64 0, .slice none 0 0], .int .i64 c]) (results_cell2 (p := 6) (u := 7) (ty := 28) rfl _ _ (w.heap.size + 1) 28 _ (0, 0) _ rfl hfin Tryd.underlying28 rfl (by exact info27)) rfl ⟨⟨_, rfl, Own.nil _ _⟩, ?_⟩
  exact ((D0.trans (hb1.mono (by omega))).setCell (p := ⟨w.heap.size + 1, 0, none⟩) (by simp) _).setCell (p := ⟨w.heap.size + 1, 1, none⟩) (by simp) _

set_option maxHeartbeats 1600000 in
theorem specTakeEdge_state (n : Int) (b off cap : Nat) (zs : List Int) (x y : Nat) (w : World) (hb : b < w.heap.size) (hcc : Cells w b off zs) (hl : zs.length ≤ 9223372036854775807) (hc : TCc n zs x y = 0) (hbt : bt (el zs x) y = false) :
    Calls Tryd.prog 31 #[.agg #[.int .i64 n, .slice (some ⟨b, off, none⟩) zs.length cap], .int .i64 x, .int .i64 y] w fun e w' => GRes w.heap.size 0 [] 5 e w' ∧ Below w.heap.size w w' := by
  obtain ⟨hg, p1, p2, p3, p4, p5⟩ := TCc_parts hc
  obtain ⟨h1a, h1b, h3, -, -⟩ := isG_parts hg
  have HZ := Lib.hid (isG_row_ok hg)
  have D0 : Below w.heap.size w ((w.alloc (.cells #[.int .i64 n, .slice (some ⟨b, off, none⟩) zs.length cap] 28)).alloc (.cells #[.int .i64 0, .slice none 0 0] 28)) := ((Below.refl _ _).alloc (Nat.le_refl _) _).alloc (by simp) _
  have htw := two_any n (.slice (some ⟨b, off, none⟩) zs.length cap) zs x y _ (Sl.below (.inr ⟨b, off, cap, rfl, hb, hcc⟩) D0) hl
  rw [hc] at htw
  simp only [World.size_alloc] at htw
  have HG0 := Lib.hid (GBox.new (n := n) (cap := cap) hb hcc)
  have HH1 := Lib.hid (heap_new_at (w.alloc (.cells #[.int .i64 n, .slice (some ⟨b, off, none⟩) zs.length cap] 28)) (.cells #[.int .i64 0, .slice none 0 0] 28) (w.heap.size + 1) (by simp))
  have hx : x < zs.length := by omega
  have hx0 : (0 : Int) ≤ x := by omega
  have hxm : (x : Int) < zs.length := by omega
  have hy0 : (0 : Int) ≤ y := by omega
  have hym : (y : Int) < 62 := by omega
  have HBT : Hid (bt (el zs x) (y : Int).toNat = false) := by show _ = _; simpa using hbt
  clear hcc hg hc hbt p1 p2 p3 p4 p5 h3
  go_enter Tryd.func31, Tryd.ntmps31
  have G1 := HG0.out.below ((Below.refl (w.heap.size + 1) _).alloc (by simp) (.cells #[.int .i64 0, .slice none 0 0] 28))
  have b0 := G1.b0
  have b1 := G1.b1
  go_wp2_with (first | (go_at_call 60; refine htw.mono ?_; rintro e w1 ⟨rfl, hb1⟩; have G2 := G1.below (hb1.mono (by omega)); have b0 := G2.b0; have b1 := G2.b1) | (go_at_call 61; refine (has_any n b off zs.length cap (el zs x) x y w1 G2.lb (G2.cells x hx) hx0 hxm hy0 hym (HZ.out x hx).1 (HZ.out x hx).2 false HBT.out).mono ?_; rintro e w2 ⟨rfl, hb2⟩; have hb2' := hb1.trans (hb2.mono (by have := hb1.size; simpa using this)); have RB := Lib.hid ((hb2'.block (w.heap.size + 1) (by omega)).trans HH1.out); obtain ⟨r0, r1, g0, g1⟩ := two_cells RB.out))
  have hfin := two_set (a := .int .i64 0) (b := .slice none 0 0) RB.out
  refine bodyPost_ret (v := .tuple #[.agg #[.int .i64 0, .slice none 0 0], .int .i64 5]) (results_cell2 (p := 6) (u := 7) (ty := 28) rfl _ _ (w.heap.size + 1) 28 _ (0, 0) _ rfl hfin Tryd.underlying28 rfl (by exact info27)) rfl ⟨⟨_, rfl, Own.nil _ _⟩, ?_⟩
  exact ((D0.trans (hb2'.mono (by omega))).setCell (p := ⟨w.heap.size + 1, 0, none⟩) (by simp) _).setCell (p := ⟨w.heap.size + 1, 1, none⟩) (by simp) _

set_option maxHeartbeats 1600000 in
theorem specTakeEdge_yes (n : Int) (b off cap : Nat) (zs : List Int) (x y : Nat) (w : World) (hb : b < w.heap.size) (hcc : Cells w b off zs) (hl : zs.length ≤ 9223372036854775807) (hc : TCc n zs x y = 0) (hbt : bt (el zs x) y = true) :
    Calls Tryd.prog 31 #[.agg #[.int .i64 n, .slice (some ⟨b, off, none⟩) zs.length cap], .int .i64 x, .int .i64 y] w fun e w' => GRes w.heap.size n (flipL zs x y) 0 e w' ∧ Below w.heap.size w w' := by
  obtain ⟨hg, p1, p2, p3, p4, p5⟩ := TCc_parts hc
  obtain ⟨h1a, h1b, h3, h4, -⟩ := isG_parts hg
  have HZ := Lib.hid (isG_row_ok hg)
  have hx : x < zs.length := by omega
  have hy : y < zs.length := by omega
  have hxy : x ≠ y := fun e => p5 (by rw [e])
  have hz : ∀ i, i < zs.length → 0 ≤ el zs i ∧ el zs i ≤ 2 ^ zs.length - 1 := by
    intro i hi
    have hr := rowsOk_at h4 hi
    have a := rowOk_le hr
    rw [show n.toNat = zs.length by omega] at a
    exact ⟨rowOk_ge hr, a⟩
  have D0 : Below w.heap.size w ((w.alloc (.cells #[.int .i64 n, .slice (some ⟨b, off, none⟩) zs.length cap] 28)).alloc (.cells #[.int .i64 0, .slice none 0 0] 28)) := ((Below.refl _ _).alloc (Nat.le_refl _) _).alloc (by simp) _
  have htw := two_any n (.slice (some ⟨b, off, none⟩) zs.length cap) zs x y _ (Sl.below (.inr ⟨b, off, cap, rfl, hb, hcc⟩) D0) hl
  rw [hc] at htw
  simp only [World.size_alloc] at htw
  have HG0 := Lib.hid (GBox.new (n := n) (cap := cap) hb hcc)
  have HH1 := Lib.hid (heap_new_at (w.alloc (.cells #[.int .i64 n, .slice (some ⟨b, off, none⟩) zs.length cap] 28)) (.cells #[.int .i64 0, .slice none 0 0] 28) (w.heap.size + 1) (by simp))
  have hfl : cutL zs x y = flipL zs x y := cutL_flip hxy (HZ.out x hx) (HZ.out y hy) (by omega) (by omega) hbt (by rw [isG_symm hg hx hy]; exact hbt)
  have HFL := Lib.hid hfl
  have HX := Lib.hid hz
  have HXY := Lib.hid hxy
  have hx0 : (0 : Int) ≤ x := by omega
  have hxm : (x : Int) < zs.length := by omega
  have hy0 : (0 : Int) ≤ y := by omega
  have hym : (y : Int) < 62 := by omega
  have hl62 : zs.length ≤ 62 := by omega
  have HBT : Hid (bt (el zs x) (y : Int).toNat = true) := by show _ = _; simpa using hbt
  clear hcc hg hc hbt p1 p2 p3 p4 p5 h3 hfl hz h4 hxy
  go_enter Tryd.func31, Tryd.ntmps31
  have G1 := HG0.out.below ((Below.refl (w.heap.size + 1) _).alloc (by simp) (.cells #[.int .i64 0, .slice none 0 0] 28))
  have b0 := G1.b0
  have b1 := G1.b1
  go_wp2_with (first | (go_at_call 60; refine htw.mono ?_; rintro e w1 ⟨rfl, hb1⟩; have G2 := G1.below (hb1.mono (by omega)); have b0 := G2.b0; have b1 := G2.b1) | (go_at_call 61; refine (has_any n b off zs.length cap (el zs x) x y w1 G2.lb (G2.cells x hx) hx0 hxm hy0 hym (HZ.out x hx).1 (HZ.out x hx).2 true HBT.out).mono ?_; rintro e w2 ⟨rfl, hb2⟩; have G3 := G2.below (hb2.mono G2.lt); have b0 := G3.b0; have b1 := G3.b1))
  refine (l01Cut_some n b off cap zs.length zs x y w2 rfl G3.lb G3.cells hx hy HXY.out hl62 HX.out).mono ?_
  rintro e w3 ⟨u, rfl, hO, hb3⟩
  obtain ⟨g, cu, rfl, hg0, hg1⟩ := own_some hO (m := zs.length) (by rw [HFL.out]; exact flipL_length _ _ _) (by omega)
  have s1 : w.heap.size + 1 + 1 ≤ w1.heap.size := by have := hb1.size; simpa using this
  have s2 := hb2.size
  have RB := Lib.hid ((hb3.block (w.heap.size + 1) (by omega)).trans ((hb2.block (w.heap.size + 1) (by omega)).trans ((hb1.block (w.heap.size + 1) (by omega)).trans HH1.out)))
  obtain ⟨r0, r1, g0, g1⟩ := two_cells RB.out
  have D3 := D0.trans ((hb1.mono (by omega)).trans ((hb2.mono (by omega)).trans (hb3.mono (by omega))))
  rw [HFL.out] at hO
  have HO := Lib.hid hO
  clear hb1 hb2 hb3 hO htw G1 G2 G3 b0 b1
  go_wp2
  have hfin := two_set (a := .int .i64 n) (b := .slice (some ⟨g, 0, none⟩) zs.length cu) RB.out
  have hgr : w3.grownBy ((w3.setCell ⟨w.heap.size + 1, 0, none⟩ (.int .i64 n)).setCell ⟨w.heap.size + 1, 1, none⟩ (.slice (some ⟨g, 0, none⟩) zs.length cu)) (some (w.heap.size + 1)) := grown_set (grown_set ⟨rfl, rfl, rfl, Nat.le_refl _, fun _ _ _ => rfl⟩ _ 0 _) _ 1 _
  refine bodyPost_ret (v := .tuple #[.agg #[.int .i64 n, .slice (some ⟨g, 0, none⟩) zs.length cu], .int .i64 0]) (results_cell2 (p := 6) (u := 7) (ty := 28) rfl _ _ (w.heap.size + 1) 28 _ (0, 0) _ rfl hfin Tryd.underlying28 rfl (by exact info27)) rfl ⟨⟨_, rfl, ?_⟩, ?_⟩
  · exact (HO.out.kept hgr (.inr (by simp [Value.ownBlock]; omega))).base (by omega)
  · exact (D3.setCell (p := ⟨w.heap.size + 1, 0, none⟩) (by simp) _).setCell (p := ⟨w.heap.size + 1, 1, none⟩) (by simp) _

theorem specTakeEdge_any (n : Int) (v : Value) (zs : List Int) (x y : Int) (w : World) (h : Sl w v zs) (hl : zs.length ≤ 9223372036854775807) :
    Calls Tryd.prog 31 #[.agg #[.int .i64 n, v], .int .i64 x, .int .i64 y] w fun e w' => GRes w.heap.size (EN true n zs x y) (EL true n zs x y) (EC true n zs x y) e w' ∧ Below w.heap.size w w' := by
  by_cases hc : TCc n zs x y = 0
  · obtain ⟨hg, p1, p2, p3, p4, p5⟩ := TCc_parts hc
    obtain ⟨h1, _, h3, _⟩ := isG_parts hg
    obtain ⟨b, off, cap, rfl, hb, hcc⟩ := sl_some h (by omega)
    obtain ⟨x, rfl⟩ := Int.eq_ofNat_of_zero_le p1
    obtain ⟨y, rfl⟩ := Int.eq_ofNat_of_zero_le p3
    cases hbt : bt (el zs x) y
    · have ho : okE true n zs x y = false := by rw [okE_of]; simp [hbt]
      rw [show EL true n zs x y = [] by simp [EL, ho], show EN true n zs x y = 0 by simp [EN, ho], show EC true n zs x y = 5 by simp [EC, hc, hbt]]
      exact specTakeEdge_state n b off cap zs x y w hb hcc hl hc hbt
    · have ho : okE true n zs x y = true := by rw [okE_of]; simp [hc, hbt]
      rw [show EL true n zs x y = flipL zs x y by simp [EL, ho], show EN true n zs x y = n by simp [EN, ho], show EC true n zs x y = 0 by simp [EC, hc, hbt]]
      exact specTakeEdge_yes n b off cap zs x y w hb hcc hl hc hbt
  · have ho : okE true n zs x y = false := by rw [okE_of]; simp [hc]
    rw [show EL true n zs x y = [] by simp [EL, ho], show EN true n zs x y = 0 by simp [EN, ho], show EC true n zs x y = TCc n zs x y by simp [EC, hc]]
    exact specTakeEdge_code n v zs x y w h hl hc
end Go.Proofs.YtkgnebjpcmblfaaDoor
