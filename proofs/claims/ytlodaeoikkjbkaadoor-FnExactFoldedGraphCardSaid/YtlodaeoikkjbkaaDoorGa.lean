/-
  impl.graphAtDistance and impl.GraphAt.
-/
import Derived.Test.YtlodaeoikkjbkaaDoorDr
import Derived.Test.YtlodaeoikkjbkaaDoorSy
import Derived.Test.YtlodaeoikkjbkaaDoorMgA
namespace Go.Proofs.YtlodaeoikkjbkaaDoor
set_option maxRecDepth 100000
set_option maxRecDepth 100000
open Go.RowKit

/-- v and x are at the distance i. -/
def gaF (zs : List Int) (i : Int) (v x : Nat) : Bool := decide (el (dsL zs v) x = i)
/-- The rows of the graph at the distance i. -/
def gaR (zs : List Int) (i : Int) : List Int := rowsF zs.length (adjS (whereS (gaF zs i) zs.length))
theorem gaR_length (zs : List Int) (i : Int) : (gaR zs i).length = zs.length := rowsF_length _ _

theorem eg_at : ∀ args (W : World), (callFunc 71 args).run Tryd.prog W = .ok (.enter 71 args) W := enters_of Tryd.func71 (by kernel_rfl) rfl

set_option maxHeartbeats 1600000 in
theorem at1_any (zs : List Int) (i : Int) (gR gT r j v x : Nat) (w : World) (hd : DR w gR gT zs) (hr : w.cell? ⟨r, 0, none⟩ = some (.slice (some ⟨gR, 0, none⟩) zs.length zs.length)) (hj : w.cell? ⟨j, 0, none⟩ = some (.int .i64 i)) (hv : v < zs.length) (hx : x < zs.length) :
    Calls Tryd.prog 71 #[.int .i64 v, .int .i64 x, .pointer (some ⟨r, 0, none⟩), .pointer (some ⟨j, 0, none⟩)] w fun e w' => e = .returned (.bool (gaF zs i v x)) ∧ Below w.heap.size w w' := by
  have hrow := hd.row hv
  have hdist := hd.dist hv hx
  obtain ⟨o, ho⟩ : ∃ o, o = v * zs.length := ⟨_, rfl⟩
  rw [← ho] at hrow hdist
  have hv0 : (0 : Int) ≤ v := by omega
  have hx0 : (0 : Int) ≤ x := by omega
  have hvi : (v : Int) < zs.length := by omega
  have hxi : (x : Int) < zs.length := by omega
  have hf : gaF zs i v x = decide (el (dsL zs v) x = i) := rfl
  rw [hf]
  generalize el (dsL zs v) x = d at *
  have he : (decide (d = i)) = (d == i) := rfl
  rw [he]
  clear hd ho hf he
  generalize hb : (d == i) = t
  cases t
  all_goals
    go_enter Tryd.func71, Tryd.ntmps71
    go_wp2_with fail
    go_quiet (fail)
    go_wp2_with fail
    go_ret
    exact ⟨rfl, drewN_below (Below.refl _ _) _⟩

set_option maxHeartbeats 1600000 in
theorem implAt_some (b ob cap : Nat) (zs : List Int) (i : Int) (w : World) (hb : b < w.heap.size) (hc : Cells w b ob zs) (hg : isG zs.length zs = true) (hT : Tab w) :
    Calls Tryd.prog 46 #[.agg #[.int .i64 zs.length, .slice (some ⟨b, ob, none⟩) zs.length cap], .int .i64 i] w fun e w' => GRet w.heap.size zs.length (gaR zs i) e w' ∧ Below w.heap.size w w' := by
  obtain ⟨g1, g2, -, -, -⟩ := isG_parts hg
  have hl : zs.length ≤ 62 := by omega
  obtain ⟨W, hW⟩ : ∃ W, W = ((w.alloc (.cells #[.int .i64 zs.length, .slice (some ⟨b, ob, none⟩) zs.length cap] 28)).alloc (.cells #[.int .i64 i] 2)).alloc (.cells #[.int .i64 0, .slice none 0 0] 28) := ⟨_, rfl⟩
  have hsz : w.heap.size + 3 ≤ W.heap.size := by rw [hW]; simp
  have D0 : Below w.heap.size w W := by rw [hW]; exact (((Below.refl _ _).alloc (Nat.le_refl _) _).alloc (by simp) _).alloc (by simp; omega) _
  have HG0 : Hid (W.heap[w.heap.size]? = some (.cells #[.int .i64 zs.length, .slice (some ⟨b, ob, none⟩) zs.length cap] 28 (0, 0))) := by show _ = _; rw [hW]; exact heap_old_at (heap_old_at (World.alloc_heap_new w _) _) _
  have HI0 : Hid (W.heap[w.heap.size + 1]? = some (.cells #[.int .i64 i] 2 (0, 0))) := by show _ = _; rw [hW]; exact heap_old_at (heap_new_at _ _ _ (by simp)) _
  have HR0 : Hid (W.heap[w.heap.size + 2]? = some (.cells #[.int .i64 0, .slice none 0 0] 28 (0, 0))) := by show _ = _; rw [hW]; exact heap_new_at _ _ _ (by simp)
  have hdd := distRows_some b ob cap zs W (by omega) (hc.below D0 hb) hg (hT.belowAll D0)
  obtain ⟨gR, hgR⟩ : ∃ gR, gR = W.heap.size + 2 := ⟨_, rfl⟩
  obtain ⟨gT, hgT⟩ : ∃ gT, gT = W.heap.size + 1 := ⟨_, rfl⟩
  rw [← hgR, ← hgT] at hdd
  have HD := Lib.hid hdd
  have hgR2 : w.heap.size < gR := by omega
  have hmk := hmkf
  have HD0 := Lib.hid D0
  obtain ⟨a0, a1, -, -⟩ := two_cells HG0.out
  rw [hW] at a0 a1
  clear hc hg hT D0 hgR hgT hdd
  go_enter Tryd.func46, Tryd.ntmps46
  go_wp2_with fail
  rw [← hW]
  clear hW a0 a1
  refine HD.out.mono ?_
  rintro e w1 ⟨rfl, hdr, hb1⟩
  have HB1 := Lib.hid hb1
  have s1 := hb1.size
  have HDR := Lib.hid hdr
  clear hb1 hdr HD
  obtain ⟨w2, hw2⟩ : ∃ w2, w2 = w1.alloc (.cells #[.slice (some ⟨gR, 0, none⟩) zs.length zs.length] 67) := ⟨_, rfl⟩
  have hb2 : Below w1.heap.size w1 w2 := by rw [hw2]; exact (Below.refl _ _).alloc (Nat.le_refl _) _
  have HX2 : Hid (w2.heap[w1.heap.size]? = some (.cells #[.slice (some ⟨gR, 0, none⟩) zs.length zs.length] 67 (0, 0))) := by show _ = _; rw [hw2]; exact World.alloc_heap_new w1 _
  have HDR2 := Lib.hid (HDR.out.below hb2)
  have HB2 := Lib.hid (HB1.out.trans (hb2.mono s1))
  have s2 : w1.heap.size + 1 ≤ w2.heap.size := (Array.getElem?_eq_some_iff.1 HX2.out).1
  obtain ⟨a0, a1, -, -⟩ := two_cells ((HB2.out.block w.heap.size (by omega)).trans HG0.out)
  have HWH := Lib.hid (where_any 71 (.pointer (some ⟨w1.heap.size, 0, none⟩)) (.pointer (some ⟨w.heap.size + 1, 0, none⟩)) (gaF zs i) zs.length w2 hl eg_at (fun v x W3 hvx hx h => by
    refine at1_any zs i gR gT w1.heap.size (w.heap.size + 1) v x W3 (HDR2.out.below h) ?_ ?_ (by omega) hx
    · rw [cell_of_row W3 _ 0 _ _ _ ((h.block _ (by omega)).trans HX2.out)]; rfl
    · rw [cell_of_row W3 _ 0 _ _ _ ((h.block _ (by omega)).trans ((HB2.out.block _ (by omega)).trans HI0.out))]; rfl))
  rw [hw2] at a0 a1
  go_wp2_with fail
  rw [← hw2]
  clear hw2 a0 a1 hmk hb2
  refine HWH.out.mono ?_
  rintro e w3 ⟨⟨g, rfl, hB, hgg⟩, hb3⟩
  have RB := Lib.hid ((hb3.block (w.heap.size + 1 + 1) (by omega)).trans ((HB2.out.block (w.heap.size + 1 + 1) (by omega)).trans HR0.out))
  obtain ⟨r0, r1, q0, q1⟩ := two_cells RB.out
  have HB := Lib.hid hB
  have E3 := Lib.hid (HD0.out.trans ((HB2.out.trans (hb3.mono (by omega))).mono (by omega)))
  clear hB hb3 HWH
  go_wp2_with fail
  have hfin := two_set (a := .int .i64 zs.length) (b := .slice (some ⟨g, 0, none⟩) zs.length zs.length) RB.out
  refine bodyPost_ret (v := .agg #[.int .i64 zs.length, .slice (some ⟨g, 0, none⟩) zs.length zs.length]) (results_cell_row (p := 4) (ty := 28) rfl _ _ (w.heap.size + 1 + 1) 28 _ (0, 0) _ rfl hfin Tryd.underlying28 rfl (by exact info27)) rfl ⟨⟨_, rfl, ?_, by omega⟩, ?_⟩
  · exact (HB.out.other (by simp; omega) _).other (by simp; omega) _
  · exact (E3.out.setCell (p := ⟨w.heap.size + 1 + 1, 0, none⟩) (by simp; omega) _).setCell (p := ⟨w.heap.size + 1 + 1, 1, none⟩) (by simp; omega) _

def gaOk (i : Int) : Bool := decide (1 ≤ i) && decide (i ≤ 61)
def GaN (n : Int) (zs : List Int) (i : Int) : Int := if isG n zs && gaOk i then n else 0
def GaL (n : Int) (zs : List Int) (i : Int) : List Int := if isG n zs && gaOk i then gaR zs i else []
def GaC (n : Int) (zs : List Int) (i : Int) : Int := if isG n zs then (if gaOk i then 0 else 2) else 1
theorem GaL_length (n : Int) (zs : List Int) (i : Int) : (GaL n zs i).length ≤ 62 := by
  unfold GaL
  cases h : isG n zs && gaOk i with
  | true =>
    rw [if_pos rfl, gaR_length]
    simp only [Bool.and_eq_true] at h
    have := isG_parts h.1
    omega
  | false => simp

set_option maxHeartbeats 800000 in
theorem implGa_no (n : Int) (v : Value) (zs : List Int) (i : Int) (w : World) (h : Sl w v zs) (hg : isG n zs = false) (hl : zs.length ≤ 9223372036854775807) (hT : Tab w) :
    Calls Tryd.prog 25 #[.agg #[.int .i64 n, v], .int .i64 i] w fun e w' => GRes w.heap.size 0 [] 1 e w' ∧ Below w.heap.size w w' := by
  have D0 : Below w.heap.size w ((w.alloc (.cells #[.int .i64 n, v] 28)).alloc (.cells #[.int .i64 0, .slice none 0 0] 28)) := ((Below.refl _ _).alloc (Nat.le_refl _) _).alloc (by simp) _
  have his := implIs_any n v zs _ (h.below D0) hl (hT.belowAll D0)
  rw [hg] at his
  simp only [World.size_alloc] at his
  have HH1 := Lib.hid (heap_new_at (w.alloc (.cells #[.int .i64 n, v] 28)) (.cells #[.int .i64 0, .slice none 0 0] 28) (w.heap.size + 1) (by simp))
  clear h hg hT
  go_enter Tryd.func25, Tryd.ntmps25
  go_wp2_with (go_at_call 41; refine his.mono ?_; rintro e w1 ⟨rfl, hb1⟩; have RB := Lib.hid ((hb1.block (w.heap.size + 1) (by omega)).trans HH1.out); obtain ⟨r0, r1, g0, g1⟩ := two_cells RB.out)
  have hfin := two_set (a := .int .i64 0) (b := .slice none 0 0) RB.out
  refine bodyPost_ret (v := .tuple #[.agg #[.int .i64 0, .slice none 0 0], .int .i64 1]) (results_cell2 (p := 4) (u := 5) (ty := 28) rfl _ _ (w.heap.size + 1) 28 _ (0, 0) _ rfl hfin Tryd.underlying28 rfl (by exact info27)) rfl ⟨⟨_, rfl, Own.nil _ _⟩, ?_⟩
  exact ((D0.trans (hb1.mono (by omega))).setCell (p := ⟨w.heap.size + 1, 0, none⟩) (by simp) _).setCell (p := ⟨w.heap.size + 1, 1, none⟩) (by simp) _

set_option maxHeartbeats 1600000 in
theorem implGa_yes (b ob cap : Nat) (zs : List Int) (i : Int) (w : World) (hb : b < w.heap.size) (hc : Cells w b ob zs) (hg : isG zs.length zs = true) (hT : Tab w) :
    Calls Tryd.prog 25 #[.agg #[.int .i64 zs.length, .slice (some ⟨b, ob, none⟩) zs.length cap], .int .i64 i] w fun e w' => GRes w.heap.size (GaN zs.length zs i) (GaL zs.length zs i) (GaC zs.length zs i) e w' ∧ Below w.heap.size w w' := by
  obtain ⟨g1, g2, -, -, -⟩ := isG_parts hg
  have hl : zs.length ≤ 62 := by omega
  have D0 : Below w.heap.size w ((w.alloc (.cells #[.int .i64 zs.length, .slice (some ⟨b, ob, none⟩) zs.length cap] 28)).alloc (.cells #[.int .i64 0, .slice none 0 0] 28)) := ((Below.refl _ _).alloc (Nat.le_refl _) _).alloc (by simp) _
  have his := implIs_some zs.length b ob cap zs _ (Nat.lt_of_lt_of_le hb D0.size) (hc.below D0 hb) (by omega) (hT.belowAll D0)
  rw [hg] at his
  simp only [World.size_alloc] at his
  have HG0 := Lib.hid (heap_old_at (World.alloc_heap_new w (.cells #[.int .i64 zs.length, .slice (some ⟨b, ob, none⟩) zs.length cap] 28)) (.cells #[.int .i64 0, .slice none 0 0] 28))
  have HH1 := Lib.hid (heap_new_at (w.alloc (.cells #[.int .i64 zs.length, .slice (some ⟨b, ob, none⟩) zs.length cap] 28)) (.cells #[.int .i64 0, .slice none 0 0] 28) (w.heap.size + 1) (by simp))
  have HAT : Hid (∀ W, Below w.heap.size w W → Calls Tryd.prog 46 #[.agg #[.int .i64 zs.length, .slice (some ⟨b, ob, none⟩) zs.length cap], .int .i64 i] W fun e w' => GRet W.heap.size zs.length (gaR zs i) e w' ∧ Below W.heap.size W w') := fun W h =>
    implAt_some b ob cap zs i W (Nat.lt_of_lt_of_le hb h.size) (hc.below h hb) hg (hT.belowAll h)
  have HDD := Lib.hid D0
  have hN : GaN zs.length zs i = if gaOk i then (zs.length : Int) else 0 := by simp [GaN, hg]
  have hLL : GaL zs.length zs i = if gaOk i then gaR zs i else [] := by simp [GaL, hg]
  have hC : GaC zs.length zs i = if gaOk i then 0 else 2 := by simp [GaC, hg]
  rw [hN, hLL, hC]
  have hok : gaOk i = (decide (1 ≤ i) && decide (i ≤ 61)) := rfl
  have hlen := gaR_length zs i
  generalize gaR zs i = R at *
  clear hc hg hT D0 hN hLL hC
  by_cases h1 : 1 ≤ i
  · by_cases h2 : i ≤ 61
    · have c1 : ¬ i < 1 := by omega
      have c2 : ¬ (61 : Int) < i := by omega
      rw [hok, decide_eq_true h1, decide_eq_true h2, if_pos (by rfl), if_pos (by rfl), if_pos (by rfl)]
      clear h1 h2 hok
      go_enter Tryd.func25, Tryd.ntmps25
      go_wp2_with (first | (go_at_call 41; with_reducible refine his.mono ?_; rintro e w1 ⟨rfl, hb1⟩; have RB := Lib.hid ((hb1.block (w.heap.size + 1) (by omega)).trans HH1.out); have GB := Lib.hid ((hb1.block w.heap.size (by omega)).trans HG0.out); obtain ⟨b0, b1, -, -⟩ := two_cells GB.out))
      have E1 := HDD.out.trans (hb1.mono (by omega))
      refine (HAT.out w1 E1).mono ?_
      rintro e w2 ⟨⟨g, rfl, hB, hgg⟩, hb2⟩
      have s1 : w.heap.size + 2 ≤ w1.heap.size := by have := hb1.size; simpa using this
      have RB2 := Lib.hid ((hb2.block (w.heap.size + 1) (by omega)).trans RB.out)
      obtain ⟨r0, r1, q0, q1⟩ := two_cells RB2.out
      have HB := Lib.hid hB
      have E2 := Lib.hid (E1.trans (hb2.mono (by omega)))
      clear hB hb2 hb1 his HAT b0 b1
      go_wp2_with fail
      have hfin := two_set (a := .int .i64 zs.length) (b := .slice (some ⟨g, 0, none⟩) zs.length zs.length) RB2.out
      refine bodyPost_ret (v := .tuple #[.agg #[.int .i64 zs.length, .slice (some ⟨g, 0, none⟩) zs.length zs.length], .int .i64 0]) (results_cell2 (p := 4) (u := 5) (ty := 28) rfl _ _ (w.heap.size + 1) 28 _ (0, 0) _ rfl hfin Tryd.underlying28 rfl (by exact info27)) rfl ⟨⟨_, rfl, ?_⟩, ?_⟩
      · have h := Own.of_blk ((HB.out.other (a := ⟨w.heap.size + 1, 0, none⟩) (by simp; omega) (.int .i64 zs.length)).other (a := ⟨w.heap.size + 1, 1, none⟩) (by simp; omega) (.slice (some ⟨g, 0, none⟩) zs.length zs.length)) (B := w.heap.size) (by omega) (by rw [hlen]; unfold maxLen; omega)
        rw [hlen] at h
        exact h
      · exact (E2.out.setCell (p := ⟨w.heap.size + 1, 0, none⟩) (by simp) _).setCell (p := ⟨w.heap.size + 1, 1, none⟩) (by simp) _
    · have c1 : ¬ i < 1 := by omega
      have c2 : (61 : Int) < i := by omega
      rw [hok, decide_eq_true h1, decide_eq_false h2, if_neg (by simp), if_neg (by simp), if_neg (by simp)]
      clear h1 h2 hok HAT
      go_enter Tryd.func25, Tryd.ntmps25
      go_wp2_with (go_at_call 41; refine his.mono ?_; rintro e w1 ⟨rfl, hb1⟩; have RB := Lib.hid ((hb1.block (w.heap.size + 1) (by omega)).trans HH1.out); obtain ⟨r0, r1, g0, g1⟩ := two_cells RB.out)
      have hfin := two_set (a := .int .i64 0) (b := .slice none 0 0) RB.out
      refine bodyPost_ret (v := .tuple #[.agg #[.int .i64 0, .slice none 0 0], .int .i64 2]) (results_cell2 (p := 4) (u := 5) (ty := 28) rfl _ _ (w.heap.size + 1) 28 _ (0, 0) _ rfl hfin Tryd.underlying28 rfl (by exact info27)) rfl ⟨⟨_, rfl, Own.nil _ _⟩, ?_⟩
      exact ((HDD.out.trans (hb1.mono (by omega))).setCell (p := ⟨w.heap.size + 1, 0, none⟩) (by simp) _).setCell (p := ⟨w.heap.size + 1, 1, none⟩) (by simp) _
  · have c1 : i < 1 := by omega
    rw [hok, decide_eq_false h1, if_neg (by simp), if_neg (by simp), if_neg (by simp)]
    clear h1 hok HAT
    go_enter Tryd.func25, Tryd.ntmps25
    go_wp2_with (go_at_call 41; refine his.mono ?_; rintro e w1 ⟨rfl, hb1⟩; have RB := Lib.hid ((hb1.block (w.heap.size + 1) (by omega)).trans HH1.out); obtain ⟨r0, r1, g0, g1⟩ := two_cells RB.out)
    have hfin := two_set (a := .int .i64 0) (b := .slice none 0 0) RB.out
    refine bodyPost_ret (v := .tuple #[.agg #[.int .i64 0, .slice none 0 0], .int .i64 2]) (results_cell2 (p := 4) (u := 5) (ty := 28) rfl _ _ (w.heap.size + 1) 28 _ (0, 0) _ rfl hfin Tryd.underlying28 rfl (by exact info27)) rfl ⟨⟨_, rfl, Own.nil _ _⟩, ?_⟩
    exact ((HDD.out.trans (hb1.mono (by omega))).setCell (p := ⟨w.heap.size + 1, 0, none⟩) (by simp) _).setCell (p := ⟨w.heap.size + 1, 1, none⟩) (by simp) _

theorem implGa_any (n : Int) (v : Value) (zs : List Int) (i : Int) (w : World) (h : Sl w v zs) (hl : zs.length ≤ 9223372036854775807) (hT : Tab w) :
    Calls Tryd.prog 25 #[.agg #[.int .i64 n, v], .int .i64 i] w fun e w' => GRes w.heap.size (GaN n zs i) (GaL n zs i) (GaC n zs i) e w' ∧ Below w.heap.size w w' := by
  cases hg : isG n zs
  · rw [show GaN n zs i = 0 by simp [GaN, hg], show GaL n zs i = [] by simp [GaL, hg], show GaC n zs i = 1 by simp [GaC, hg]]
    exact implGa_no n v zs i w h hg hl hT
  · obtain ⟨h1, _, h3, _⟩ := isG_parts hg
    obtain ⟨b, off, cap, rfl, hb, hc⟩ := sl_some h (by omega)
    obtain rfl : (zs.length : Int) = n := h3
    exact implGa_yes b off cap zs i w hb hc hg hT
end Go.Proofs.YtlodaeoikkjbkaaDoor
