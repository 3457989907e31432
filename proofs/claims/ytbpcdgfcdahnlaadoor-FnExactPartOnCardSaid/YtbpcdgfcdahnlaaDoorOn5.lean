/-
  spec.PartOn: its answer, whatever comes in.
-/
import Derived.Test.YtbpcdgfcdahnlaaDoorOn4
import Derived.BigQuiet
import Derived.Deep.QuietTactic
namespace Go.Proofs.YtbpcdgfcdahnlaaDoor
set_option maxRecDepth 100000
open Go.RowKit

set_option maxHeartbeats 1600000 in
theorem verts_nil (n : Int) (v : Value) (zs : List Int) (a : Option Addr) (c : Nat) (w : World) (h : Sl w v zs) (hg : isG n zs = true) (hl : zs.length ≤ 9223372036854775807) :
    Calls Tryd.prog 66 #[.agg #[.int .i64 n, v], .slice a 0 c] w fun e w' => e = .returned (.int .i64 0) ∧ Below w.heap.size w w' := by
  have D0 : Below w.heap.size w (w.alloc (.cells #[.int .i64 n, v] 28)) := (Below.refl _ _).alloc (Nat.le_refl _) _
  have his := l01Is_any n v zs _ (h.below D0) hl
  rw [hg] at his
  clear hg h
  go_enter Tryd.func66, Tryd.ntmps66
  go_wp2_with (go_at_call 52; refine his.mono ?_; rintro e w1 ⟨rfl, hb1⟩)
  have E1 : Below w.heap.size w w1 := D0.trans (hb1.mono (by simp))
  clear hb1 his
  go_loopw [5] (fun i wr => i = .int .i64 0 ∧ Below w1.heap.size w1 wr) (fun i _ => 0)
  case atStart => exact ⟨rfl, Below.refl _ _⟩
  case round =>
    obtain ⟨rfl, hB⟩ := hrel
    go_wp2
    go_ret
    exact ⟨rfl, E1.trans (hB.mono E1.size)⟩

/-- The code of a graph and a list of vertices. -/
def VC (n : Int) (zs vs : List Int) : Int := if isG n zs then vc n vs else 1
theorem verts_any (n : Int) (v u : Value) (zs vs : List Int) (w : World) (h : Sl w v zs) (h2 : Sl w u vs) (hl : zs.length ≤ 9223372036854775807) (hl2 : vs.length ≤ 1048576) :
    Calls Tryd.prog 66 #[.agg #[.int .i64 n, v], u] w fun e w' => e = .returned (.int .i64 (VC n zs vs)) ∧ Below w.heap.size w w' := by
  unfold VC
  cases hg : isG n zs
  · exact verts_no n v u zs w h hg hl
  · rcases h2 with ⟨a, c, rfl, rfl⟩ | ⟨b2, off2, cap2, rfl, hb2, hc2⟩
    · exact verts_nil n v zs a c w h hg hl
    · obtain ⟨p1, _, p3, _⟩ := isG_parts hg
      obtain ⟨b, off, cap, rfl, hb, hc⟩ := sl_some h (by omega)
      exact verts_some n b off cap zs b2 off2 cap2 vs w hb hc hb2 hc2 hg hl (by omega)

theorem asc_vs {n : Int} {vs : List Int} (h : ascTo n vs vs.length = true) : vsOk n vs vs.length = true := by
  unfold vsOk
  rw [List.all_eq_true]
  intro i hi
  rw [List.mem_range] at hi
  have h1 := ascTo_ge h i hi
  have h2 := (ascTo_at h hi).2
  simp
  omega
theorem asc_of {n : Int} {vs : List Int} (h : vsOk n vs vs.length = true) (hi : ∀ j, j + 1 < vs.length → el vs j < el vs (j + 1)) : ascTo n vs vs.length = true := by
  unfold vsOk at h
  unfold ascTo
  rw [List.all_eq_true] at h ⊢
  intro i him
  have h1 := h i him
  rw [List.mem_range] at him
  simp at h1 ⊢
  refine ⟨?_, by omega⟩
  cases i with
  | zero => exact h1.1
  | succ j => have := hi j him; rw [ascB]; omega
theorem asc_not {n : Int} {vs : List Int} {j : Nat} (hj : j + 1 < vs.length) (h : ¬ el vs j < el vs (j + 1)) : ascTo n vs vs.length = false :=
  ascTo_no hj (fun h' => by have := h'.1; rw [ascB] at this; omega)

set_option maxHeartbeats 1600000 in
theorem specOn_code (n : Int) (v u : Value) (zs vs : List Int) (w : World) (h : Sl w v zs) (h2 : Sl w u vs) (hl : zs.length ≤ 9223372036854775807) (hl2 : vs.length ≤ 1048576) (hc : VC n zs vs ≠ 0) :
    Calls Tryd.prog 38 #[.agg #[.int .i64 n, v], u] w fun e w' => GRes w.heap.size 0 [] (VC n zs vs) e w' ∧ Below w.heap.size w w' := by
  obtain ⟨W, hW⟩ : ∃ W, W = ((w.alloc (.cells #[.int .i64 n, v] 28)).alloc (.cells #[.int .i64 0, .slice none 0 0] 28)) := ⟨_, rfl⟩
  have D0 : Below w.heap.size w W := by rw [hW]; exact ((Below.refl _ _).alloc (Nat.le_refl _) _).alloc (by simp) _
  have hsz : w.heap.size + 2 ≤ W.heap.size := by rw [hW]; simp
  have HK2 : Hid (W.heap[w.heap.size]? = some (.cells #[.int .i64 n, v] 28 (0, 0))) := by rw [hW]; exact heap_old_at (heap_new_at w (.cells #[.int .i64 n, v] 28) w.heap.size rfl) _
  have HK3 : Hid (W.heap[w.heap.size + 1]? = some (.cells #[.int .i64 0, .slice none 0 0] 28 (0, 0))) := by rw [hW]; exact heap_new_at (w.alloc (.cells #[.int .i64 n, v] 28)) (.cells #[.int .i64 0, .slice none 0 0] 28) (w.heap.size + 1) (by simp)
  have hvs := verts_any n v u zs vs W (h.below D0) (h2.below D0) hl hl2
  generalize VC n zs vs = c at hc hvs
  have hc0 : (c != 0) = true := by rw [bne_iff_ne]; exact hc
  clear h h2 hc
  go_enter Tryd.func38, Tryd.ntmps38
  obtain ⟨a0, a1, -, -⟩ := two_cells HK2.out
  rw [hW] at a0 a1
  go_wp2_with fail
  rw [← hW]
  clear hW
  refine hvs.mono ?_
  rintro e w1 ⟨rfl, hb1⟩
  have RB := Lib.hid ((hb1.block (w.heap.size + 1) (by omega)).trans HK3.out)
  obtain ⟨r0, r1, g0, g1⟩ := two_cells RB.out
  have D1 := D0.trans (hb1.mono D0.size)
  clear a0 a1 hvs hb1
  go_wp2
  have hfin := two_set (a := .int .i64 0) (b := .slice none 0 0) RB.out
  refine bodyPost_ret (v := .tuple #[.agg #[.int .i64 0, .slice none 0 0], .int .i64 c]) (results_cell2 (p := 4) (u := 5) (ty := 28) rfl _ _ (w.heap.size + 1) 28 _ (0, 0) _ rfl hfin Tryd.underlying28 rfl (by exact info27)) rfl ⟨⟨_, rfl, Own.nil _ _⟩, ?_⟩
  exact (D1.setCell (p := ⟨w.heap.size + 1, 0, none⟩) (by simp) _).setCell (p := ⟨w.heap.size + 1, 1, none⟩) (by simp) _

set_option maxHeartbeats 1600000 in
theorem specOn_empty (n : Int) (v : Value) (a : Option Addr) (cp : Nat) (zs : List Int) (w : World) (h : Sl w v zs) (hg : isG n zs = true) (hl : zs.length ≤ 9223372036854775807) :
    Calls Tryd.prog 38 #[.agg #[.int .i64 n, v], .slice a 0 cp] w fun e w' => GRes w.heap.size 0 [] 2 e w' ∧ Below w.heap.size w w' := by
  obtain ⟨W, hW⟩ : ∃ W, W = ((w.alloc (.cells #[.int .i64 n, v] 28)).alloc (.cells #[.int .i64 0, .slice none 0 0] 28)) := ⟨_, rfl⟩
  have D0 : Below w.heap.size w W := by rw [hW]; exact ((Below.refl _ _).alloc (Nat.le_refl _) _).alloc (by simp) _
  have hsz : w.heap.size + 2 ≤ W.heap.size := by rw [hW]; simp
  have HK2 : Hid (W.heap[w.heap.size]? = some (.cells #[.int .i64 n, v] 28 (0, 0))) := by rw [hW]; exact heap_old_at (heap_new_at w (.cells #[.int .i64 n, v] 28) w.heap.size rfl) _
  have HK3 : Hid (W.heap[w.heap.size + 1]? = some (.cells #[.int .i64 0, .slice none 0 0] 28 (0, 0))) := by rw [hW]; exact heap_new_at (w.alloc (.cells #[.int .i64 n, v] 28)) (.cells #[.int .i64 0, .slice none 0 0] 28) (w.heap.size + 1) (by simp)
  have hvs := verts_nil n v zs a cp W (h.below D0) hg hl
  clear h hg
  go_enter Tryd.func38, Tryd.ntmps38
  obtain ⟨a0, a1, -, -⟩ := two_cells HK2.out
  rw [hW] at a0 a1
  go_wp2_with fail
  rw [← hW]
  clear hW
  refine hvs.mono ?_
  rintro e w1 ⟨rfl, hb1⟩
  have RB := Lib.hid ((hb1.block (w.heap.size + 1) (by omega)).trans HK3.out)
  obtain ⟨r0, r1, g0, g1⟩ := two_cells RB.out
  have D1 := D0.trans (hb1.mono D0.size)
  clear a0 a1 hvs hb1
  go_wp2
  have hfin := two_set (a := .int .i64 0) (b := .slice none 0 0) RB.out
  refine bodyPost_ret (v := .tuple #[.agg #[.int .i64 0, .slice none 0 0], .int .i64 2]) (results_cell2 (p := 4) (u := 5) (ty := 28) rfl _ _ (w.heap.size + 1) 28 _ (0, 0) _ rfl hfin Tryd.underlying28 rfl (by exact info27)) rfl ⟨⟨_, rfl, Own.nil _ _⟩, ?_⟩
  exact (D1.setCell (p := ⟨w.heap.size + 1, 0, none⟩) (by simp) _).setCell (p := ⟨w.heap.size + 1, 1, none⟩) (by simp) _

set_option maxRecDepth 100000 in
set_option maxHeartbeats 3200000 in
theorem specOn_list (b off cap b2 off2 cap2 : Nat) (zs vs : List Int) (w : World) (hb : b < w.heap.size) (hc : Cells w b off zs) (hb2 : b2 < w.heap.size) (hc2 : Cells w b2 off2 vs) (hg : isG zs.length zs = true) (hv : vsOk zs.length vs vs.length = true) (h0 : 0 < vs.length) (hl2 : vs.length ≤ 1048576) :
    Calls Tryd.prog 38 #[.agg #[.int .i64 zs.length, .slice (some ⟨b, off, none⟩) zs.length cap], .slice (some ⟨b2, off2, none⟩) vs.length cap2] w fun e w' => GRes w.heap.size (ONN zs.length zs vs) (ONL zs.length zs vs) (ONC zs.length zs vs) e w' ∧ Below w.heap.size w w' := by
  obtain ⟨p1, p2, -, -⟩ := isG_parts hg
  obtain ⟨W, hW⟩ : ∃ W, W = ((w.alloc (.cells #[.int .i64 zs.length, .slice (some ⟨b, off, none⟩) zs.length cap] 28)).alloc (.cells #[.int .i64 0, .slice none 0 0] 28)) := ⟨_, rfl⟩
  have D0 : Below w.heap.size w W := by rw [hW]; exact ((Below.refl _ _).alloc (Nat.le_refl _) _).alloc (by simp) _
  have hS : w.heap.size + 2 ≤ W.heap.size := by rw [hW]; simp
  have HK2 : Hid (W.heap[w.heap.size]? = some (.cells #[.int .i64 zs.length, .slice (some ⟨b, off, none⟩) zs.length cap] 28 (0, 0))) := by rw [hW]; exact heap_old_at (heap_new_at w (.cells #[.int .i64 zs.length, .slice (some ⟨b, off, none⟩) zs.length cap] 28) w.heap.size rfl) _
  have HK3 : Hid (W.heap[w.heap.size + 1]? = some (.cells #[.int .i64 0, .slice none 0 0] 28 (0, 0))) := by rw [hW]; exact heap_new_at (w.alloc (.cells #[.int .i64 zs.length, .slice (some ⟨b, off, none⟩) zs.length cap] 28)) (.cells #[.int .i64 0, .slice none 0 0] 28) (w.heap.size + 1) (by simp)
  have hvs := verts_some zs.length b off cap zs b2 off2 cap2 vs W (by omega) (hc.below D0 hb) (by omega) (hc2.below D0 hb2) hg (by omega) (by omega)
  rw [vc_yes hv] at hvs
  have C1 := Lib.hid (hc.below D0 hb)
  have C2 := Lib.hid (hc2.below D0 hb2)
  have HG := Lib.hid hg; have HVS := Lib.hid hv
  have t0 : ((vs.length : Int) == 0) = false := by rw [beq_eq_false_iff_ne]; omega
  clear hc hc2 hg hv
  go_enter Tryd.func38, Tryd.ntmps38
  obtain ⟨a0, a1, -, -⟩ := two_cells HK2.out
  rw [hW] at a0 a1
  go_wp2_with fail
  rw [← hW]
  clear hW
  refine hvs.mono ?_
  rintro e w1 ⟨rfl, hb1⟩
  clear a0 a1 hvs
  have s1 := hb1.size
  go_wp2
  go_loopw [7] (fun t wr => ∃ j : Nat, j + 1 ≤ vs.length ∧ t = .int .i64 ((j : Int) + 1) ∧ Hid (∀ m, m < j → el vs m < el vs (m + 1)) ∧ Below W.heap.size W wr) (fun t _ => vs.length - (intOf t).toNat)
  case atStart => exact ⟨0, by omega, by go_num, (fun m h => absurd h (Nat.not_lt_zero _)), hb1⟩
  case round =>
    obtain ⟨j, hj, rfl, HI, hB⟩ := hrel
    have hBs := hB.size
    have RB := Lib.hid ((hB.block (w.heap.size + 1) (by omega)).trans HK3.out)
    have D1 := Lib.hid (D0.trans (hB.mono D0.size))
    by_cases hlt : (j : Int) + 1 < vs.length
    · have hjl : j + 1 < vs.length := by omega
      have hz0 : wr.cell? ⟨b2, off2 + j, none⟩ = some (.int .i64 (el vs j)) := (C2.out.below hB (by omega)) j (by omega)
      have hz1 : wr.cell? ⟨b2, off2 + (j + 1), none⟩ = some (.int .i64 (el vs (j + 1))) := (C2.out.below hB (by omega)) (j + 1) hjl
      have hj0 : (0 : Int) ≤ j := by omega
      have hj1 : (0 : Int) ≤ (j : Int) + 1 := by omega
      have ht1 : ((j : Int) + 1).toNat = j + 1 := by omega
      have hjl0 : (j : Int) < vs.length := by omega
      by_cases hle : el vs (j + 1) ≤ el vs j
      · have hd : decide (el vs (j + 1) ≤ el vs j) = true := by simpa using hle
        have HBAD := Lib.hid (ON_bad HG.out (vs := vs) (by unfold onB; rw [asc_not hjl (by omega)]; simp))
        have hwk : IntKind.i64.wrap ((j : Int) + 1 - 1) = j := by rw [show (j : Int) + 1 - 1 = j by omega]; exact IntWalk.i64_in _ ⟨by omega, by omega⟩
        clear hle hB
        obtain ⟨r0, r1, g0, g1⟩ := two_cells RB.out
        go_wp2_with fail
        go_quiet (fail)
        clear hwk ht1 hz0 hz1
        go_wp2
        refine bodyPost_ret (v := .tuple #[.agg #[.int .i64 0, .slice none 0 0], .int .i64 2]) (results_cell2 (p := 4) (u := 5) (ty := 28) rfl _ _ (w.heap.size + 1) 28 _ (0, 0) _ rfl (two_set (a := .int .i64 0) (b := .slice none 0 0) (by exact RB.out)) Tryd.underlying28 rfl (by exact info27)) rfl ⟨?_, ?_⟩
        · rw [HBAD.out.1, HBAD.out.2.1, HBAD.out.2.2]
          exact ⟨_, rfl, Own.nil _ _⟩
        · exact ((drewN_below D1.out _).setCell (p := ⟨w.heap.size + 1, 0, none⟩) (by simp) _).setCell (p := ⟨w.heap.size + 1, 1, none⟩) (by simp) _
      · have hd : decide (el vs (j + 1) ≤ el vs j) = false := by simpa using hle
        have HI2 : Hid (∀ m, m < j + 1 → el vs m < el vs (m + 1)) := fun m hm => by
          by_cases e : m = j
          · subst e; omega
          · exact HI.out m (by omega)
        have hwk : IntKind.i64.wrap ((j : Int) + 1 - 1) = j := by rw [show (j : Int) + 1 - 1 = j by omega]; exact IntWalk.i64_in _ ⟨by omega, by omega⟩
        have HBH := Lib.hid hB
        clear hle hB
        go_wp2_with fail
        go_quiet (fail)
        clear hwk ht1 hz0 hz1
        go_wp2
        go_roundw
        case rel => exact ⟨j + 1, by omega, by go_num, HI2, drewN_below HBH.out _⟩
        case measure => simp [intOf]; omega
    · have hjl : j + 1 = vs.length := by omega
      have HASC := Lib.hid (asc_of HVS.out (fun m hm => HI.out m (by omega)))
      have HY := Lib.hid (ON_yes HG.out (vs := vs) (by unfold onB; rw [HASC.out]; simp [h0]))
      have hon := l01On_some b off cap b2 off2 cap2 zs vs wr (by omega) (C1.out.below hB (by omega)) (by omega) (C2.out.below hB (by omega)) HG.out HASC.out
      obtain ⟨a0, a1, -, -⟩ := two_cells ((hB.block w.heap.size (by omega)).trans HK2.out)
      have HBH := Lib.hid hB
      clear hB RB
      go_wp2_with fail
      refine hon.mono ?_
      rintro e w5 ⟨u, rfl, hO, hb5⟩
      obtain ⟨ua, ul, uc, rfl⟩ := slice_of hO
      have RB := Lib.hid ((hb5.block (w.heap.size + 1) (by omega)).trans ((HBH.out.block (w.heap.size + 1) (by omega)).trans HK3.out))
      obtain ⟨r0, r1, g0, g1⟩ := two_cells RB.out
      have D5 := Lib.hid (D1.out.trans (hb5.mono D1.out.size))
      have HO := Lib.hid hO
      clear hO hb5 hon a0 a1
      go_wp2
      have hfin := two_set (a := .int .i64 vs.length) (b := .slice ua ul uc) RB.out
      have hgr : w5.grownBy ((w5.setCell ⟨w.heap.size + 1, 0, none⟩ (.int .i64 vs.length)).setCell ⟨w.heap.size + 1, 1, none⟩ (.slice ua ul uc)) (some (w.heap.size + 1)) := grown_set (grown_set ⟨rfl, rfl, rfl, Nat.le_refl _, fun _ _ _ => rfl⟩ _ 0 _) _ 1 _
      refine bodyPost_ret (v := .tuple #[.agg #[.int .i64 vs.length, .slice ua ul uc], .int .i64 0]) (results_cell2 (p := 4) (u := 5) (ty := 28) rfl _ _ (w.heap.size + 1) 28 _ (0, 0) _ rfl hfin Tryd.underlying28 rfl (by exact info27)) rfl ⟨?_, ?_⟩
      · rw [HY.out.1, HY.out.2.1, HY.out.2.2]
        exact ⟨_, rfl, (HO.out.kept hgr (.inr (fun e => by have := HO.out.ge _ e; omega))).base (by omega)⟩
      · exact (D5.out.setCell (p := ⟨w.heap.size + 1, 0, none⟩) (by simp) _).setCell (p := ⟨w.heap.size + 1, 1, none⟩) (by simp) _

theorem specOn_any (n : Int) (v u : Value) (zs vs : List Int) (w : World) (h : Sl w v zs) (h2 : Sl w u vs) (hl : zs.length ≤ 9223372036854775807) (hl2 : vs.length ≤ 1048576) :
    Calls Tryd.prog 38 #[.agg #[.int .i64 n, v], u] w fun e w' => GRes w.heap.size (ONN n zs vs) (ONL n zs vs) (ONC n zs vs) e w' ∧ Below w.heap.size w w' := by
  cases hg : isG n zs
  · obtain ⟨e1, e2, e3⟩ := ON_no (vs := vs) hg
    have hV : VC n zs vs = 1 := by simp [VC, hg]
    have := specOn_code n v u zs vs w h h2 hl hl2 (by rw [hV]; decide)
    rw [hV] at this
    rw [e1, e2, e3]
    exact this
  · by_cases h0 : 0 < vs.length
    · rcases h2 with ⟨a, c, _, rfl⟩ | ⟨b2, off2, cap2, rfl, hb2, hc2⟩
      · simp at h0
      · cases hv : vsOk n vs vs.length
        · obtain ⟨e1, e2, e3⟩ := ON_bad (vs := vs) hg (by
            unfold onB
            cases ha : ascTo n vs vs.length
            · simp
            · rw [asc_vs ha] at hv; cases hv)
          have hV : VC n zs vs = 2 := by simp [VC, hg, vc_no hv]
          have := specOn_code n v _ zs vs w h (.inr ⟨b2, off2, cap2, rfl, hb2, hc2⟩) hl hl2 (by rw [hV]; decide)
          rw [hV] at this
          rw [e1, e2, e3]
          exact this
        · obtain ⟨p1, _, p3, _⟩ := isG_parts hg
          obtain ⟨b, off, cap, rfl, hb, hc⟩ := sl_some h (by omega)
          subst p3
          exact specOn_list b off cap b2 off2 cap2 zs vs w hb hc hb2 hc2 hg hv h0 hl2
    · obtain rfl : vs = [] := List.eq_nil_of_length_eq_zero (by omega)
      obtain ⟨e1, e2, e3⟩ := ON_bad (vs := []) hg (by simp [onB])
      rw [e1, e2, e3]
      have hf := slForm h2
      rw [hf]
      exact specOn_empty n v _ _ zs w h hg hl
end Go.Proofs.YtbpcdgfcdahnlaaDoor
