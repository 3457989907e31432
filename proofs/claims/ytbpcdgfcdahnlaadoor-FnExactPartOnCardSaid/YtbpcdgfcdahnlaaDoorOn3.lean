/-
  impl.PartOn: its answer, whatever comes in.
-/
import Derived.Test.YtbpcdgfcdahnlaaDoorOn2
namespace Go.Proofs.YtbpcdgfcdahnlaaDoor
set_option maxRecDepth 100000
open Go.RowKit

set_option maxHeartbeats 1600000 in
theorem implOn_no (n : Int) (v : Value) (u : Value) (zs : List Int) (w : World) (h : Sl w v zs) (hg : isG n zs = false) (hl : zs.length ≤ 9223372036854775807) (hT : Tab w) :
    Calls Tryd.prog 40 #[.agg #[.int .i64 n, v], u] w fun e w' => GRes w.heap.size 0 [] 1 e w' ∧ Below w.heap.size w w' := by
  obtain ⟨W, hW⟩ : ∃ W, W = ((w.alloc (.cells #[.int .i64 n, v] 28)).alloc (.cells #[.int .i64 0, .slice none 0 0] 28)) := ⟨_, rfl⟩
  have D0 : Below w.heap.size w W := by rw [hW]; exact ((Below.refl _ _).alloc (Nat.le_refl _) _).alloc (by simp) _
  have hsz : w.heap.size + 2 ≤ W.heap.size := by rw [hW]; simp
  have HK2 : Hid (W.heap[w.heap.size]? = some (.cells #[.int .i64 n, v] 28 (0, 0))) := by rw [hW]; exact heap_old_at (heap_new_at w (.cells #[.int .i64 n, v] 28) w.heap.size rfl) _
  have HK3 : Hid (W.heap[w.heap.size + 1]? = some (.cells #[.int .i64 0, .slice none 0 0] 28 (0, 0))) := by rw [hW]; exact heap_new_at (w.alloc (.cells #[.int .i64 n, v] 28)) (.cells #[.int .i64 0, .slice none 0 0] 28) (w.heap.size + 1) (by simp)
  have his := implIs_any n v zs W (h.below D0) hl (hT.belowAll D0)
  rw [hg] at his
  clear h hg hT
  go_enter Tryd.func40, Tryd.ntmps40
  obtain ⟨a0, a1, -, -⟩ := two_cells HK2.out
  rw [hW] at a0 a1
  go_wp2_with fail
  rw [← hW]
  clear hW
  refine his.mono ?_
  rintro e w1 ⟨rfl, hb1⟩
  have RB := Lib.hid ((hb1.block (w.heap.size + 1) (by omega)).trans HK3.out)
  obtain ⟨r0, r1, g0, g1⟩ := two_cells RB.out
  have D1 := D0.trans (hb1.mono D0.size)
  clear a0 a1 his hb1
  go_wp2
  have hfin := two_set (a := .int .i64 0) (b := .slice none 0 0) RB.out
  refine bodyPost_ret (v := .tuple #[.agg #[.int .i64 0, .slice none 0 0], .int .i64 1]) (results_cell2 (p := 4) (u := 5) (ty := 28) rfl _ _ (w.heap.size + 1) 28 _ (0, 0) _ rfl hfin Tryd.underlying28 rfl (by exact info27)) rfl ⟨⟨_, rfl, Own.nil _ _⟩, ?_⟩
  exact (D1.setCell (p := ⟨w.heap.size + 1, 0, none⟩) (by simp) _).setCell (p := ⟨w.heap.size + 1, 1, none⟩) (by simp) _

set_option maxHeartbeats 1600000 in
theorem implOn_empty (n : Int) (v : Value) (a : Option Addr) (c : Nat) (zs : List Int) (w : World) (h : Sl w v zs) (hg : isG n zs = true) (hl : zs.length ≤ 9223372036854775807) (hT : Tab w) :
    Calls Tryd.prog 40 #[.agg #[.int .i64 n, v], .slice a 0 c] w fun e w' => GRes w.heap.size 0 [] 2 e w' ∧ Below w.heap.size w w' := by
  obtain ⟨W, hW⟩ : ∃ W, W = ((w.alloc (.cells #[.int .i64 n, v] 28)).alloc (.cells #[.int .i64 0, .slice none 0 0] 28)) := ⟨_, rfl⟩
  have D0 : Below w.heap.size w W := by rw [hW]; exact ((Below.refl _ _).alloc (Nat.le_refl _) _).alloc (by simp) _
  have hsz : w.heap.size + 2 ≤ W.heap.size := by rw [hW]; simp
  have HK2 : Hid (W.heap[w.heap.size]? = some (.cells #[.int .i64 n, v] 28 (0, 0))) := by rw [hW]; exact heap_old_at (heap_new_at w (.cells #[.int .i64 n, v] 28) w.heap.size rfl) _
  have HK3 : Hid (W.heap[w.heap.size + 1]? = some (.cells #[.int .i64 0, .slice none 0 0] 28 (0, 0))) := by rw [hW]; exact heap_new_at (w.alloc (.cells #[.int .i64 n, v] 28)) (.cells #[.int .i64 0, .slice none 0 0] 28) (w.heap.size + 1) (by simp)
  have his := implIs_any n v zs W (h.below D0) hl (hT.belowAll D0)
  rw [hg] at his
  clear h hg hT
  go_enter Tryd.func40, Tryd.ntmps40
  obtain ⟨a0, a1, -, -⟩ := two_cells HK2.out
  rw [hW] at a0 a1
  go_wp2_with fail
  rw [← hW]
  clear hW
  refine his.mono ?_
  rintro e w1 ⟨rfl, hb1⟩
  have RB := Lib.hid ((hb1.block (w.heap.size + 1) (by omega)).trans HK3.out)
  obtain ⟨r0, r1, g0, g1⟩ := two_cells RB.out
  have D1 := D0.trans (hb1.mono D0.size)
  clear a0 a1 his hb1
  go_wp2
  have hfin := two_set (a := .int .i64 0) (b := .slice none 0 0) RB.out
  refine bodyPost_ret (v := .tuple #[.agg #[.int .i64 0, .slice none 0 0], .int .i64 2]) (results_cell2 (p := 4) (u := 5) (ty := 28) rfl _ _ (w.heap.size + 1) 28 _ (0, 0) _ rfl hfin Tryd.underlying28 rfl (by exact info27)) rfl ⟨⟨_, rfl, Own.nil _ _⟩, ?_⟩
  exact (D1.setCell (p := ⟨w.heap.size + 1, 0, none⟩) (by simp) _).setCell (p := ⟨w.heap.size + 1, 1, none⟩) (by simp) _

set_option maxHeartbeats 1600000 in
theorem implOn_bad (n : Int) (v : Value) (b2 off2 cap2 : Nat) (zs vs : List Int) (w : World) (h : Sl w v zs) (hb2 : b2 < w.heap.size) (hc2 : Cells w b2 off2 vs) (hg : isG n zs = true) (hl : zs.length ≤ 9223372036854775807) (hl2 : vs.length ≤ 9223372036854775807) (hT : Tab w) (h0 : 0 < vs.length) (ha : ascTo n vs vs.length = false) :
    Calls Tryd.prog 40 #[.agg #[.int .i64 n, v], .slice (some ⟨b2, off2, none⟩) vs.length cap2] w fun e w' => GRes w.heap.size 0 [] 2 e w' ∧ Below w.heap.size w w' := by
  obtain ⟨W, hW⟩ : ∃ W, W = ((w.alloc (.cells #[.int .i64 n, v] 28)).alloc (.cells #[.int .i64 0, .slice none 0 0] 28)) := ⟨_, rfl⟩
  have D0 : Below w.heap.size w W := by rw [hW]; exact ((Below.refl _ _).alloc (Nat.le_refl _) _).alloc (by simp) _
  have hsz : w.heap.size + 2 ≤ W.heap.size := by rw [hW]; simp
  have HK2 : Hid (W.heap[w.heap.size]? = some (.cells #[.int .i64 n, v] 28 (0, 0))) := by rw [hW]; exact heap_old_at (heap_new_at w (.cells #[.int .i64 n, v] 28) w.heap.size rfl) _
  have HK3 : Hid (W.heap[w.heap.size + 1]? = some (.cells #[.int .i64 0, .slice none 0 0] 28 (0, 0))) := by rw [hW]; exact heap_new_at (w.alloc (.cells #[.int .i64 n, v] 28)) (.cells #[.int .i64 0, .slice none 0 0] 28) (w.heap.size + 1) (by simp)
  have his := implIs_any n v zs W (h.below D0) hl (hT.belowAll D0)
  rw [hg] at his
  have C2 := hc2.below D0 hb2
  have hasc := fun (W1 : World) (h : Below W.heap.size W W1) => asc_some n b2 off2 cap2 vs W1 (C2.below h (by omega)) (by omega) (isG_parts hg).2.1
  rw [ha] at hasc
  have HASC := Lib.hid hasc
  have t0 : ((vs.length : Int) == 0) = false := by rw [beq_eq_false_iff_ne]; omega
  clear h hg hT hc2 C2 ha hasc
  go_enter Tryd.func40, Tryd.ntmps40
  obtain ⟨a0, a1, -, -⟩ := two_cells HK2.out
  rw [hW] at a0 a1
  go_wp2_with fail
  rw [← hW]
  clear hW
  refine his.mono ?_
  rintro e w1 ⟨rfl, hb1⟩
  clear a0 a1
  obtain ⟨a0, a1, -, -⟩ := two_cells ((hb1.block w.heap.size (by omega)).trans HK2.out)
  go_wp2_with fail
  refine (HASC.out w1 hb1).mono ?_
  rintro e w1' ⟨rfl, rfl⟩
  have RB := Lib.hid ((hb1.block (w.heap.size + 1) (by omega)).trans HK3.out)
  obtain ⟨r0, r1, g0, g1⟩ := two_cells RB.out
  have D1 := D0.trans (hb1.mono D0.size)
  clear a0 a1 his hb1
  go_wp2
  have hfin := two_set (a := .int .i64 0) (b := .slice none 0 0) RB.out
  refine bodyPost_ret (v := .tuple #[.agg #[.int .i64 0, .slice none 0 0], .int .i64 2]) (results_cell2 (p := 4) (u := 5) (ty := 28) rfl _ _ (w.heap.size + 1) 28 _ (0, 0) _ rfl hfin Tryd.underlying28 rfl (by exact info27)) rfl ⟨⟨_, rfl, Own.nil _ _⟩, ?_⟩
  exact (D1.setCell (p := ⟨w.heap.size + 1, 0, none⟩) (by simp) _).setCell (p := ⟨w.heap.size + 1, 1, none⟩) (by simp) _

/-- Is the list at least one vertex, ascending? -/
def onB (n : Int) (vs : List Int) : Bool := decide (0 < vs.length) && ascTo n vs vs.length
/-- Size, rows and code of the part of a graph on vertices. -/
def ONN (n : Int) (zs vs : List Int) : Int := if isG n zs && onB n vs then vs.length else 0
def ONL (n : Int) (zs vs : List Int) : List Int := if isG n zs && onB n vs then onL zs vs else []
def ONC (n : Int) (zs vs : List Int) : Int := if isG n zs then (if onB n vs then 0 else 2) else 1
theorem ON_yes {n : Int} {zs vs : List Int} (hg : isG n zs = true) (h : onB n vs = true) : ONN n zs vs = vs.length ∧ ONL n zs vs = onL zs vs ∧ ONC n zs vs = 0 := by simp [ONN, ONL, ONC, hg, h]
theorem ON_bad {n : Int} {zs vs : List Int} (hg : isG n zs = true) (h : onB n vs = false) : ONN n zs vs = 0 ∧ ONL n zs vs = [] ∧ ONC n zs vs = 2 := by simp [ONN, ONL, ONC, hg, h]
theorem ON_no {n : Int} {zs vs : List Int} (hg : isG n zs = false) : ONN n zs vs = 0 ∧ ONL n zs vs = [] ∧ ONC n zs vs = 1 := by simp [ONN, ONL, ONC, hg]
theorem ONL_length (n : Int) (zs vs : List Int) : (ONL n zs vs).length ≤ 62 := by
  unfold ONL
  split
  · rename_i h
    simp only [Bool.and_eq_true] at h
    obtain ⟨h1, h2, _, _⟩ := isG_parts h.1
    have h3 := h.2
    unfold onB at h3
    simp only [Bool.and_eq_true] at h3
    have := ascTo_len h3.2 (by omega)
    rw [onL_length]; omega
  · simp

theorem implOn_any (n : Int) (v u : Value) (zs vs : List Int) (w : World) (h : Sl w v zs) (h2 : Sl w u vs) (hl : zs.length ≤ 9223372036854775807) (hl2 : vs.length ≤ 9223372036854775807) (hT : Tab w) :
    Calls Tryd.prog 40 #[.agg #[.int .i64 n, v], u] w fun e w' => GRes w.heap.size (ONN n zs vs) (ONL n zs vs) (ONC n zs vs) e w' ∧ Below w.heap.size w w' := by
  cases hg : isG n zs
  · obtain ⟨e1, e2, e3⟩ := ON_no (vs := vs) hg
    rw [e1, e2, e3]
    exact implOn_no n v u zs w h hg hl hT
  · rcases h2 with ⟨a, c, rfl, rfl⟩ | ⟨b2, off2, cap2, rfl, hb2, hc2⟩
    · obtain ⟨e1, e2, e3⟩ := ON_bad (vs := []) hg (by simp [onB])
      rw [e1, e2, e3]
      exact implOn_empty n v a c zs w h hg hl hT
    · by_cases h0 : 0 < vs.length
      · cases ha : ascTo n vs vs.length
        · obtain ⟨e1, e2, e3⟩ := ON_bad (vs := vs) hg (by simp [onB, ha])
          rw [e1, e2, e3]
          exact implOn_bad n v b2 off2 cap2 zs vs w h hb2 hc2 hg hl hl2 hT h0 ha
        · obtain ⟨e1, e2, e3⟩ := ON_yes (vs := vs) hg (by simp [onB, ha, h0])
          rw [e1, e2, e3]
          obtain ⟨p1, _, p3, _⟩ := isG_parts hg
          obtain ⟨b, off, cap, rfl, hb, hc⟩ := sl_some h (by omega)
          subst p3
          exact implOn_yes b off cap b2 off2 cap2 zs vs w hb hc hb2 hc2 hg hT ha h0
      · obtain rfl : vs = [] := List.eq_nil_of_length_eq_zero (by omega)
        obtain ⟨e1, e2, e3⟩ := ON_bad (vs := []) hg (by simp [onB])
        rw [e1, e2, e3]
        exact implOn_empty n v _ _ zs w h hg hl hT
end Go.Proofs.YtbpcdgfcdahnlaaDoor
