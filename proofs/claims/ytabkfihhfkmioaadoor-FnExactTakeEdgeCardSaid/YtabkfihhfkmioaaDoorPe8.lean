/-
  impl.PutEdge, TakeEdge.
-/
import Derived.Test.YtabkfihhfkmioaaDoorEx9
namespace Go.Proofs.YtabkfihhfkmioaaDoor
set_option maxRecDepth 100000
open Go.RowKit

theorem exch_any (s : Bool) (bf : Int) (hs : bf = if s then 1 else 0) (n : Int) (v : Value) (zs : List Int) (x y : Int) (w : World) (h : Sl w v zs) (hl : zs.length ≤ 9223372036854775807) (hT : Tab w) :
    Calls Tryd.prog 91 #[.agg #[.int .i64 n, v], .int .i64 x, .int .i64 y, .int .i64 bf] w fun e w' => GRes w.heap.size (EN s n zs x y) (EL s n zs x y) (EC s n zs x y) e w' ∧ Below w.heap.size w w' := by
  by_cases hc : TCc n zs x y = 0
  · obtain ⟨hg, p1, p2, p3, p4, p5⟩ := TCc_parts hc
    obtain ⟨h1, _, h3, _⟩ := isG_parts hg
    obtain ⟨b, off, cap, rfl, hb, hcc⟩ := sl_some h (by omega)
    have hin : inE n x y = true := decide_eq_true ⟨p1, p2, p3, p4, p5⟩
    obtain ⟨x, rfl⟩ := Int.eq_ofNat_of_zero_le p1
    obtain ⟨y, rfl⟩ := Int.eq_ofNat_of_zero_le p3
    have hx : x < zs.length := by omega
    have hy : y < zs.length := by omega
    have hxy : x ≠ y := fun e => p5 (by rw [e])
    by_cases hbt : bt (el zs x) y = s
    · have ho : okE s n zs x y = true := by rw [okE_of]; simp [hc, hbt]
      rw [show EL s n zs x y = flipL zs x y by simp [EL, ho], show EN s n zs x y = n by simp [EN, ho], show EC s n zs x y = 0 by simp [EC, hc, hbt]]
      exact exch_yes n b off cap zs x y bf w hb hcc hg hl hT hin hx hy hxy (by rw [hbt, hs]; cases s <;> rfl)
    · have ho : okE s n zs x y = false := by rw [okE_of]; simp [hbt]
      rw [show EL s n zs x y = [] by simp [EL, ho], show EN s n zs x y = 0 by simp [EN, ho], show EC s n zs x y = 5 by simp [EC, hc, hbt]]
      exact exch_state n b off cap zs x y bf w hb hcc hg hl hT hin hx hy (by rw [hs]; revert hbt; cases bt (el zs x) y <;> cases s <;> simp)
  · have ho : okE s n zs x y = false := by rw [okE_of]; simp [hc]
    rw [show EL s n zs x y = [] by simp [EL, ho], show EN s n zs x y = 0 by simp [EN, ho], show EC s n zs x y = TCc n zs x y by simp [EC, hc]]
    cases hg : isG n zs
    · rw [show TCc n zs x y = 1 by simp [TCc, hg]]
      exact exch_no n v zs x y bf w h hg hl hT
    · obtain ⟨h1, _, h3, _⟩ := isG_parts hg
      obtain ⟨b, off, cap, rfl, hb, hcc⟩ := sl_some h (by omega)
      cases hin : inE n x y
      · rw [show TCc n zs x y = 2 by simp [TCc, hg, hin]]
        exact exch_out n b off cap zs x y bf w hb hcc hg hl hT hin
      · exact absurd (by simp [TCc, hg, hin]) hc

set_option maxHeartbeats 1600000 in
theorem implPutEdge_any (n : Int) (v : Value) (zs : List Int) (x y : Int) (w : World) (h : Sl w v zs) (hl : zs.length ≤ 9223372036854775807) (hT : Tab w) :
    Calls Tryd.prog 38 #[.agg #[.int .i64 n, v], .int .i64 x, .int .i64 y] w fun e w' => GRes w.heap.size (EN false n zs x y) (EL false n zs x y) (EC false n zs x y) e w' ∧ Below w.heap.size w w' := by
  obtain ⟨W, hW⟩ : ∃ W, W = ((w.alloc (.cells #[.int .i64 n, v] 26)).alloc (.cells #[.int .i64 0, .slice none 0 0] 26)) := ⟨_, rfl⟩
  have D0 : Below w.heap.size w W := by rw [hW]; exact ((Below.refl _ _).alloc (Nat.le_refl _) _).alloc (by simp) _
  have hsz : W.heap.size = w.heap.size + 2 := by rw [hW]; simp
  have HH1 : Hid (W.heap[w.heap.size + 1]? = some (.cells #[.int .i64 0, .slice none 0 0] 26 (0, 0))) := by rw [hW]; exact heap_new_at (w.alloc (.cells #[.int .i64 n, v] 26)) (.cells #[.int .i64 0, .slice none 0 0] 26) (w.heap.size + 1) (by simp)
  have HH0 : Hid (W.heap[w.heap.size]? = some (.cells #[.int .i64 n, v] 26 (0, 0))) := by rw [hW]; exact heap_old_at (heap_new_at w (.cells #[.int .i64 n, v] 26) w.heap.size rfl) _
  have hex := exch_any false 0 rfl n v zs x y W (h.below D0) hl (hT.belowAll D0)
  generalize EN false n zs x y = N at hex ⊢
  generalize EL false n zs x y = L at hex ⊢
  generalize EC false n zs x y = c at hex ⊢
  have HSZ := Lib.hid hsz
  clear hsz h hT
  go_enter Tryd.func38, Tryd.ntmps38
  obtain ⟨a0, a1, -, -⟩ := two_cells HH0.out
  rw [hW] at a0 a1
  go_wp2_with fail
  rw [← hW]
  clear hW a0 a1
  refine hex.mono ?_
  rintro e w1 ⟨⟨u, rfl, hO⟩, hb1⟩
  obtain ⟨ua, ul, uc, rfl⟩ := slice_of hO
  have RB := Lib.hid ((hb1.block (w.heap.size + 1) (by rw [HSZ.out]; omega)).trans HH1.out)
  obtain ⟨r0, r1, g0, g1⟩ := two_cells RB.out
  have D1 := D0.trans (hb1.mono D0.size)
  have HO := Lib.hid hO
  clear hex hO hb1
  go_wp2
  have hfin := two_set (a := .int .i64 N) (b := .slice ua ul uc) RB.out
  have hgr : w1.grownBy ((w1.setCell ⟨w.heap.size + 1, 0, none⟩ (.int .i64 N)).setCell ⟨w.heap.size + 1, 1, none⟩ (.slice ua ul uc)) (some (w.heap.size + 1)) := grown_set (grown_set ⟨rfl, rfl, rfl, Nat.le_refl _, fun _ _ _ => rfl⟩ _ 0 _) _ 1 _
  refine bodyPost_ret (v := .tuple #[.agg #[.int .i64 N, .slice ua ul uc], .int .i64 c]) (results_cell2 (p := 6) (u := 7) (ty := 26) rfl _ _ (w.heap.size + 1) 26 _ (0, 0) _ rfl hfin Tryd.underlying26 rfl (by exact info27)) rfl ⟨⟨_, rfl, ?_⟩, ?_⟩
  · have hO := HO.out
    have hs := HSZ.out
    have hne : (Value.slice ua ul uc).ownBlock = none ∨ (Value.slice ua ul uc).ownBlock ≠ some (w.heap.size + 1) := by
      cases hu : (Value.slice ua ul uc).ownBlock with
      | none => exact .inl rfl
      | some k => refine .inr fun e => ?_; cases e; have h1 := hO.ge _ hu; omega
    exact (hO.kept hgr hne).base (by omega)
  · exact (D1.setCell (p := ⟨w.heap.size + 1, 0, none⟩) (by simp) _).setCell (p := ⟨w.heap.size + 1, 1, none⟩) (by simp) _

set_option maxHeartbeats 1600000 in
theorem implTakeEdge_any (n : Int) (v : Value) (zs : List Int) (x y : Int) (w : World) (h : Sl w v zs) (hl : zs.length ≤ 9223372036854775807) (hT : Tab w) :
    Calls Tryd.prog 40 #[.agg #[.int .i64 n, v], .int .i64 x, .int .i64 y] w fun e w' => GRes w.heap.size (EN true n zs x y) (EL true n zs x y) (EC true n zs x y) e w' ∧ Below w.heap.size w w' := by
  obtain ⟨W, hW⟩ : ∃ W, W = ((w.alloc (.cells #[.int .i64 n, v] 26)).alloc (.cells #[.int .i64 0, .slice none 0 0] 26)) := ⟨_, rfl⟩
  have D0 : Below w.heap.size w W := by rw [hW]; exact ((Below.refl _ _).alloc (Nat.le_refl _) _).alloc (by simp) _
  have hsz : W.heap.size = w.heap.size + 2 := by rw [hW]; simp
  have HH1 : Hid (W.heap[w.heap.size + 1]? = some (.cells #[.int .i64 0, .slice none 0 0] 26 (0, 0))) := by rw [hW]; exact heap_new_at (w.alloc (.cells #[.int .i64 n, v] 26)) (.cells #[.int .i64 0, .slice none 0 0] 26) (w.heap.size + 1) (by simp)
  have HH0 : Hid (W.heap[w.heap.size]? = some (.cells #[.int .i64 n, v] 26 (0, 0))) := by rw [hW]; exact heap_old_at (heap_new_at w (.cells #[.int .i64 n, v] 26) w.heap.size rfl) _
  have hex := exch_any true 1 rfl n v zs x y W (h.below D0) hl (hT.belowAll D0)
  generalize EN true n zs x y = N at hex ⊢
  generalize EL true n zs x y = L at hex ⊢
  generalize EC true n zs x y = c at hex ⊢
  have HSZ := Lib.hid hsz
  clear hsz h hT
  go_enter Tryd.func40, Tryd.ntmps40
  obtain ⟨a0, a1, -, -⟩ := two_cells HH0.out
  rw [hW] at a0 a1
  go_wp2_with fail
  rw [← hW]
  clear hW a0 a1
  refine hex.mono ?_
  rintro e w1 ⟨⟨u, rfl, hO⟩, hb1⟩
  obtain ⟨ua, ul, uc, rfl⟩ := slice_of hO
  have RB := Lib.hid ((hb1.block (w.heap.size + 1) (by rw [HSZ.out]; omega)).trans HH1.out)
  obtain ⟨r0, r1, g0, g1⟩ := two_cells RB.out
  have D1 := D0.trans (hb1.mono D0.size)
  have HO := Lib.hid hO
  clear hex hO hb1
  go_wp2
  have hfin := two_set (a := .int .i64 N) (b := .slice ua ul uc) RB.out
  have hgr : w1.grownBy ((w1.setCell ⟨w.heap.size + 1, 0, none⟩ (.int .i64 N)).setCell ⟨w.heap.size + 1, 1, none⟩ (.slice ua ul uc)) (some (w.heap.size + 1)) := grown_set (grown_set ⟨rfl, rfl, rfl, Nat.le_refl _, fun _ _ _ => rfl⟩ _ 0 _) _ 1 _
  refine bodyPost_ret (v := .tuple #[.agg #[.int .i64 N, .slice ua ul uc], .int .i64 c]) (results_cell2 (p := 6) (u := 7) (ty := 26) rfl _ _ (w.heap.size + 1) 26 _ (0, 0) _ rfl hfin Tryd.underlying26 rfl (by exact info27)) rfl ⟨⟨_, rfl, ?_⟩, ?_⟩
  · have hO := HO.out
    have hs := HSZ.out
    have hne : (Value.slice ua ul uc).ownBlock = none ∨ (Value.slice ua ul uc).ownBlock ≠ some (w.heap.size + 1) := by
      cases hu : (Value.slice ua ul uc).ownBlock with
      | none => exact .inl rfl
      | some k => refine .inr fun e => ?_; cases e; have h1 := hO.ge _ hu; omega
    exact (hO.kept hgr hne).base (by omega)
  · exact (D1.setCell (p := ⟨w.heap.size + 1, 0, none⟩) (by simp) _).setCell (p := ⟨w.heap.size + 1, 1, none⟩) (by simp) _
end Go.Proofs.YtabkfihhfkmioaaDoor
