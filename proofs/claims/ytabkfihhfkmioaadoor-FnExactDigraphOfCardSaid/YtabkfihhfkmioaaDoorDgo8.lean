/-
  DigraphOf: both programs. (gen/mk_dgo8.py)
-/
import Derived.Test.YtabkfihhfkmioaaDoorPe7
import Derived.Test.YtabkfihhfkmioaaDoorDh8
import Derived.Test.YtabkfihhfkmioaaDoorCl9
import Derived.Test.YtabkfihhfkmioaaDoorIsB
import Derived.Deep.RegionWith
import Derived.Deep.DeepCutAuto
namespace Go.Proofs.YtabkfihhfkmioaaDoor
set_option maxRecDepth 100000
set_option maxRecDepth 100000
open Go.RowKit

/-- The digraph of a graph. -/
def doN (n : Int) (zs : List Int) : Int := if isG n zs then n else 0
def doR (n : Int) (zs : List Int) : List Int := if isG n zs then zs else []
def doC (n : Int) (zs : List Int) : Int := if isG n zs then 0 else 1
theorem doR_length (n : Int) (zs : List Int) : (doR n zs).length ≤ 62 := by
  unfold doR
  cases h : isG n zs with
  | false => simp
  | true => obtain ⟨g1, g2, g3, -⟩ := isG_parts h; simp; omega


set_option maxHeartbeats 1600000 in
theorem specDo_no (n : Int) (v : Value) (zs : List Int) (w : World) (hs : Sl w v zs) (hl : zs.length ≤ 9223372036854775807) (hd : isG n zs = false) :
    Calls Tryd.prog 45 #[.agg #[.int .i64 n, v]] w fun e w' => GRes w.heap.size 0 [] 1 e w' ∧ Below w.heap.size w w' := by
  obtain ⟨W, hW⟩ : ∃ W, W = (w.alloc (.cells #[.int .i64 n, v] 26)).alloc (.cells #[.int .i64 0, .slice none 0 0] 49) := ⟨_, rfl⟩
  have D0 : Below w.heap.size w W := by rw [hW]; exact ((Below.refl _ _).alloc (Nat.le_refl _) _).alloc (by simp) _
  have his := l01Is_any n v zs W (hs.below D0) hl
  rw [hd] at his
  have HR : Hid (W.heap[w.heap.size + 1]? = some (.cells #[.int .i64 0, .slice none 0 0] 49 (0, 0))) := by show _ = _; rw [hW]; exact heap_new_at _ _ _ (by simp)
  have HD := Lib.hid D0
  clear hs hd D0
  go_enter Tryd.func45, Tryd.ntmps45
  go_wp2_with (go_at_call 78; rw [← hW]; refine his.mono ?_; rintro e w1 ⟨rfl, hb1⟩; have HR1 := Lib.hid ((hb1.block (w.heap.size + 1) (Array.getElem?_eq_some_iff.1 HR.out).1).trans HR.out); have HB1 := Lib.hid (HD.out.trans (hb1.mono HD.out.size)); obtain ⟨r0, r1, g0, g1⟩ := two_cells HR1.out; clear hb1)
  have hfin := two_set (a := .int .i64 0) (b := .slice none 0 0) HR1.out
  refine bodyPost_ret (v := .tuple #[.agg #[.int .i64 0, .slice none 0 0], .int .i64 1]) (results_cell2 (p := 2) (u := 3) (ty := 49) rfl _ _ (w.heap.size + 1) 49 _ (0, 0) _ rfl hfin Tryd.underlying49 rfl (by exact infoDg)) rfl ⟨⟨_, rfl, Own.nil _ _⟩, ?_⟩
  exact (HB1.out.setCell (p := ⟨w.heap.size + 1, 0, none⟩) (by simp) _).setCell (p := ⟨w.heap.size + 1, 1, none⟩) (by simp) _


set_option maxHeartbeats 3200000 in
theorem specDo_yes (n : Int) (b off cap : Nat) (zs : List Int) (w : World) (hb : b < w.heap.size) (hc : Cells w b off zs) (hl : zs.length ≤ 9223372036854775807) (hd : isG n zs = true) :
    Calls Tryd.prog 45 #[.agg #[.int .i64 n, .slice (some ⟨b, off, none⟩) zs.length cap]] w fun e w' => GRes w.heap.size n zs 0 e w' ∧ Below w.heap.size w w' := by
  obtain ⟨W, hW⟩ : ∃ W, W = (w.alloc (.cells #[.int .i64 n, .slice (some ⟨b, off, none⟩) zs.length cap] 26)).alloc (.cells #[.int .i64 0, .slice none 0 0] 49) := ⟨_, rfl⟩
  have D0 : Below w.heap.size w W := by rw [hW]; exact ((Below.refl _ _).alloc (Nat.le_refl _) _).alloc (by simp) _
  have his := l01Is_any n _ zs W (.inr ⟨b, off, cap, rfl, Nat.lt_of_lt_of_le hb D0.size, hc.below D0 hb⟩) hl
  rw [hd] at his
  have hl62 : zs.length ≤ 62 := by obtain ⟨g1, g2, g3, -⟩ := isG_parts hd; omega
  have HG0 : Hid (GBox W w.heap.size n b off cap zs) := by
    show GBox _ _ _ _ _ _ _
    rw [hW]
    exact (GBox.new (n := n) (cap := cap) hb hc).below ((Below.refl _ _).alloc (by simp) _)
  have HR : Hid (W.heap[w.heap.size + 1]? = some (.cells #[.int .i64 0, .slice none 0 0] 49 (0, 0))) := by show _ = _; rw [hW]; exact heap_new_at _ _ _ (by simp)
  have HD := Lib.hid D0
  have HS : Hid (W.heap.size = w.heap.size + 2) := by show _ = _; rw [hW]; simp
  clear hc hd D0
  go_enter Tryd.func45, Tryd.ntmps45
  go_upto_region 3 with (go_at_call 78; rw [← hW]; refine his.mono ?_; rintro e w3 ⟨rfl, hb1⟩; have HB4 := Lib.hid hb1; have G1 := HG0.out.below (hb1.mono (by have := HS.out; omega)); have b0 := G1.b0; have b1 := G1.b1; have HG1 := Lib.hid G1; have HR3 := Lib.hid ((hb1.block (w.heap.size + 1) (Array.getElem?_eq_some_iff.1 HR.out).1).trans HR.out); clear hb1 G1)
  have HCL : Hid (∀ W1, Below w3.heap.size w3 W1 → Calls Tryd.prog 99 #[.slice (some ⟨b, off, none⟩) zs.length cap] W1 fun e w' => (∃ u, e = .returned u ∧ Own w' W1.heap.size u zs) ∧ Below W1.heap.size W1 w') := fun W1 h => by
    have G2 := HG1.out.below (h.mono (by have := HG1.out.lt; omega))
    refine (l01Own_some b off cap zs W1 G2.lb G2.cells hl62).mono ?_
    rintro e w' ⟨u, rfl, hO, hB⟩; exact ⟨⟨u, rfl, hO⟩, hB⟩
  clear his hW
  obtain ⟨r0, r1, g0, g1⟩ := two_cells HR3.out
  go_region_with (go_at_call 99; refine (HCL.out _ (by first | exact (Below.refl _ _).drew | exact Below.refl _ _)).mono ?_; rintro e w4 ⟨⟨u, rfl, hO⟩, hb4⟩; obtain ⟨ua, ul, uc, rfl⟩ := slice_of hO; have HO := Lib.hid hO; have hb4' := ((Below.refl w3.heap.size w3).drew).trans (hb4.mono (by simp)); have HB5 := Lib.hid (HB4.out.trans (hb4'.mono HB4.out.size)); have hm4 := hb4'.size; have HR4 := Lib.hid ((hb4'.block (w.heap.size + 1) (Array.getElem?_eq_some_iff.1 HR3.out).1).trans HR3.out); have c0 := (HG0.out.below (HB5.out.mono (by have := HS.out; omega))).b0; obtain ⟨r0, r1, g0, g1⟩ := two_cells HR4.out; clear hO hb4 hb4')
  all_goals
    go_wp2_with fail
    have hfin := two_set (a := .int .i64 n) (b := .slice ua ul uc) HR4.out
    have hs := HS.out
    have hb4s := HB4.out.size
    refine bodyPost_ret (v := .tuple #[.agg #[.int .i64 n, .slice ua ul uc], .int .i64 0]) (results_cell2 (p := 2) (u := 3) (ty := 49) rfl _ _ (w.heap.size + 1) 49 _ (0, 0) _ rfl hfin Tryd.underlying49 rfl (by exact infoDg)) rfl ⟨⟨_, rfl, ?_⟩, ?_⟩
    · have hne : (Value.slice ua ul uc).ownBlock ≠ some (w.heap.size + 1) := fun e => by have := HO.out.ge _ e; simp at this; omega
      exact (HO.out.base (by simp; omega)).kept (grown_set (grown_set ⟨rfl, rfl, rfl, Nat.le_refl _, fun _ _ _ => rfl⟩ _ 0 _) _ 1 _) (.inr hne)
    · exact ((HD.out.trans (HB5.out.mono HD.out.size)).setCell (p := ⟨w.heap.size + 1, 0, none⟩) (by simp) _).setCell (p := ⟨w.heap.size + 1, 1, none⟩) (by simp) _


theorem specDo_any (n : Int) (v : Value) (zs : List Int) (w : World) (hs : Sl w v zs) (hl : zs.length ≤ 9223372036854775807) :
    Calls Tryd.prog 45 #[.agg #[.int .i64 n, v]] w fun e w' => GRes w.heap.size (doN n zs) (doR n zs) (doC n zs) e w' ∧ Below w.heap.size w w' := by
  unfold doN doR doC
  cases hd : isG n zs with
  | false => exact specDo_no n v zs w hs hl hd
  | true =>
    rcases hs with ⟨a, c, rfl, rfl⟩ | ⟨b, off, cap, rfl, hb, hc⟩
    · obtain ⟨g1, g2, g3, -⟩ := isG_parts hd; simp at g3; omega
    · exact specDo_yes n b off cap zs w hb hc hl hd


set_option maxHeartbeats 1600000 in
theorem implDo_no (n : Int) (v : Value) (zs : List Int) (w : World) (hs : Sl w v zs) (hl : zs.length ≤ 9223372036854775807) (hT : Tab w) (hd : isG n zs = false) :
    Calls Tryd.prog 46 #[.agg #[.int .i64 n, v]] w fun e w' => GRes w.heap.size 0 [] 1 e w' ∧ Below w.heap.size w w' := by
  obtain ⟨W, hW⟩ : ∃ W, W = (w.alloc (.cells #[.int .i64 n, v] 26)).alloc (.cells #[.int .i64 0, .slice none 0 0] 49) := ⟨_, rfl⟩
  have D0 : Below w.heap.size w W := by rw [hW]; exact ((Below.refl _ _).alloc (Nat.le_refl _) _).alloc (by simp) _
  have his := implIs_any n v zs W (hs.below D0) hl (hT.belowAll D0)
  rw [hd] at his
  have HR : Hid (W.heap[w.heap.size + 1]? = some (.cells #[.int .i64 0, .slice none 0 0] 49 (0, 0))) := by show _ = _; rw [hW]; exact heap_new_at _ _ _ (by simp)
  have HD := Lib.hid D0
  clear hs hd D0 hT
  go_enter Tryd.func46, Tryd.ntmps46
  go_wp2_with (go_at_call 73; rw [← hW]; refine his.mono ?_; rintro e w1 ⟨rfl, hb1⟩; have HR1 := Lib.hid ((hb1.block (w.heap.size + 1) (Array.getElem?_eq_some_iff.1 HR.out).1).trans HR.out); have HB1 := Lib.hid (HD.out.trans (hb1.mono HD.out.size)); obtain ⟨r0, r1, g0, g1⟩ := two_cells HR1.out; clear hb1)
  have hfin := two_set (a := .int .i64 0) (b := .slice none 0 0) HR1.out
  refine bodyPost_ret (v := .tuple #[.agg #[.int .i64 0, .slice none 0 0], .int .i64 1]) (results_cell2 (p := 2) (u := 3) (ty := 49) rfl _ _ (w.heap.size + 1) 49 _ (0, 0) _ rfl hfin Tryd.underlying49 rfl (by exact infoDg)) rfl ⟨⟨_, rfl, Own.nil _ _⟩, ?_⟩
  exact (HB1.out.setCell (p := ⟨w.heap.size + 1, 0, none⟩) (by simp) _).setCell (p := ⟨w.heap.size + 1, 1, none⟩) (by simp) _


set_option maxHeartbeats 3200000 in
theorem implDo_yes (n : Int) (b off cap : Nat) (zs : List Int) (w : World) (hb : b < w.heap.size) (hc : Cells w b off zs) (hl : zs.length ≤ 9223372036854775807) (hT : Tab w) (hd : isG n zs = true) :
    Calls Tryd.prog 46 #[.agg #[.int .i64 n, .slice (some ⟨b, off, none⟩) zs.length cap]] w fun e w' => GRes w.heap.size n zs 0 e w' ∧ Below w.heap.size w w' := by
  obtain ⟨W, hW⟩ : ∃ W, W = (w.alloc (.cells #[.int .i64 n, .slice (some ⟨b, off, none⟩) zs.length cap] 26)).alloc (.cells #[.int .i64 0, .slice none 0 0] 49) := ⟨_, rfl⟩
  have D0 : Below w.heap.size w W := by rw [hW]; exact ((Below.refl _ _).alloc (Nat.le_refl _) _).alloc (by simp) _
  have his := implIs_any n _ zs W (.inr ⟨b, off, cap, rfl, Nat.lt_of_lt_of_le hb D0.size, hc.below D0 hb⟩) hl (hT.belowAll D0)
  rw [hd] at his
  have hl62 : zs.length ≤ 62 := by obtain ⟨g1, g2, g3, -⟩ := isG_parts hd; omega
  have HG0 : Hid (GBox W w.heap.size n b off cap zs) := by
    show GBox _ _ _ _ _ _ _
    rw [hW]
    exact (GBox.new (n := n) (cap := cap) hb hc).below ((Below.refl _ _).alloc (by simp) _)
  have HR : Hid (W.heap[w.heap.size + 1]? = some (.cells #[.int .i64 0, .slice none 0 0] 49 (0, 0))) := by show _ = _; rw [hW]; exact heap_new_at _ _ _ (by simp)
  have HD := Lib.hid D0
  have hS : w.heap.size + 2 ≤ W.heap.size := by rw [hW]; simp
  clear hc hd D0 hT
  go_enter Tryd.func46, Tryd.ntmps46
  go_wp2_with (first | (go_at_call 73; rw [← hW]; refine his.mono ?_; rintro e w3 ⟨rfl, hb1⟩; have HB3 := Lib.hid (HD.out.trans (hb1.mono (by omega))); have G1 := HG0.out.below (hb1.mono (by omega)); have b0 := G1.b0; have b1 := G1.b1; have HCP := Lib.hid (copyOf_some n b off cap zs w3 G1.lb G1.cells hl62); have HR3 := Lib.hid ((hb1.block (w.heap.size + 1) (Array.getElem?_eq_some_iff.1 HR.out).1).trans HR.out); clear hb1 G1) | (go_at_call 71; refine HCP.out.mono ?_; rintro e w4 ⟨u, rfl, hO, hb4⟩; obtain ⟨ua, ul, uc, rfl⟩ := slice_of hO; have HO := Lib.hid hO; have HB4 := Lib.hid (HB3.out.trans (hb4.mono HB3.out.size)); have HR4 := Lib.hid ((hb4.block (w.heap.size + 1) (Array.getElem?_eq_some_iff.1 HR3.out).1).trans HR3.out); obtain ⟨r0, r1, g0, g1⟩ := two_cells HR4.out; clear hO hb4))
  have hfin := two_set (a := .int .i64 n) (b := .slice ua ul uc) HR4.out
  have hr3 := (Array.getElem?_eq_some_iff.1 HR3.out).1
  refine bodyPost_ret (v := .tuple #[.agg #[.int .i64 n, .slice ua ul uc], .int .i64 0]) (results_cell2 (p := 2) (u := 3) (ty := 49) rfl _ _ (w.heap.size + 1) 49 _ (0, 0) _ rfl hfin Tryd.underlying49 rfl (by exact infoDg)) rfl ⟨⟨_, rfl, ?_⟩, ?_⟩
  · have hne : (Value.slice ua ul uc).ownBlock ≠ some (w.heap.size + 1) := fun e => by have := HO.out.ge _ e; omega
    exact (HO.out.base (by omega)).kept (grown_set (grown_set ⟨rfl, rfl, rfl, Nat.le_refl _, fun _ _ _ => rfl⟩ _ 0 _) _ 1 _) (.inr hne)
  · exact (HB4.out.setCell (p := ⟨w.heap.size + 1, 0, none⟩) (by simp) _).setCell (p := ⟨w.heap.size + 1, 1, none⟩) (by simp) _


theorem implDo_any (n : Int) (v : Value) (zs : List Int) (w : World) (hs : Sl w v zs) (hl : zs.length ≤ 9223372036854775807) (hT : Tab w) :
    Calls Tryd.prog 46 #[.agg #[.int .i64 n, v]] w fun e w' => GRes w.heap.size (doN n zs) (doR n zs) (doC n zs) e w' ∧ Below w.heap.size w w' := by
  unfold doN doR doC
  cases hd : isG n zs with
  | false => exact implDo_no n v zs w hs hl hT hd
  | true =>
    rcases hs with ⟨a, c, rfl, rfl⟩ | ⟨b, off, cap, rfl, hb, hc⟩
    · obtain ⟨g1, g2, g3, -⟩ := isG_parts hd; simp at g3; omega
    · exact implDo_yes n b off cap zs w hb hc hl hT hd

end Go.Proofs.YtabkfihhfkmioaaDoor
