/-
  ReverseDigraph: both programs.
-/
import Derived.Test.YtbncfhmpkoaffaaDoorRv8
import Derived.Test.YtbncfhmpkoaffaaDoorCl8
import Derived.Deep.RegionWith
namespace Go.Proofs.YtbncfhmpkoaffaaDoor
set_option maxRecDepth 100000
set_option maxRecDepth 100000
open Go.RowKit

/-- The digraph turned, and its code. -/
def rvN (n : Int) (zs : List Int) : Int := if isD n zs then n else 0
def rvR (n : Int) (zs : List Int) : List Int := if isD n zs then rvL zs else []
theorem rvR_length (n : Int) (zs : List Int) : (rvR n zs).length ≤ 62 := by
  unfold rvR
  split
  · rename_i h; rw [rvL_length]; exact (dg_ok h).le
  · simp

theorem own_slice8 {w : World} {B : Nat} {u : Value} {L : List Int} (h : Own w B u L) : ∃ a l c, u = .slice a l c := by
  rcases h.form with ⟨rfl, _⟩ | ⟨g, cap, rfl, _⟩
  · exact ⟨_, _, _, rfl⟩
  · exact ⟨_, _, _, rfl⟩

set_option maxHeartbeats 1600000 in
theorem specRv_no (n : Int) (v : Value) (zs : List Int) (w : World) (hs : Sl w v zs) (hl : zs.length ≤ 9223372036854775807) (hd : isD n zs = false) :
    Calls Tryd.prog 24 #[.agg #[.int .i64 n, v]] w fun e w' => GRes w.heap.size 0 [] 1 e w' ∧ Below w.heap.size w w' := by
  obtain ⟨W, hW⟩ : ∃ W, W = (w.alloc (.cells #[.int .i64 n, v] 29)).alloc (.cells #[.int .i64 0, .slice none 0 0] 29) := ⟨_, rfl⟩
  have D0 : Below w.heap.size w W := by rw [hW]; exact ((Below.refl _ _).alloc (Nat.le_refl _) _).alloc (by simp) _
  have his := l08Is_any n v zs W (hs.below D0) hl
  rw [hd] at his
  have HR : Hid (W.heap[w.heap.size + 1]? = some (.cells #[.int .i64 0, .slice none 0 0] 29 (0, 0))) := by show _ = _; rw [hW]; exact heap_new_at _ _ _ (by simp)
  have HD := Lib.hid D0
  clear hs hd D0
  go_enter Tryd.func24, Tryd.ntmps24
  go_wp2_with (go_at_call 42; rw [← hW]; refine his.mono ?_; rintro e w1 ⟨rfl, hb1⟩; have HR1 := Lib.hid ((hb1.block (w.heap.size + 1) (Array.getElem?_eq_some_iff.1 HR.out).1).trans HR.out); have HB1 := Lib.hid (HD.out.trans (hb1.mono HD.out.size)); obtain ⟨r0, r1, g0, g1⟩ := two_cells HR1.out; clear hb1)
  have hfin := two_set (a := .int .i64 0) (b := .slice none 0 0) HR1.out
  refine bodyPost_ret (v := .tuple #[.agg #[.int .i64 0, .slice none 0 0], .int .i64 1]) (results_cell2 (p := 2) (u := 3) (ty := 29) rfl _ _ (w.heap.size + 1) 29 _ (0, 0) _ rfl hfin Tryd.underlying29 rfl (by exact infoDg)) rfl ⟨⟨_, rfl, Own.nil _ _⟩, ?_⟩
  exact (HB1.out.setCell (p := ⟨w.heap.size + 1, 0, none⟩) (by simp) _).setCell (p := ⟨w.heap.size + 1, 1, none⟩) (by simp) _

set_option maxHeartbeats 1600000 in
theorem specRv_yes (n : Int) (b off cap : Nat) (zs : List Int) (w : World) (hb : b < w.heap.size) (hc : Cells w b off zs) (hl : zs.length ≤ 9223372036854775807) (hd : isD n zs = true) :
    Calls Tryd.prog 24 #[.agg #[.int .i64 n, .slice (some ⟨b, off, none⟩) zs.length cap]] w fun e w' => GRes w.heap.size n (rvL zs) 0 e w' ∧ Below w.heap.size w w' := by
  obtain ⟨W, hW⟩ : ∃ W, W = (w.alloc (.cells #[.int .i64 n, .slice (some ⟨b, off, none⟩) zs.length cap] 29)).alloc (.cells #[.int .i64 0, .slice none 0 0] 29) := ⟨_, rfl⟩
  have D0 : Below w.heap.size w W := by rw [hW]; exact ((Below.refl _ _).alloc (Nat.le_refl _) _).alloc (by simp) _
  have his := l08Is_some n b off cap zs W (Nat.lt_of_lt_of_le hb D0.size) (hc.below D0 hb) hl
  rw [hd] at his
  have HG0 : Hid (GBox W w.heap.size n b off cap zs) := by
    show GBox _ _ _ _ _ _ _
    rw [hW]
    exact (GBox.newD (n := n) (cap := cap) hb hc).below ((Below.refl _ _).alloc (by simp) _)
  have HR : Hid (W.heap[w.heap.size + 1]? = some (.cells #[.int .i64 0, .slice none 0 0] 29 (0, 0))) := by show _ = _; rw [hW]; exact heap_new_at _ _ _ (by simp)
  have HD := Lib.hid D0
  have HS : Hid (W.heap.size = w.heap.size + 2) := by show _ = _; rw [hW]; simp
  have hrv : Hid (∀ W1, Below W.heap.size W W1 → Calls Tryd.prog 51 #[.agg #[.int .i64 n, .slice (some ⟨b, off, none⟩) zs.length cap]] W1 fun e w' => (∃ u, e = .returned (.agg #[.int .i64 n, u]) ∧ Own w' W1.heap.size u (rvL zs)) ∧ Below W1.heap.size W1 w') := fun W1 h => by
    have D1 := D0.trans (h.mono D0.size)
    exact l08Rev_some n b off cap zs W1 (Nat.lt_of_lt_of_le hb D1.size) (hc.below D1 hb) (dg_ok hd)
  clear hc hd D0
  go_enter Tryd.func24, Tryd.ntmps24
  go_wp2_with (first
    | (go_at_call 42; rw [← hW]; refine his.mono ?_; rintro e w1 ⟨rfl, hb1⟩; have HB1 := Lib.hid hb1; have G1 := HG0.out.below (hb1.mono (by have := HS.out; omega)); have b0 := G1.b0; have b1 := G1.b1; clear hb1)
    | (go_at_call 51; refine (hrv.out _ HB1.out).mono ?_; rintro e w2 ⟨⟨u, rfl, hO⟩, hb2⟩; obtain ⟨ua, ul, uc, rfl⟩ := own_slice8 hO; have HO := Lib.hid hO; have HB2 := Lib.hid (HB1.out.trans (hb2.mono HB1.out.size)); have hm2 := hb2.size; have HR2 := Lib.hid ((HB2.out.block (w.heap.size + 1) (Array.getElem?_eq_some_iff.1 HR.out).1).trans HR.out); obtain ⟨r0, r1, g0, g1⟩ := two_cells HR2.out; clear hO hb2))
  have hfin := two_set (a := .int .i64 n) (b := .slice ua ul uc) HR2.out
  have hs := HS.out
  have hb1 := HB1.out.size
  refine bodyPost_ret (v := .tuple #[.agg #[.int .i64 n, .slice ua ul uc], .int .i64 0]) (results_cell2 (p := 2) (u := 3) (ty := 29) rfl _ _ (w.heap.size + 1) 29 _ (0, 0) _ rfl hfin Tryd.underlying29 rfl (by exact infoDg)) rfl ⟨⟨_, rfl, ?_⟩, ?_⟩
  · have hne : (Value.slice ua ul uc).ownBlock ≠ some (w.heap.size + 1) := fun e => by have := HO.out.ge _ e; omega
    exact (HO.out.base (by omega)).kept (grown_set (grown_set ⟨rfl, rfl, rfl, Nat.le_refl _, fun _ _ _ => rfl⟩ _ 0 _) _ 1 _) (.inr hne)
  · exact ((HD.out.trans (HB2.out.mono HD.out.size)).setCell (p := ⟨w.heap.size + 1, 0, none⟩) (by simp) _).setCell (p := ⟨w.heap.size + 1, 1, none⟩) (by simp) _

theorem specRv_any (n : Int) (v : Value) (zs : List Int) (w : World) (hs : Sl w v zs) (hl : zs.length ≤ 9223372036854775807) :
    Calls Tryd.prog 24 #[.agg #[.int .i64 n, v]] w fun e w' => GRes w.heap.size (rvN n zs) (rvR n zs) (dC n zs) e w' ∧ Below w.heap.size w w' := by
  unfold rvN rvR dC
  cases hd : isD n zs with
  | false => exact specRv_no n v zs w hs hl hd
  | true =>
    rcases hs with ⟨a, c, rfl, rfl⟩ | ⟨b, off, cap, rfl, hb, hc⟩
    · rw [isD_nil] at hd; exact absurd hd (by simp)
    · exact specRv_yes n b off cap zs w hb hc hl hd

set_option maxHeartbeats 1600000 in
theorem implRv_no (n : Int) (v : Value) (zs : List Int) (w : World) (hs : Sl w v zs) (hl : zs.length ≤ 9223372036854775807) (hT : TabE w) (hd : isD n zs = false) :
    Calls Tryd.prog 25 #[.agg #[.int .i64 n, v]] w fun e w' => GRes w.heap.size 0 [] 1 e w' ∧ Below w.heap.size w w' := by
  obtain ⟨W, hW⟩ : ∃ W, W = (w.alloc (.cells #[.int .i64 n, v] 29)).alloc (.cells #[.int .i64 0, .slice none 0 0] 29) := ⟨_, rfl⟩
  have D0 : Below w.heap.size w W := by rw [hW]; exact ((Below.refl _ _).alloc (Nat.le_refl _) _).alloc (by simp) _
  have his := chkD_any n v zs W (hs.below D0) hl (hT.2.belowAll D0)
  unfold dC at his
  rw [hd, if_neg (by simp)] at his
  have HR : Hid (W.heap[w.heap.size + 1]? = some (.cells #[.int .i64 0, .slice none 0 0] 29 (0, 0))) := by show _ = _; rw [hW]; exact heap_new_at _ _ _ (by simp)
  have HD := Lib.hid D0
  clear hs hd D0 hT
  go_enter Tryd.func25, Tryd.ntmps25
  go_wp2_with (go_at_call 45; rw [← hW]; refine his.mono ?_; rintro e w1 ⟨rfl, hb1⟩; have HR1 := Lib.hid ((hb1.block (w.heap.size + 1) (Array.getElem?_eq_some_iff.1 HR.out).1).trans HR.out); have HB1 := Lib.hid (HD.out.trans (hb1.mono HD.out.size)); obtain ⟨r0, r1, g0, g1⟩ := two_cells HR1.out; clear hb1)
  have hfin := two_set (a := .int .i64 0) (b := .slice none 0 0) HR1.out
  refine bodyPost_ret (v := .tuple #[.agg #[.int .i64 0, .slice none 0 0], .int .i64 1]) (results_cell2 (p := 2) (u := 3) (ty := 29) rfl _ _ (w.heap.size + 1) 29 _ (0, 0) _ rfl hfin Tryd.underlying29 rfl (by exact infoDg)) rfl ⟨⟨_, rfl, Own.nil _ _⟩, ?_⟩
  exact (HB1.out.setCell (p := ⟨w.heap.size + 1, 0, none⟩) (by simp) _).setCell (p := ⟨w.heap.size + 1, 1, none⟩) (by simp) _

theorem tcol62 {n : Int} {zs : List Int} (hg : DgOk n zs) (j : Nat) : tcol (nat zs) 62 j = tcol (nat zs) zs.length j := by
  have h := tcol_more (f := nat zs) (m := zs.length) (fun i hi => nat_out hi) j (62 - zs.length)
  rwa [show zs.length + (62 - zs.length) = 62 by have := hg.le; omega] at h

set_option maxHeartbeats 3200000 in
theorem implRv_yes (n : Int) (b off cap : Nat) (zs : List Int) (w : World) (hb : b < w.heap.size) (hc : Cells w b off zs) (hl : zs.length ≤ 9223372036854775807) (hT : TabE w) (hd : isD n zs = true) :
    Calls Tryd.prog 25 #[.agg #[.int .i64 n, .slice (some ⟨b, off, none⟩) zs.length cap]] w fun e w' => GRes w.heap.size n (rvL zs) 0 e w' ∧ Below w.heap.size w w' := by
  obtain ⟨W, hW⟩ : ∃ W, W = (w.alloc (.cells #[.int .i64 n, .slice (some ⟨b, off, none⟩) zs.length cap] 29)).alloc (.cells #[.int .i64 0, .slice none 0 0] 29) := ⟨_, rfl⟩
  have D0 : Below w.heap.size w W := by rw [hW]; exact ((Below.refl _ _).alloc (Nat.le_refl _) _).alloc (by simp) _
  have his := chkD_any n _ zs W (.inr ⟨b, off, cap, rfl, Nat.lt_of_lt_of_le hb D0.size, hc.below D0 hb⟩) hl (hT.2.belowAll D0)
  unfold dC at his
  rw [hd, if_pos rfl] at his
  have hg := dg_ok hd
  have HG0 : Hid (GBox W w.heap.size n b off cap zs) := by
    show GBox _ _ _ _ _ _ _
    rw [hW]
    exact (GBox.newD (n := n) (cap := cap) hb hc).below ((Below.refl _ _).alloc (by simp) _)
  have HR : Hid (W.heap[w.heap.size + 1]? = some (.cells #[.int .i64 0, .slice none 0 0] 29 (0, 0))) := by show _ = _; rw [hW]; exact heap_new_at _ _ _ (by simp)
  have HD := Lib.hid D0
  have HS : Hid (W.heap.size = w.heap.size + 2) := by show _ = _; rw [hW]; simp
  have HT := Lib.hid (hT.1.belowAll D0)
  have HN : Hid (rowsA (el zs) = rowsA fun i => ((nat zs i : Nat) : Int)) := rowsA_nat hg.ge
  have HF : Hid (∀ i, i < 62 → nat zs i < 4611686018427387904) := fun i _ => hg.lt62 i
  have HG := Lib.hid hg
  have hn := hg.size
  obtain rfl : n = (zs.length : Int) := hn.symm
  clear hc hd D0 hT hg hn
  go_enter Tryd.func25, Tryd.ntmps25
  go_wp2_with (first
    | (go_at_call 45; rw [← hW]; refine his.mono ?_; rintro e w1 ⟨rfl, hb1⟩; have HB1 := Lib.hid hb1; have G1 := HG0.out.below (hb1.mono (by have := HS.out; omega)); have b0 := G1.b0; have b1 := G1.b1; have HG1 := Lib.hid G1; clear hb1)
    | (go_at_call 53; refine (rowArr_any _ zs _ (.inr ⟨b, off, cap, rfl, HG1.out.lb, HG1.out.cells⟩) HG.out.le).mono ?_; rintro e w2 ⟨rfl, hb2⟩; rw [HN.out]; have HB2 := Lib.hid (HB1.out.trans (hb2.mono HB1.out.size)); clear hb2)
    | (go_at_call 52; refine (turned_any (nat zs) HF.out _ (HT.out.belowAll HB2.out)).mono ?_; rintro e w3 ⟨rfl, hb3⟩; have HB3 := Lib.hid (HB2.out.trans (hb3.mono HB2.out.size)); clear hb3)
    | (refine wpList_store_row0 rfl rfl 68 (.tmp 5) (.tmp 15) rfl w3.heap.size (rowsA fun j => ((tcol (nat zs) 62 j : Nat) : Int)) rfl rfl 68 (rowsA fun _ => 0) (World.alloc_heap_new w3 _) (by rw [rowsA_size]; exact info59) (by rw [rowsA_size, rowsA_size]) (rowsA_one _) ?_))
  obtain ⟨W3, hW3⟩ : ∃ W3, W3 = (w3.alloc (.cells (rowsA fun _ => 0) 68)).setRow w3.heap.size (rowsA fun j => ((tcol (nat zs) 62 j : Nat) : Int)) := ⟨_, rfl⟩
  refine at_world0 (w' := W3) ?_ (by rw [hW3]; rfl)
  have hA3 : ArrB W3 w3.heap.size (fun j => ((tcol (nat zs) 62 j : Nat) : Int)) := by rw [hW3]; exact ArrB.setRow (World.alloc_heap_new w3 _ : ArrB _ _ (fun _ => 0)) _
  have hb3 : Below w3.heap.size w3 W3 := by rw [hW3]; exact ((Below.refl _ w3).alloc (Nat.le_refl _) _).trans (setRow_below (Nat.le_refl _) _)
  have h30 := HB3.out.size
  have hB4 : Below W.heap.size W W3 := HB3.out.trans (hb3.mono h30)
  have G3 := HG0.out.below (hB4.mono (by have := HS.out; omega))
  have c0 := G3.b0
  have HR3 := Lib.hid ((hB4.block (w.heap.size + 1) (Array.getElem?_eq_some_iff.1 HR.out).1).trans HR.out)
  have HB4 := Lib.hid hB4
  have HC3 : Hid (Cells W3 w3.heap.size 0 (rvL zs)) := fun i hi => by
    rw [rvL_length] at hi
    rw [Nat.zero_add, hA3.cell (by have := HG.out.le; omega), el_rvL zs i hi, tcol62 HG.out]
  have hl3 : w3.heap.size < W3.heap.size := hA3.lt
  have HCL : Hid (∀ W1, Below W3.heap.size W3 W1 → Calls Tryd.prog 54 #[.slice (some ⟨w3.heap.size, 0, none⟩) zs.length 62] W1 fun e w' => ClonedT W1 (rvL zs) e w' ∧ Below W1.heap.size W1 w') := fun W1 h => by
    have := cloneT_some w3.heap.size 0 62 (rvL zs) W1 (Nat.lt_of_lt_of_le hl3 h.size) (HC3.out.below h hl3) (by rw [rvL_length]; exact HG.out.le)
    rw [rvL_length] at this
    exact this
  have hz62 : (zs.length : Int) ≤ 62 := by have := HG.out.le; omega
  clear hW3 b0 b1 G1 hA3 hb3 hB4 G3 HC3 his hW
  go_upto_region 5 with fail
  go_region_with (go_at_call 54; refine (HCL.out _ ((Below.refl _ _).drew)).mono ?_; rintro e w4 ⟨⟨u, rfl, hO⟩, hb4⟩; obtain ⟨ua, ul, uc, rfl⟩ := own_slice8 hO; have HO := Lib.hid hO; have hb4' := ((Below.refl W3.heap.size W3).drew).trans (hb4.mono (by simp)); have HB5 := Lib.hid (HB4.out.trans (hb4'.mono HB4.out.size)); have hm4 := hb4'.size; have HR4 := Lib.hid ((hb4'.block (w.heap.size + 1) (Array.getElem?_eq_some_iff.1 HR3.out).1).trans HR3.out); have c0 := (HG0.out.below (HB5.out.mono (by have := HS.out; omega))).b0; obtain ⟨r0, r1, g0, g1⟩ := two_cells HR4.out; clear hO hb4 hb4')
  all_goals
    go_wp2_with fail
    have hfin := two_set (a := .int .i64 (zs.length : Int)) (b := .slice ua ul uc) HR4.out
    have hs := HS.out
    have hb4s := HB4.out.size
    refine bodyPost_ret (v := .tuple #[.agg #[.int .i64 (zs.length : Int), .slice ua ul uc], .int .i64 0]) (results_cell2 (p := 2) (u := 3) (ty := 29) rfl _ _ (w.heap.size + 1) 29 _ (0, 0) _ rfl hfin Tryd.underlying29 rfl (by exact infoDg)) rfl ⟨⟨_, rfl, ?_⟩, ?_⟩
    · have hne : (Value.slice ua ul uc).ownBlock ≠ some (w.heap.size + 1) := fun e => by have := HO.out.ge _ e; simp at this; omega
      exact (HO.out.base (by simp; omega)).kept (grown_set (grown_set ⟨rfl, rfl, rfl, Nat.le_refl _, fun _ _ _ => rfl⟩ _ 0 _) _ 1 _) (.inr hne)
    · exact ((HD.out.trans (HB5.out.mono HD.out.size)).setCell (p := ⟨w.heap.size + 1, 0, none⟩) (by simp) _).setCell (p := ⟨w.heap.size + 1, 1, none⟩) (by simp) _

theorem implRv_any (n : Int) (v : Value) (zs : List Int) (w : World) (hs : Sl w v zs) (hl : zs.length ≤ 9223372036854775807) (hT : TabE w) :
    Calls Tryd.prog 25 #[.agg #[.int .i64 n, v]] w fun e w' => GRes w.heap.size (rvN n zs) (rvR n zs) (dC n zs) e w' ∧ Below w.heap.size w w' := by
  unfold rvN rvR dC
  cases hd : isD n zs with
  | false => exact implRv_no n v zs w hs hl hT hd
  | true =>
    rcases hs with ⟨a, c, rfl, rfl⟩ | ⟨b, off, cap, rfl, hb, hc⟩
    · rw [isD_nil] at hd; exact absurd hd (by simp)
    · exact implRv_yes n b off cap zs w hb hc hl hT hd
end Go.Proofs.YtbncfhmpkoaffaaDoor
