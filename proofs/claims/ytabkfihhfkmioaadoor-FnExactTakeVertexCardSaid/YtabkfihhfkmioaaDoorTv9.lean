/-
  Vertices taken out: plain facts, spec.l09Told and spec.l09Without.
-/
import Derived.Test.YtabkfihhfkmioaaDoorOn5
import Derived.Test.YtabkfihhfkmioaaDoorCl9
import Derived.Deep.DeepCutAuto
namespace Go.Proofs.YtabkfihhfkmioaaDoor
set_option maxRecDepth 100000
open Go.RowKit

/-- The vertices below k other than v. -/
def wvL (v k : Nat) : List Int := ((List.range k).filter fun j => j != v).map fun j : Nat => (j : Int)
theorem wvL_zero (v : Nat) : wvL v 0 = [] := rfl
theorem wvL_yes {v k : Nat} (h : k ≠ v) : wvL v (k + 1) = wvL v k ++ [(k : Int)] := by simp [wvL, List.range_succ, List.filter_append, h]
theorem wvL_no (v : Nat) : wvL v (v + 1) = wvL v v := by simp [wvL, List.range_succ, List.filter_append]
theorem wvL_length (v k : Nat) : (wvL v k).length ≤ k := by
  unfold wvL; rw [List.length_map]; exact Nat.le_trans (List.length_filter_le _ _) (by simp)
theorem wvL_pos {v k : Nat} (hk : 1 < k) : 0 < (wvL v k).length := by
  by_cases h : v = 0
  · exact List.length_pos_of_mem (a := (1 : Int)) (by unfold wvL; rw [List.mem_map]; exact ⟨1, by simp [h, hk], rfl⟩)
  · exact List.length_pos_of_mem (a := (0 : Int)) (by unfold wvL; rw [List.mem_map]; exact ⟨0, by simp; omega, rfl⟩)
theorem wvL_at {v k i : Nat} (h : i < (wvL v k).length) : ∃ j : Nat, el (wvL v k) i = (j : Int) ∧ j < k := by
  have hm := List.getElem_mem h
  obtain ⟨j, hj, e⟩ := List.mem_map.1 hm
  refine ⟨j, ?_, ?_⟩
  · rw [el_lt h]; exact e.symm
  · have := (List.mem_filter.1 hj).1; simpa using this
theorem wvL_asc (v k : Nat) : ascTo k (wvL v k) (wvL v k).length = true := by
  have hp : (wvL v k).Pairwise (· < ·) := by
    unfold wvL
    refine List.Pairwise.map _ ?_ (List.Pairwise.filter _ (List.pairwise_lt_range (n := k)))
    intro a b h; exact Int.ofNat_lt.2 h
  refine asc_of ?_ ?_
  · unfold vsOk
    rw [List.all_eq_true]
    intro i hi
    obtain ⟨j, e, hj⟩ := wvL_at (List.mem_range.1 hi)
    rw [e]; simp; omega
  · intro j hj
    rw [el_lt hj, el_lt (show j < (wvL v k).length by omega)]
    exact List.pairwise_iff_getElem.1 hp j (j + 1) (by omega) hj (by omega)

set_option maxHeartbeats 400000 in
theorem told_any (x : Int) (w : World) :
    Calls Tryd.prog 52 #[.int .i64 x] w fun e w' => e = .returned (.int .i64 (if 1 ≤ x ∧ x ≤ 62 then 0 else 3)) ∧ w = w' := by
  have hin := fun W => in_any x 1 62 W
  by_cases h : 1 ≤ x ∧ x ≤ 62
  · rw [← Bool.decide_and, decide_eq_true h] at hin
    rw [if_pos h]; clear h
    go_enter Tryd.func52, Tryd.ntmps52
    go_wp2_with (go_at_call 96; refine (hin _).mono ?_; rintro e w1 ⟨rfl, rfl⟩)
    go_ret
    exact ⟨rfl, rfl⟩
  · rw [← Bool.decide_and, decide_eq_false h] at hin
    rw [if_neg h]; clear h
    go_enter Tryd.func52, Tryd.ntmps52
    go_wp2_with (go_at_call 96; refine (hin _).mono ?_; rintro e w1 ⟨rfl, rfl⟩)
    go_ret
    exact ⟨rfl, rfl⟩

set_option maxHeartbeats 3200000 in
theorem wo_some (b off cap : Nat) (zs : List Int) (v : Nat) (w : World) (hb : b < w.heap.size) (hc : Cells w b off zs) (hg : isG zs.length zs = true) (hn : 1 < zs.length) :
    Calls Tryd.prog 53 #[.agg #[.int .i64 zs.length, .slice (some ⟨b, off, none⟩) zs.length cap], .int .i64 v] w fun e w' => ∃ u, e = .returned (.agg #[.int .i64 (wvL v zs.length).length, u]) ∧ Own w' w.heap.size u (onL zs (wvL v zs.length)) ∧ Below w.heap.size w w' := by
  obtain ⟨h1a, h1b, -, -, -⟩ := isG_parts hg
  have hl62 : zs.length ≤ 62 := by omega
  obtain ⟨W, hW⟩ : ∃ W, W = (w.alloc (.cells #[.int .i64 zs.length, .slice (some ⟨b, off, none⟩) zs.length cap] 26)).alloc (.cells #[.int .i64 0, .slice none 0 0] 26) := ⟨_, rfl⟩
  have D0 : Below w.heap.size w W := by rw [hW]; exact ((Below.refl _ _).alloc (Nat.le_refl _) _).alloc (by simp) _
  have HG0 : Hid (GBox W w.heap.size zs.length b off cap zs) := by
    show GBox _ _ _ _ _ _ _
    rw [hW]
    exact (GBox.new (n := zs.length) (cap := cap) hb hc).below ((Below.refl _ _).alloc (by simp) _)
  have HR : Hid (W.heap[w.heap.size + 1]? = some (.cells #[.int .i64 0, .slice none 0 0] 26 (0, 0))) := by show _ = _; rw [hW]; exact heap_new_at _ _ _ (by simp)
  have hS : w.heap.size + 2 ≤ W.heap.size := by rw [hW]; simp
  have HD := Lib.hid D0
  have HGG := Lib.hid hg
  obtain ⟨i0, hi, hz0, hz1, hz2⟩ := info_parts mk_info
  have HI := Lib.hid hi; have HI0 := Lib.hid hz0; have HI1 := Lib.hid hz1; have HI2 := Lib.hid hz2
  have hnil : Hid ((W.alloc (.cells #[] 2)).ownsRow W.heap.size 2 1 (.slice (some ⟨W.heap.size, 0, none⟩) 0 0) (wvL v 0).length ((wvL v 0).map (Value.int .i64))) := by
    show World.ownsRow _ _ _ _ _ _ _
    rw [wvL_zero]
    exact World.ownsRow_made W #[] 0 (base := W.heap.size) (e := 2) (size := 1) (by simp) (by decide) rfl
  clear hi hz0 hz1 hz2 hg hc D0
  go_enter Tryd.func53, Tryd.ntmps53
  go_upto_region 1 with fail
  rw [← hW]
  clear hW
  go_wp2
  go_loopw [5, 6] (fun u i wr => ∃ k : Nat, k ≤ zs.length ∧ i = .int .i64 k ∧ Hid (wr.ownsRow W.heap.size 2 1 u (wvL v k).length ((wvL v k).map (Value.int .i64))) ∧ Below W.heap.size W wr) (fun _ i _ => zs.length - (intOf i).toNat)
  case atStart => exact ⟨0, Nat.zero_le _, rfl, hnil, (Below.refl _ _).alloc (by simp) _⟩
  case round =>
    obtain ⟨k, hk, rfl, HO, hB⟩ := hrel
    have hBs := hB.size
    have G0 := HG0.out.below (hB.mono (by omega))
    have b0 := G0.b0
    have b1 := G0.b1
    by_cases hlt : (k : Int) < zs.length
    · have hkl : k < zs.length := by omega
      have hk0 : (0 : Int) ≤ k := by omega
      have hlen := wvL_length v k
      by_cases hkv : k = v
      · have hne : ((k : Int) != (v : Int)) = false := by simp [hkv]
        have HN : Hid (wr.ownsRow W.heap.size 2 1 u5 (wvL v (k + 1)).length ((wvL v (k + 1)).map (Value.int .i64))) := by
          show World.ownsRow _ _ _ _ _ _ _
          have e : wvL v (k + 1) = wvL v k := by rw [hkv]; exact wvL_no v
          rw [e]
          exact HO.out
        clear HO hkv hlen
        go_wp2
        go_roundw
        case rel => exact ⟨k + 1, by omega, by go_num, HN, hB⟩
        case measure => simp [intOf]; omega
      · have hne : ((k : Int) != (v : Int)) = true := bne_iff_ne.2 (by omega)
        have HNB := Lib.hid (wvL_yes (v := v) hkv)
        have HO2 := HO
        clear hkv
        go_wp2_with (at_builtin; refine wpList_append_own _ rfl _ _ 22 rfl W.heap.size 2 i0 (.int .i64 0) 1 8 Tryd.underlying22 HI.out HI0.out HI1.out HI2.out rfl (by decide) _ _ _ rfl (World.ownsRow.alloc HO2.out _) ⟨wr.heap.size, 0, none⟩ 1 1 [.int .i64 k] rfl rfl (cell_one_new _ _ _) (by simp [Value.oneCell']) (by unfold maxLen; omega) (by omega) (by simp; omega) ?_; intro u' w3 hown3 hgr3 _)
        have E3 := (hB.alloc hBs _).grown hgr3 (by simp; omega) (fun k e => (World.ownsRow.lt HO2.out k e).1)
        have HN : Hid (w3.ownsRow W.heap.size 2 1 u' (wvL v (k + 1)).length ((wvL v (k + 1)).map (Value.int .i64))) := by
          show World.ownsRow _ _ _ _ _ _ _
          rw [HNB.out, List.map_append, List.length_append]
          exact hown3
        clear hown3 hgr3 HO2 HO
        go_wp2
        go_roundw
        case rel => exact ⟨k + 1, by omega, by go_num, HN, E3⟩
        case measure => simp [intOf]; omega
    · have hkl : k = zs.length := by omega
      have HO2 : Hid (Own wr W.heap.size u5 (wvL v zs.length)) := by
        show World.ownsRow _ _ _ _ _ _ _
        rw [← hkl]; exact HO.out
      clear HO
      obtain ⟨g, cu, rfl, hg0, hg1⟩ := own_some8 HO2.out rfl (wvL_pos hn)
      have HON := Lib.hid (l01On_some b off cap g 0 cu zs (wvL v zs.length) wr G0.lb G0.cells hg1 (own_cells8 HO2.out rfl) HGG.out (wvL_asc v zs.length))
      have HR1 := Lib.hid ((hB.block (w.heap.size + 1) (by omega)).trans HR.out)
      have HB1 := Lib.hid (HD.out.trans (hB.mono (by omega)))
      subst hkl
      clear hB HO2 G0
      go_wp2_with fail
      refine HON.out.mono ?_
      rintro e w2 ⟨u, rfl, hO, hb2⟩
      obtain ⟨ua, ul, uc, rfl⟩ := slice_of hO
      have HO3 := Lib.hid hO
      have HR2 := Lib.hid ((hb2.block (w.heap.size + 1) (Array.getElem?_eq_some_iff.1 HR1.out).1).trans HR1.out)
      have HB2 := Lib.hid (HB1.out.trans (hb2.mono (by omega)))
      obtain ⟨r0, r1, g0, g1⟩ := two_cells HR2.out
      clear hO hb2 b0 b1
      go_wp2
      have hfin := two_set (a := .int .i64 (wvL v zs.length).length) (b := .slice ua ul uc) HR2.out
      refine bodyPost_ret (v := .agg #[.int .i64 (wvL v zs.length).length, .slice ua ul uc]) (results_cell_row (p := 4) (ty := 26) rfl _ _ (w.heap.size + 1) 26 _ (0, 0) _ rfl hfin Tryd.underlying26 rfl (by exact info27)) rfl ⟨_, rfl, ?_, ?_⟩
      · have hne : (Value.slice ua ul uc).ownBlock ≠ some (w.heap.size + 1) := fun e => by have := HO3.out.ge _ e; omega
        exact (HO3.out.base (by omega)).kept (grown_set (grown_set ⟨rfl, rfl, rfl, Nat.le_refl _, fun _ _ _ => rfl⟩ _ 0 _) _ 1 _) (.inr hne)
      · exact (HB2.out.setCell (p := ⟨w.heap.size + 1, 0, none⟩) (by simp) _).setCell (p := ⟨w.heap.size + 1, 1, none⟩) (by simp) _
end Go.Proofs.YtabkfihhfkmioaaDoor
