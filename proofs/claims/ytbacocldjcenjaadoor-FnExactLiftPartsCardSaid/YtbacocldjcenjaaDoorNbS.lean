/-
  spec.NeighboursOf: the list of neighbours; the code of vertices in a graph.
-/
import Derived.Test.YtbacocldjcenjaaDoorDegS
import Derived.BigQuiet
import Derived.Deep.QuietTactic
namespace Go.Proofs.YtbacocldjcenjaaDoor
set_option maxRecDepth 100000
open Go.RowKit

/-- The first k numbers are vertices. -/
def vsOk (n : Int) (vs : List Int) (k : Nat) : Bool := (List.range k).all fun i => decide (0 ≤ el vs i) && decide (el vs i ≤ n - 1)
theorem vsOk_zero (n : Int) (vs : List Int) : vsOk n vs 0 = true := by simp [vsOk]
theorem vsOk_succ (n : Int) (vs : List Int) (k : Nat) : vsOk n vs (k + 1) = (vsOk n vs k && (decide (0 ≤ el vs k) && decide (el vs k ≤ n - 1))) := by
  unfold vsOk; rw [List.range_succ, List.all_append]; simp
theorem vsOk_no {n : Int} {vs : List Int} {k m : Nat} (hk : k < m) (h : ¬ (0 ≤ el vs k ∧ el vs k ≤ n - 1)) : vsOk n vs m = false := by
  cases e : vsOk n vs m with
  | false => rfl
  | true =>
    unfold vsOk at e
    have := List.all_eq_true.1 e k (List.mem_range.2 hk)
    simp at this
    exact absurd this h

/-- The code of a list of vertices in a graph of the size n. -/
def vc (n : Int) (vs : List Int) : Int := if vsOk n vs vs.length then 0 else 2
theorem vc_yes {n : Int} {vs : List Int} (h : vsOk n vs vs.length = true) : vc n vs = 0 := by simp [vc, h]
theorem vc_no {n : Int} {vs : List Int} (h : vsOk n vs vs.length = false) : vc n vs = 2 := by simp [vc, h]

/-- The neighbours of a among the first k vertices. -/
def nbL (zs : List Int) (a k : Nat) : List Int := ((List.range k).filter (bt (el zs a))).map fun j : Nat => (j : Int)
theorem nbL_zero (zs : List Int) (a : Nat) : nbL zs a 0 = [] := by simp [nbL]
theorem nbL_yes (zs : List Int) (a k : Nat) (h : bt (el zs a) k = true) : nbL zs a (k + 1) = nbL zs a k ++ [(k : Int)] := by simp [nbL, List.range_succ, List.filter_append, h]
theorem nbL_no (zs : List Int) (a k : Nat) (h : bt (el zs a) k = false) : nbL zs a (k + 1) = nbL zs a k := by simp [nbL, List.range_succ, List.filter_append, h]
theorem nbL_length (zs : List Int) (a k : Nat) : (nbL zs a k).length ≤ k := by
  unfold nbL; rw [List.length_map]; exact Nat.le_trans (List.length_filter_le _ _) (by simp)

set_option maxHeartbeats 1600000 in
theorem l01Nb_some (n : Int) (b off cap : Nat) (zs : List Int) (a : Nat) (w : World) (hb : b < w.heap.size) (hc : Cells w b off zs) (hg : isG n zs = true) (ha : a < zs.length) :
    Calls Tryd.prog 32 #[.agg #[.int .i64 n, .slice (some ⟨b, off, none⟩) zs.length cap], .int .i64 a] w fun e w' => ∃ u, e = .returned u ∧ Own w' w.heap.size u (nbL zs a zs.length) ∧ Below w.heap.size w w' := by
  have D0 : Below w.heap.size w (w.alloc (.cells #[.int .i64 n, .slice (some ⟨b, off, none⟩) zs.length cap] 38)) := (Below.refl _ _).alloc (Nat.le_refl _) _
  have HG0 := Lib.hid (GBox.new (n := n) (cap := cap) hb hc)
  obtain ⟨h1a, h1b, h3, -, -⟩ := isG_parts hg
  have HZ := Lib.hid (isG_row_ok hg)
  have H3 := Lib.hid h3
  have hl62 : zs.length ≤ 62 := by omega
  obtain ⟨i0, hi, hz0, hz1, hz2⟩ := info_parts mk_info
  have HI := Lib.hid hi; have HI0 := Lib.hid hz0; have HI1 := Lib.hid hz1; have HI2 := Lib.hid hz2
  clear hg h3 hc hi hz0 hz1 hz2
  have hnil : Hid (((w.alloc (.cells #[.int .i64 n, .slice (some ⟨b, off, none⟩) zs.length cap] 38)).alloc (.cells #[] 2)).ownsRow (w.heap.size + 1) 2 1 (.slice (some ⟨w.heap.size + 1, 0, none⟩) 0 0) (nbL zs a 0).length ((nbL zs a 0).map (Value.int .i64))) := by
    have := World.ownsRow_made (w.alloc (.cells #[.int .i64 n, .slice (some ⟨b, off, none⟩) zs.length cap] 38)) #[] 0 (base := w.heap.size + 1) (e := 2) (size := 1) (by simp) (by decide) rfl
    rw [World.size_alloc] at this
    show World.ownsRow _ _ _ _ _ _ _
    rw [nbL_zero]
    exact this
  go_enter Tryd.func32, Tryd.ntmps32
  go_wp2
  go_loopw [5, 6] (fun u i wr => ∃ k : Nat, k ≤ zs.length ∧ i = .int .i64 k ∧ Hid (wr.ownsRow (w.heap.size + 1) 2 1 u (nbL zs a k).length ((nbL zs a k).map (Value.int .i64))) ∧ Below (w.heap.size + 1) (w.alloc (.cells #[.int .i64 n, .slice (some ⟨b, off, none⟩) zs.length cap] 38)) wr) (fun _ i _ => zs.length - (intOf i).toNat)
  case atStart => exact ⟨0, Nat.zero_le _, rfl, hnil, (Below.refl _ _).alloc (by simp) _⟩
  case round =>
    obtain ⟨k, hk, rfl, HO, hB⟩ := hrel
    have G0 := HG0.out.below hB
    have b0 := G0.b0
    have b1 := G0.b1
    have l0 := G0.lt
    by_cases hlt : (k : Int) < n
    · have hkl : k < zs.length := by have := H3.out; omega
      have hk0 : (0 : Int) ≤ k := by omega
      have ha0 : (0 : Int) ≤ a := by omega
      have hal : (a : Int) < zs.length := by omega
      have hlen := nbL_length zs a k
      cases hbit : bt (el zs a) k with
      | true =>
        have hh := has_any n b off zs.length cap (el zs a) a k wr G0.lb (G0.cells a ha) ha0 hal hk0 (by omega) (HZ.out a ha).1 (HZ.out a ha).2 true (by simpa using hbit)
        have HNB := Lib.hid (nbL_yes zs a k hbit)
        clear hbit
        go_wp2_with fail
        refine hh.mono ?_
        rintro e w2 ⟨rfl, hb2⟩
        have E2 := hB.trans (hb2.mono l0)
        have l2 : w.heap.size + 1 ≤ w2.heap.size := Nat.le_trans l0 hb2.size
        have HO2 : Hid (w2.ownsRow (w.heap.size + 1) 2 1 u5 (nbL zs a k).length ((nbL zs a k).map (Value.int .i64))) := ownsRow_below HO.out hb2
        clear hb2 hh
        go_wp2_with (at_builtin; refine wpList_append_own _ rfl _ _ 36 rfl (w.heap.size + 1) 2 i0 (.int .i64 0) 1 8 Tryd.underlying36 HI.out HI0.out HI1.out HI2.out rfl (by decide) _ _ _ rfl (World.ownsRow.alloc HO2.out _) ⟨w2.heap.size, 0, none⟩ 1 1 [.int .i64 k] rfl rfl (cell_one_new _ _ _) (by simp [Value.oneCell']) (by unfold maxLen; omega) (by omega) (by simp; omega) ?_; intro u' w3 hown3 hgr3 _)
        have E3 := (E2.alloc l2 _).grown hgr3 (by simp; omega) (fun k e => (World.ownsRow.lt HO2.out k e).1)
        have HN : Hid (w3.ownsRow (w.heap.size + 1) 2 1 u' (nbL zs a (k + 1)).length ((nbL zs a (k + 1)).map (Value.int .i64))) := by
          show World.ownsRow _ _ _ _ _ _ _
          rw [HNB.out, List.map_append, List.length_append]
          exact hown3
        clear hown3 hgr3 HO2 HO
        go_wp2
        go_roundw
        case rel => exact ⟨k + 1, by omega, by go_num, HN, E3⟩
        case measure => simp [intOf]; omega
      | false =>
        have hh := has_any n b off zs.length cap (el zs a) a k wr G0.lb (G0.cells a ha) ha0 hal hk0 (by omega) (HZ.out a ha).1 (HZ.out a ha).2 false (by simpa using hbit)
        have HNB := Lib.hid (nbL_no zs a k hbit)
        clear hbit
        go_wp2_with (go_at_call 19; refine hh.mono ?_; rintro e w2 ⟨rfl, hb2⟩)
        have E2 := hB.trans (hb2.mono l0)
        have HN : Hid (w2.ownsRow (w.heap.size + 1) 2 1 u5 (nbL zs a (k + 1)).length ((nbL zs a (k + 1)).map (Value.int .i64))) := by
          show World.ownsRow _ _ _ _ _ _ _
          rw [HNB.out]
          exact ownsRow_below HO.out hb2
        clear hb2 hh HO
        go_roundw
        case rel => exact ⟨k + 1, by omega, by go_num, HN, E2⟩
        case measure => simp [intOf]; omega
    · have hkl : k = zs.length := by have := H3.out; omega
      subst hkl
      go_wp2
      go_ret
      exact ⟨_, rfl, Own.base (B := w.heap.size + 1) HO.out (by omega), D0.trans (hB.mono (by simp))⟩

/-- The neighbours of x and the code. -/
def NL (n : Int) (zs : List Int) (x : Int) : List Int := if isG n zs && (decide (0 ≤ x) && decide (x ≤ n - 1)) then nbL zs x.toNat zs.length else []
def NC (n : Int) (zs : List Int) (x : Int) : Int := if isG n zs then (if decide (0 ≤ x) && decide (x ≤ n - 1) then 0 else 2) else 1
theorem NL_length (n : Int) (zs : List Int) (x : Int) : (NL n zs x).length ≤ zs.length := by
  unfold NL; split
  · exact nbL_length _ _ _
  · simp
theorem vs_one (n x : Int) : vsOk n [x] 1 = (decide (0 ≤ x) && decide (x ≤ n - 1)) := by simp [vsOk, el]
theorem cells_one {w : World} {k : Nat} {x : Int} (h : w.cell? ⟨k, 0, none⟩ = some (.int .i64 x)) : Cells w k 0 [x] := by
  intro i hi
  have : i = 0 := by simp at hi; exact hi
  subst this
  exact h

end Go.Proofs.YtbacocldjcenjaaDoor
