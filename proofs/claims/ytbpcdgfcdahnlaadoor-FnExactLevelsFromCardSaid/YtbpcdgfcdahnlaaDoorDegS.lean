/-
  spec.DegreesOf: the list of degrees.
-/
import Derived.Test.YtbpcdgfcdahnlaaDoorDeg
import Derived.Test.YtbpcdgfcdahnlaaDoorMark
import Derived.Maps.AppendAt
namespace Go.Proofs.YtbpcdgfcdahnlaaDoor
set_option maxRecDepth 100000
open Go.RowKit

theorem ownsRow_below {w w' : World} {base : Nat} {e : TypeId} {size : Nat} {v : Value} {n : Nat} {xs : List Value} (h : w.ownsRow base e size v n xs) (hb : Below w.heap.size w w') : w'.ownsRow base e size v n xs :=
  World.ownsRow.kept h (grown_of_below hb none) (by cases v.ownBlock <;> simp)
/-- A list and a code, the list in memory of its own from block B on. -/
def LRes (B : Nat) (L : List Int) (c : Int) (e : Ending) (w' : World) : Prop := ∃ u, e = .returned (.tuple #[u, .int .i64 c]) ∧ Own w' B u L

/-- The degrees of the first k vertices. -/
def degL (zs : List Int) (k : Nat) : List Int := (List.range k).map fun v => (dg zs v : Int)
theorem degL_length (zs : List Int) (k : Nat) : (degL zs k).length = k := by simp [degL]
theorem degL_succ (zs : List Int) (k : Nat) : degL zs (k + 1) = degL zs k ++ [(dg zs k : Int)] := by simp [degL, List.range_succ]
def DL (n : Int) (zs : List Int) : List Int := if isG n zs then degL zs zs.length else []
def DC (n : Int) (zs : List Int) : Int := if isG n zs then 0 else 1

set_option maxHeartbeats 1000000 in
theorem specDeg_yes (n : Int) (b off cap : Nat) (zs : List Int) (w : World) (hb : b < w.heap.size) (hc : Cells w b off zs) (hg : isG n zs = true) (hl : zs.length ≤ 9223372036854775807) :
    Calls Tryd.prog 16 #[.agg #[.int .i64 n, .slice (some ⟨b, off, none⟩) zs.length cap]] w fun e w' => LRes w.heap.size (degL zs zs.length) 0 e w' ∧ Below w.heap.size w w' := by
  have D0 : Below w.heap.size w (w.alloc (.cells #[.int .i64 n, .slice (some ⟨b, off, none⟩) zs.length cap] 28)) := (Below.refl _ _).alloc (Nat.le_refl _) _
  have his := l01Is_some n b off cap zs _ (Nat.lt_of_lt_of_le hb D0.size) (hc.below D0 hb) hl
  rw [hg] at his
  have HG0 := Lib.hid (GBox.new (n := n) (cap := cap) hb hc)
  obtain ⟨h1a, h1b, h3, -, -⟩ := isG_parts hg
  have HZ := Lib.hid (isG_row_ok hg)
  have H3 := Lib.hid h3
  have hl62 : zs.length ≤ 62 := by omega
  obtain ⟨i0, hi, hz0, hz1, hz2⟩ := info_parts mk_info
  have HI := Lib.hid hi; have HI0 := Lib.hid hz0; have HI1 := Lib.hid hz1; have HI2 := Lib.hid hz2
  clear hg h3 hc hi hz0 hz1 hz2
  go_enter Tryd.func16, Tryd.ntmps16
  go_wp2_with (go_at_call 52; refine his.mono ?_; rintro e w1 ⟨rfl, hb1⟩; have G1 := HG0.out.below (hb1.mono (by simp)); have b0 := G1.b0; have b1 := G1.b1)
  have E1 : Below (w.heap.size + 1) (w.alloc (.cells #[.int .i64 n, .slice (some ⟨b, off, none⟩) zs.length cap] 28)) w1 := hb1.mono (by simp)
  have l1 := G1.lt
  have hnil : Hid ((w1.alloc (.cells #[] 2)).ownsRow (w.heap.size + 1) 2 1 (.slice (some ⟨w1.heap.size, 0, none⟩) 0 0) 0 ((degL zs 0).map (Value.int .i64))) := World.ownsRow_made w1 #[] 0 l1 (by decide) rfl
  clear hb1 his
  go_loopw [4, 5] (fun u i wr => ∃ v : Nat, v ≤ zs.length ∧ i = .int .i64 v ∧ Hid (wr.ownsRow (w.heap.size + 1) 2 1 u v ((degL zs v).map (Value.int .i64))) ∧ Below (w.heap.size + 1) (w.alloc (.cells #[.int .i64 n, .slice (some ⟨b, off, none⟩) zs.length cap] 28)) wr) (fun _ i _ => zs.length - (intOf i).toNat)
  case atStart => exact ⟨0, Nat.zero_le _, rfl, hnil, E1.alloc l1 _⟩
  case round =>
    obtain ⟨v, hv, rfl, HO, hB⟩ := hrel
    clear b0 b1 G1
    have G0 := HG0.out.below hB
    have b0 := G0.b0
    have b1 := G0.b1
    have l0 := G0.lt
    by_cases hlt : (v : Int) < n
    · have hvl : v < zs.length := by have := H3.out; omega
      have hvl' : (v : Int) < zs.length := by omega
      have hv0 : (0 : Int) ≤ v := by omega
      go_wp2_with fail
      refine (degree_rows n b off cap zs _ _ G0.lb G0.cells hv0 hvl' HZ.out).mono ?_
      rintro e w2 ⟨rfl, hb2⟩
      have E2 := hB.trans (hb2.mono l0)
      have l2 : w.heap.size + 1 ≤ w2.heap.size := Nat.le_trans l0 hb2.size
      have HO2 : Hid (w2.ownsRow (w.heap.size + 1) 2 1 u4 v ((degL zs v).map (Value.int .i64))) := ownsRow_below HO.out hb2
      simp only [Int.toNat_natCast]
      clear hb2
      go_wp2_with (at_builtin; refine wpList_append_own _ rfl _ _ 22 rfl (w.heap.size + 1) 2 i0 (.int .i64 0) 1 8 Tryd.underlying22 HI.out HI0.out HI1.out HI2.out rfl (by decide) _ _ _ rfl (World.ownsRow.alloc HO2.out _) ⟨w2.heap.size, 0, none⟩ 1 1 [.int .i64 (dg zs v)] rfl rfl (cell_one_new _ _ _) (by simp [Value.oneCell']) (by unfold maxLen; omega) (by omega) (by simp; omega) ?_; intro u' w3 hown3 hgr3 _)
      have E3 := (E2.alloc l2 _).grown hgr3 (by simp; omega) (fun k e => (World.ownsRow.lt HO2.out k e).1)
      have HN : Hid (w3.ownsRow (w.heap.size + 1) 2 1 u' (v + 1) ((degL zs (v + 1)).map (Value.int .i64))) := by
        show World.ownsRow _ _ _ _ _ _ _
        rw [degL_succ, List.map_append]
        exact hown3
      clear hown3 hgr3 HO2 HO
      go_wp2
      go_roundw
      case rel => exact ⟨v + 1, by omega, by go_num, HN, E3⟩
      case measure => simp [intOf]; omega
    · have hvl : v = zs.length := by have := H3.out; omega
      subst hvl
      have HF : Hid (Own wr w.heap.size u4 (degL zs zs.length)) := by
        have h := HO.out
        show World.ownsRow _ _ _ _ _ _ _
        rw [degL_length]
        exact ⟨h.1, h.2.imp id fun ⟨g, cap, cur, e, hB, r⟩ => ⟨g, cap, cur, e, by omega, r⟩⟩
      clear HO
      go_wp2
      go_ret2
      exact ⟨⟨_, rfl, HF.out⟩, D0.trans (hB.mono (by simp))⟩

set_option maxHeartbeats 400000 in
theorem specDeg_no (n : Int) (v : Value) (zs : List Int) (w : World) (h : Sl w v zs) (hg : isG n zs = false) (hl : zs.length ≤ 9223372036854775807) :
    Calls Tryd.prog 16 #[.agg #[.int .i64 n, v]] w fun e w' => LRes w.heap.size [] 1 e w' ∧ Below w.heap.size w w' := by
  have D0 : Below w.heap.size w (w.alloc (.cells #[.int .i64 n, v] 28)) := (Below.refl _ _).alloc (Nat.le_refl _) _
  have his := l01Is_any n v zs _ (h.below D0) hl
  rw [hg] at his
  clear hg h
  go_enter Tryd.func16, Tryd.ntmps16
  go_wp2_with (go_at_call 52; refine his.mono ?_; rintro e w1 ⟨rfl, hb1⟩)
  go_ret2
  exact ⟨⟨_, rfl, Own.nil _ _⟩, D0.trans (hb1.mono (by simp))⟩

theorem specDeg_any (n : Int) (v : Value) (zs : List Int) (w : World) (h : Sl w v zs) (hl : zs.length ≤ 9223372036854775807) :
    Calls Tryd.prog 16 #[.agg #[.int .i64 n, v]] w fun e w' => LRes w.heap.size (DL n zs) (DC n zs) e w' ∧ Below w.heap.size w w' := by
  cases hg : isG n zs
  · rw [show DL n zs = [] by simp [DL, hg], show DC n zs = 1 by simp [DC, hg]]
    exact specDeg_no n v zs w h hg hl
  · rw [show DL n zs = degL zs zs.length by simp [DL, hg], show DC n zs = 0 by simp [DC, hg]]
    obtain ⟨b, off, cap, rfl, hb, hc⟩ := sl_some h (by have := (isG_parts hg).2.2.1; have := (isG_parts hg).1; omega)
    exact specDeg_yes n b off cap zs w hb hc hg hl
end Go.Proofs.YtbpcdgfcdahnlaaDoor
