/-
  impl.DegreesOf: the list of degrees.
-/
import Derived.Test.YtbpcdgfcdahnlaaDoorDegS
namespace Go.Proofs.YtbpcdgfcdahnlaaDoor
set_option maxRecDepth 100000
open Go.RowKit

theorem el_degL (zs : List Int) (k i : Nat) (h : i < k) : el (degL zs k) i = (dg zs i : Int) := by simp [el, degL, h]

set_option maxHeartbeats 1000000 in
theorem implDeg_yes (n : Int) (b off cap : Nat) (zs : List Int) (w : World) (hb : b < w.heap.size) (hc : Cells w b off zs) (hg : isG n zs = true) (hl : zs.length ≤ 9223372036854775807) (hT : Tab w) :
    Calls Tryd.prog 18 #[.agg #[.int .i64 n, .slice (some ⟨b, off, none⟩) zs.length cap]] w fun e w' => LRes w.heap.size (degL zs zs.length) 0 e w' ∧ Below w.heap.size w w' := by
  obtain ⟨h1a, h1b, h3, -, -⟩ := isG_parts hg
  subst h3
  have hl62 : zs.length ≤ 62 := by omega
  have D0 : Below w.heap.size w (w.alloc (.cells #[.int .i64 zs.length, .slice (some ⟨b, off, none⟩) zs.length cap] 28)) := (Below.refl _ _).alloc (Nat.le_refl _) _
  have his := implIs_some zs.length b off cap zs _ (Nat.lt_of_lt_of_le hb D0.size) (hc.below D0 hb) hl (hT.belowAll D0)
  rw [hg] at his
  have HG0 := Lib.hid (GBox.new (n := zs.length) (cap := cap) hb hc)
  have HZ := Lib.hid (isG_row_ok hg)
  have hdeg : ∀ i W, i < zs.length → Calls Tryd.prog 55 #[.int .i64 (el zs i)] W fun e w' => e = .returned (.int .i64 (dg zs i)) ∧ W = w' := fun i W hi => by
    have := countOf_any (el zs i) W (HZ.out i hi).1 (HZ.out i hi).2
    unfold dg; exact this
  have HD := Lib.hid hdeg
  have hmk := run_mkInts zs.length (by omega)
  clear hdeg hc hg hT
  go_enter Tryd.func18, Tryd.ntmps18
  go_wp2_with (go_at_call 54; refine his.mono ?_; rintro e w1 ⟨rfl, hb1⟩; have G1 := HG0.out.below (hb1.mono (by simp)); have b0 := G1.b0; have b1 := G1.b1; have l1x : w.heap.size < w1.heap.size := G1.lt)
  have E1 : Below (w.heap.size + 1) (w.alloc (.cells #[.int .i64 zs.length, .slice (some ⟨b, off, none⟩) zs.length cap] 28)) w1 := hb1.mono (by simp)
  have l1 := G1.lt
  clear hmk hb1 his
  go_loopw [5, 6, 16] (fun _ _ i wr => ∃ v : Nat, v ≤ zs.length ∧ i = .int .i64 v ∧ Hid (Blk wr w1.heap.size (part (degL zs zs.length) v)) ∧ Below w1.heap.size w1 wr) (fun _ _ i _ => zs.length - (intOf i).toNat)
  case atStart => exact ⟨0, Nat.zero_le _, rfl, by show Blk _ _ _; rw [part_zero, degL_length]; exact Blk.new w1 _, (Below.refl _ _).alloc (Nat.le_refl _) _⟩
  case round =>
    obtain ⟨v, hv, rfl, HO, hB⟩ := hrel
    clear b0 b1
    by_cases hlt : (v : Int) < zs.length
    · have hvl : v < zs.length := by omega
      have hz : wr.cell? ⟨b, off + v, none⟩ = some (.int .i64 (el zs v)) := (hB.cell (p := ⟨b, off + v, none⟩) G1.lb).trans (G1.cells v hvl)
      have hv0 : (0 : Int) ≤ v := by omega
      have hpl := part_length (degL zs zs.length) v (by rw [degL_length]; exact hv)
      rw [degL_length] at hpl
      have hcell : wr.cell? ⟨w1.heap.size, v, none⟩ = some (.int .i64 (el (part (degL zs zs.length) v) v)) := HO.out.cell (by omega)
      have hfr : wr.frozen? ⟨w1.heap.size, v, none⟩ = false := HO.out.frozen v
      have HS : Hid (Blk (wr.setCell ⟨w1.heap.size, v, none⟩ (.int .i64 (dg zs v))) w1.heap.size (part (degL zs zs.length) (v + 1))) := by
        show Blk _ _ _
        rw [← part_succ (degL zs zs.length) v (by rw [degL_length]; exact hvl), el_degL zs _ v hvl]
        exact HO.out.set v _
      have hcv := HD.out v wr hvl
      clear hpl HO
      go_wp2_with (go_at_call 55; refine hcv.mono ?_; rintro e w2 ⟨rfl, rfl⟩)
      go_roundw
      case rel => exact ⟨v + 1, by omega, by go_num, HS, hB.setCell (p := ⟨w1.heap.size, v, none⟩) (Nat.le_refl _) _⟩
      case measure => simp [intOf]; omega
    · have hvl : v = zs.length := by omega
      subst hvl
      have HF : Hid (Own wr w.heap.size (.slice (some ⟨w1.heap.size, 0, none⟩) zs.length zs.length) (degL zs zs.length)) := by
        have h := HO.out
        have e := part_all (degL zs zs.length)
        rw [degL_length] at e
        rw [e] at h
        have := Own.of_blk h (B := w.heap.size) (by omega) (by rw [degL_length]; unfold maxLen; omega)
        rw [degL_length] at this
        exact this
      clear HO
      go_wp2
      go_ret2
      exact ⟨⟨_, rfl, HF.out⟩, (D0.trans (E1.mono (by simp))).trans (hB.mono (by omega))⟩

set_option maxHeartbeats 400000 in
theorem implDeg_no (n : Int) (v : Value) (zs : List Int) (w : World) (h : Sl w v zs) (hg : isG n zs = false) (hl : zs.length ≤ 9223372036854775807) (hT : Tab w) :
    Calls Tryd.prog 18 #[.agg #[.int .i64 n, v]] w fun e w' => LRes w.heap.size [] 1 e w' ∧ Below w.heap.size w w' := by
  have D0 : Below w.heap.size w (w.alloc (.cells #[.int .i64 n, v] 28)) := (Below.refl _ _).alloc (Nat.le_refl _) _
  have his := implIs_any n v zs _ (h.below D0) hl (hT.belowAll D0)
  rw [hg] at his
  clear hg h hT
  go_enter Tryd.func18, Tryd.ntmps18
  go_wp2_with (go_at_call 54; refine his.mono ?_; rintro e w1 ⟨rfl, hb1⟩)
  go_ret2
  exact ⟨⟨_, rfl, Own.nil _ _⟩, D0.trans (hb1.mono (by simp))⟩

theorem implDeg_any (n : Int) (v : Value) (zs : List Int) (w : World) (h : Sl w v zs) (hl : zs.length ≤ 9223372036854775807) (hT : Tab w) :
    Calls Tryd.prog 18 #[.agg #[.int .i64 n, v]] w fun e w' => LRes w.heap.size (DL n zs) (DC n zs) e w' ∧ Below w.heap.size w w' := by
  cases hg : isG n zs
  · rw [show DL n zs = [] by simp [DL, hg], show DC n zs = 1 by simp [DC, hg]]
    exact implDeg_no n v zs w h hg hl hT
  · rw [show DL n zs = degL zs zs.length by simp [DL, hg], show DC n zs = 0 by simp [DC, hg]]
    obtain ⟨b, off, cap, rfl, hb, hc⟩ := sl_some h (by have := (isG_parts hg).2.2.1; have := (isG_parts hg).1; omega)
    exact implDeg_yes n b off cap zs w hb hc hg hl hT
theorem DL_length (n : Int) (zs : List Int) : (DL n zs).length ≤ zs.length := by unfold DL; split <;> simp [degL_length]
end Go.Proofs.YtbpcdgfcdahnlaaDoor
