/-
  Several texts in one: DegR Reg.
-/
import Derived.Test.YtibpnemeehkdbaaDoorDeg
namespace Go.Proofs.YtibpnemeehkdbaaDoor
set_option maxRecDepth 100000
open Go.RowKit

set_option maxHeartbeats 800000 in
theorem regular_some (n : Int) (b off cap : Nat) (zs : List Int) (w : World) (hb : b < w.heap.size) (hc : Cells w b off zs) (hg : isG n zs = true) :
    Calls Tryd.prog 22 #[.agg #[.int .i64 n, .slice (some ⟨b, off, none⟩) zs.length cap]] w fun e w' => e = .returned (.int .i64 (regV zs)) ∧ Below w.heap.size w w' := by
  obtain ⟨h1a, h1b, h3, -, -⟩ := isG_parts hg
  have HZ := Lib.hid (isG_row_ok hg); clear hg
  have hc' := Lib.hid hc; clear hc
  have H2 := Lib.hid h3
  have hlp : (0 : Int) < zs.length := by omega
  clear h3
  go_enter Tryd.func22, Tryd.ntmps22
  go_wp2
  go_loopw [3] (fun i wr => ∃ v : Nat, 1 ≤ v ∧ v ≤ zs.length ∧ i = .int .i64 v ∧ same zs v = true ∧ Below (w.heap.size + 1) (w.alloc (.cells #[.int .i64 n, .slice (some ⟨b, off, none⟩) zs.length cap] 28)) wr) (fun i _ => zs.length - (intOf i).toNat)
  case atStart => exact ⟨1, Nat.le_refl _, by omega, rfl, by rw [same_succ]; simp [same], Below.refl _ _⟩
  case round =>
    obtain ⟨v, hv1, hv, rfl, hsm, hB⟩ := hrel
    have HS := Lib.hid hsm; clear hsm
    have G0 := (GBox.new (n := n) (cap := cap) hb hc'.out).below hB
    have b0 := G0.b0
    have b1 := G0.b1
    by_cases hlt : (v : Int) < n
    · have hvl : v < zs.length := by have := H2.out; omega
      have hvl' : (v : Int) < zs.length := by omega
      have hv0 : (0 : Int) ≤ v := by omega
      have GD : GBox wr.drew w.heap.size n b off cap zs := G0.drewN 1
      have BD : Below (w.heap.size + 1) (w.alloc (.cells #[.int .i64 n, .slice (some ⟨b, off, none⟩) zs.length cap] 28)) wr.drew := hB.drew
      go_wp2_with fail
      go_region_held3 (fun w' => w'.cell? ⟨w.heap.size, 0, none⟩ = some (.int .i64 n) ∧ w'.cell? ⟨w.heap.size, 1, none⟩ = some (.slice (some ⟨b, off, none⟩) zs.length cap))
        (go_keep)
        (first | (go_at_call 40; refine (degree_rows n b off cap zs _ _ (GBox.lb (by assumption)) (GBox.cells (H := w.heap.size) (n := n) (cap := cap) (by assumption)) (by omega) (by omega) HZ.out).mono ?_; rintro e w2 ⟨rfl, hb2⟩; have hb3 := hb2.mono (GBox.lt (H := w.heap.size) (n := n) (b := b) (off := off) (cap := cap) (zs := zs) (by assumption)); have G2 : GBox w2 w.heap.size n b off cap zs := GBox.below (by assumption) hb3; have k0 := G2.b0; have k1 := G2.b1; have D2 : Below (w.heap.size + 1) (w.alloc (.cells #[.int .i64 n, .slice (some ⟨b, off, none⟩) zs.length cap] 28)) w2 := Below.trans (by assumption) hb3))
      generalize hr : (((dg zs v : Nat) : Int) != ((dg zs 0 : Nat) : Int)) = r
      have HRR := Lib.hid hr; clear hr
      cases r
      · have HO : Hid (same zs (v + 1) = true) := by
          have e : dg zs v = dg zs 0 := nat_of_bne HRR.out
          show _ = _; rw [same_succ, HS.out, e]; simp
        go_wp2
        go_roundw
        case rel => exact ⟨v + 1, by omega, by omega, by go_num, HO.out, D2⟩
        case measure => simp [intOf]; omega
      · have e : same zs zs.length = false := same_no hvl (nat_ne_of_bne HRR.out)
        have E := Lib.hid e; clear e
        go_wp2
        go_ret
        exact ⟨ret_int (regV_no E.out).symm, ((Below.refl _ _).alloc (Nat.le_refl _) _).trans (D2.mono (by simp))⟩
    · have hvl : v = zs.length := by have := H2.out; omega
      have HS' : Hid (same zs zs.length = true) := by show _ = _; rw [← hvl]; exact HS.out
      go_wp2_with (go_at_call 40; refine (degree_rows n b off cap zs 0 _ G0.lb G0.cells (by omega) hlp HZ.out).mono ?_; rintro e w2 ⟨rfl, hb2⟩)
      go_ret
      exact ⟨ret_int (regV_yes HS'.out).symm, ((Below.refl _ _).alloc (Nat.le_refl _) _).trans ((hB.trans (hb2.mono G0.lt)).mono (by simp))⟩

end Go.Proofs.YtibpnemeehkdbaaDoor
namespace Go.Proofs.YtibpnemeehkdbaaDoor
set_option maxRecDepth 100000
open Go.RowKit

set_option maxHeartbeats 1000000 in
theorem implReg_yes (n : Int) (b off cap : Nat) (zs : List Int) (w : World) (hb : b < w.heap.size) (hc : Cells w b off zs) (hg : isG n zs = true) (hl : zs.length ≤ 9223372036854775807) (hT : Tab w) :
    Calls Tryd.prog 43 #[.agg #[.int .i64 n, .slice (some ⟨b, off, none⟩) zs.length cap]] w fun e w' => e = .returned (.tuple #[.int .i64 (regD n zs), .int .i64 (regC n zs)]) ∧ Below w.heap.size w w' := by
  have D0 : Below w.heap.size w (w.alloc (.cells #[.int .i64 n, .slice (some ⟨b, off, none⟩) zs.length cap] 28)) := (Below.refl _ _).alloc (Nat.le_refl _) _
  have his := implIs_some n b off cap zs _ (Nat.lt_of_lt_of_le hb D0.size) (hc.below D0 hb) hl (hT.belowAll D0)
  rw [hg] at his
  have HG0 := Lib.hid (GBox.new (n := n) (cap := cap) hb hc)
  obtain ⟨h1a, h1b, h3, -, -⟩ := isG_parts hg
  have HZ := Lib.hid (isG_row_ok hg)
  have hlp : (0 : Int) < zs.length := by omega
  have H3 := Lib.hid h3
  have HR : Hid (∀ c, same zs zs.length = c → regD n zs = (if c then (dg zs 0 : Int) else 0) ∧ regC n zs = (if c then 0 else 5)) := fun c hc => by subst hc; simp [regD, regC, hg]
  have hdeg : ∀ i W, i < zs.length → Calls Tryd.prog 61 #[.int .i64 (el zs i)] W fun e w' => e = .returned (.int .i64 (dg zs i)) ∧ W = w' := fun i W hi => by
    have := countOf_any (el zs i) W (HZ.out i hi).1 (HZ.out i hi).2
    unfold dg; exact this
  have HD := Lib.hid hdeg
  have hz0 : Cells w b off zs := hc
  have HC := Lib.hid hz0
  clear hdeg hz0 hc hg h3 hT
  go_enter Tryd.func43, Tryd.ntmps43
  go_wp2_with (first | (go_at_call 31; refine his.mono ?_; rintro e w1 ⟨rfl, hb1⟩; have G1 := HG0.out.below (hb1.mono (by simp)); have b0 := G1.b0; have b1 := G1.b1; have z0 : w1.cell? ⟨b, off, none⟩ = some (.int .i64 (el zs 0)) := G1.cells 0 (by omega)) | (go_at_call 61; refine (HD.out 0 _ (by omega)).mono ?_; rintro e w2 ⟨rfl, rfl⟩))
  have GC : Hid (Cells w1 b off zs) := G1.cells
  have DF := D0.trans (hb1.mono (by simp))
  go_loop [6, 18] (fun _ i => ∃ v : Nat, v ≤ zs.length ∧ i = .int .i64 v ∧ Hid (same zs v = true)) (fun _ i => zs.length - (intOf i).toNat)
  case atStart => exact ⟨0, Nat.zero_le _, rfl, rfl⟩
  case round =>
    obtain ⟨v, hv, rfl, HS⟩ := hrel
    by_cases hlt : (v : Int) < zs.length
    · have hvl : v < zs.length := by omega
      have hz : w1.cell? ⟨b, off + v, none⟩ = some (.int .i64 (el zs v)) := GC.out v hvl
      have hv0 : (0 : Int) ≤ v := by omega
      have hcv := HD.out v w1 hvl
      by_cases he : dg zs v = dg zs 0
      · have HO : Hid (same zs (v + 1) = true) := by show _ = _; rw [same_succ, HS.out, he]; simp
        have hne : (((dg zs v : Nat) : Int) != ((dg zs 0 : Nat) : Int)) = false := by rw [he]; simp
        clear he
        go_wp2_with (go_at_call 61; refine hcv.mono ?_; rintro e w2 ⟨rfl, rfl⟩)
        go_round
        case rel => exact ⟨v + 1, by omega, by go_num, HO⟩
        case measure => simp [intOf]; omega
      · have hne : (((dg zs v : Nat) : Int) != ((dg zs 0 : Nat) : Int)) = true := by rw [bne_iff_ne]; omega
        have e := HR.out false (same_no hvl he)
        simp only [Bool.false_eq_true, if_false] at e
        have E := Lib.hid e; clear e he
        go_wp2_with (go_at_call 61; refine hcv.mono ?_; rintro e w2 ⟨rfl, rfl⟩)
        go_ret2
        exact ⟨by rw [E.out.1, E.out.2]; rfl, DF⟩
    · have hvl : v = zs.length := by omega
      subst hvl
      have e := HR.out true HS.out
      simp only [if_true] at e
      have E := Lib.hid e; clear e
      go_wp2
      go_ret2
      exact ⟨by rw [E.out.1, E.out.2]; rfl, DF⟩

set_option maxHeartbeats 400000 in
theorem implReg_no (n : Int) (v : Value) (zs : List Int) (w : World) (h : Sl w v zs) (hg : isG n zs = false) (hl : zs.length ≤ 9223372036854775807) (hT : Tab w) :
    Calls Tryd.prog 43 #[.agg #[.int .i64 n, v]] w fun e w' => e = .returned (.tuple #[.int .i64 (regD n zs), .int .i64 (regC n zs)]) ∧ Below w.heap.size w w' := by
  have D0 : Below w.heap.size w (w.alloc (.cells #[.int .i64 n, v] 28)) := (Below.refl _ _).alloc (Nat.le_refl _) _
  have his := implIs_any n v zs _ (h.below D0) hl (hT.belowAll D0)
  have e1 : regD n zs = 0 := by simp [regD, hg]
  have e2 : regC n zs = 1 := by simp [regC, hg]
  rw [e1, e2]; rw [hg] at his
  clear e1 e2 hg h hT
  go_enter Tryd.func43, Tryd.ntmps43
  go_wp2_with (go_at_call 31; refine his.mono ?_; rintro e w1 ⟨rfl, hb1⟩)
  go_ret2
  exact ⟨rfl, D0.trans (hb1.mono (by simp))⟩

theorem implReg_any (n : Int) (v : Value) (zs : List Int) (w : World) (h : Sl w v zs) (hl : zs.length ≤ 9223372036854775807) (hT : Tab w) :
    Calls Tryd.prog 43 #[.agg #[.int .i64 n, v]] w fun e w' => e = .returned (.tuple #[.int .i64 (regD n zs), .int .i64 (regC n zs)]) ∧ Below w.heap.size w w' := by
  cases hg : isG n zs
  · exact implReg_no n v zs w h hg hl hT
  · obtain ⟨b, off, cap, rfl, hb, hc⟩ := sl_some h (by have := (isG_parts hg).2.2.1; have := (isG_parts hg).1; omega)
    exact implReg_yes n b off cap zs w hb hc hg hl hT
end Go.Proofs.YtibpnemeehkdbaaDoor
