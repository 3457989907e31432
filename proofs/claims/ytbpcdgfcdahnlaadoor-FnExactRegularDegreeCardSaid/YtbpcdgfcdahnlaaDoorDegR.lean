/-
  spec.RegularDegree: its answer.
-/
import Derived.Test.YtbpcdgfcdahnlaaDoorDeg
namespace Go.Proofs.YtbpcdgfcdahnlaaDoor
set_option maxRecDepth 100000
open Go.RowKit

set_option maxHeartbeats 800000 in
theorem regular_some (n : Int) (b off cap : Nat) (zs : List Int) (w : World) (hb : b < w.heap.size) (hc : Cells w b off zs) (hg : isG n zs = true) :
    Calls Tryd.prog 56 #[.agg #[.int .i64 n, .slice (some ⟨b, off, none⟩) zs.length cap]] w fun e w' => e = .returned (.int .i64 (regV zs)) ∧ Below w.heap.size w w' := by
  obtain ⟨h1a, h1b, h3, -, -⟩ := isG_parts hg
  have HZ := Lib.hid (isG_row_ok hg); clear hg
  have hc' := Lib.hid hc; clear hc
  have H2 := Lib.hid h3
  have hlp : (0 : Int) < zs.length := by omega
  clear h3
  go_enter Tryd.func56, Tryd.ntmps56
  go_wp2
  go_loopw [3] (fun i wr => ∃ v : Nat, 1 ≤ v ∧ v ≤ zs.length ∧ i = .int .i64 v ∧ same zs v = true ∧ Below (w.heap.size + 1) (w.alloc (.cells #[.int .i64 n, .slice (some ⟨b, off, none⟩) zs.length cap] 28)) wr) (fun i _ => zs.length - (intOf i).toNat)
  case atStart => exact ⟨1, Nat.le_refl _, by omega, rfl, by rw [same_succ]; simp [same], Below.refl _ _⟩
  case round =>
    obtain ⟨v, hv1, hv, rfl, hsm, hB⟩ := hrel
    have HS := Lib.hid hsm; clear hsm
    have G0 := (GBox.new (n := n) (cap := cap) hb hc'.out).below hB
    have b0 := G0.b0
    have b1 := G0.b1
    by_cases hlt : (v : Int) < n
    · have hvl : v < zs.length := by have := H2.out; omega
      have hvl' : (v : Int) < zs.length := by omega
      have hv0 : (0 : Int) ≤ v := by omega
      have GD : GBox wr.drew w.heap.size n b off cap zs := G0.drewN 1
      have BD : Below (w.heap.size + 1) (w.alloc (.cells #[.int .i64 n, .slice (some ⟨b, off, none⟩) zs.length cap] 28)) wr.drew := hB.drew
      go_wp2_with fail
      go_region_held3 (fun w' => w'.cell? ⟨w.heap.size, 0, none⟩ = some (.int .i64 n) ∧ w'.cell? ⟨w.heap.size, 1, none⟩ = some (.slice (some ⟨b, off, none⟩) zs.length cap))
        (go_keep)
        (first | (go_at_call 53; refine (degree_rows n b off cap zs _ _ (GBox.lb (by assumption)) (GBox.cells (H := w.heap.size) (n := n) (cap := cap) (by assumption)) (by omega) (by omega) HZ.out).mono ?_; rintro e w2 ⟨rfl, hb2⟩; have hb3 := hb2.mono (GBox.lt (H := w.heap.size) (n := n) (b := b) (off := off) (cap := cap) (zs := zs) (by assumption)); have G2 : GBox w2 w.heap.size n b off cap zs := GBox.below (by assumption) hb3; have k0 := G2.b0; have k1 := G2.b1; have D2 : Below (w.heap.size + 1) (w.alloc (.cells #[.int .i64 n, .slice (some ⟨b, off, none⟩) zs.length cap] 28)) w2 := Below.trans (by assumption) hb3))
      generalize hr : (((dg zs v : Nat) : Int) != ((dg zs 0 : Nat) : Int)) = r
      have HRR := Lib.hid hr; clear hr
      cases r
      · have HO : Hid (same zs (v + 1) = true) := by
          have e : dg zs v = dg zs 0 := nat_of_bne HRR.out
          show _ = _; rw [same_succ, HS.out, e]; simp
        go_wp2
        go_roundw
        case rel => exact ⟨v + 1, by omega, by omega, by go_num, HO.out, D2⟩
        case measure => simp [intOf]; omega
      · have e : same zs zs.length = false := same_no hvl (nat_ne_of_bne HRR.out)
        have E := Lib.hid e; clear e
        go_wp2
        go_ret
        exact ⟨ret_int (regV_no E.out).symm, ((Below.refl _ _).alloc (Nat.le_refl _) _).trans (D2.mono (by simp))⟩
    · have hvl : v = zs.length := by have := H2.out; omega
      have HS' : Hid (same zs zs.length = true) := by show _ = _; rw [← hvl]; exact HS.out
      go_wp2_with (go_at_call 53; refine (degree_rows n b off cap zs 0 _ G0.lb G0.cells (by omega) hlp HZ.out).mono ?_; rintro e w2 ⟨rfl, hb2⟩)
      go_ret
      exact ⟨ret_int (regV_yes HS'.out).symm, ((Below.refl _ _).alloc (Nat.le_refl _) _).trans ((hB.trans (hb2.mono G0.lt)).mono (by simp))⟩

set_option maxHeartbeats 800000 in
theorem specReg_any (n : Int) (v : Value) (zs : List Int) (w : World) (h : Sl w v zs) (hl : zs.length ≤ 9223372036854775807) :
    Calls Tryd.prog 24 #[.agg #[.int .i64 n, v]] w fun e w' => e = .returned (.tuple #[.int .i64 (regD n zs), .int .i64 (regC n zs)]) ∧ Below w.heap.size w w' := by
  have D0 : Below w.heap.size w (w.alloc (.cells #[.int .i64 n, v] 28)) := (Below.refl _ _).alloc (Nat.le_refl _) _
  have his := l01Is_any n v zs _ (h.below D0) hl
  have HB := Lib.hid (World.alloc_heap_new w (.cells #[.int .i64 n, v] 28))
  cases hg : isG n zs
  · have e1 : regD n zs = 0 := by simp [regD, hg]
    have e2 : regC n zs = 1 := by simp [regC, hg]
    rw [e1, e2]; rw [hg] at his
    clear e1 e2 hg h
    go_enter Tryd.func24, Tryd.ntmps24
    go_wp2_with (go_at_call 52; refine his.mono ?_; rintro e w1 ⟨rfl, hb1⟩)
    go_ret2
    exact ⟨rfl, D0.trans (hb1.mono (by simp))⟩
  · obtain ⟨b, off, cap, rfl, hb, hc⟩ := sl_some h (by have := (isG_parts hg).2.2.1; have := (isG_parts hg).1; omega)
    have hreg := fun W (hW : Below (w.alloc (.cells #[.int .i64 n, .slice (some ⟨b, off, none⟩) zs.length cap] 28)).heap.size (w.alloc (.cells #[.int .i64 n, .slice (some ⟨b, off, none⟩) zs.length cap] 28)) W) => regular_some n b off cap zs W (Nat.lt_of_lt_of_le hb (D0.trans (hW.mono (by simp))).size) (hc.below (D0.trans (hW.mono (by simp))) hb) hg
    rw [hg] at his
    cases hsm : same zs zs.length
    · have e1 : regD n zs = 0 := by simp [regD, hg, hsm]
      have e2 : regC n zs = 5 := by simp [regC, hg, hsm]
      rw [e1, e2]; rw [regV_no hsm] at hreg
      have HREG := Lib.hid hreg
      clear e1 e2 hg h hsm hc hreg
      go_enter Tryd.func24, Tryd.ntmps24
      go_wp2_with (first | (go_at_call 52; refine his.mono ?_; rintro e w1 ⟨rfl, hb1⟩; obtain ⟨a0, a1, _, _⟩ := two_cells ((hb1.block w.heap.size (by simp)).trans HB.out)) | (go_at_call 56; refine (HREG.out w1 hb1).mono ?_; rintro e w2 ⟨rfl, hb2⟩))
      go_ret2
      exact ⟨rfl, (D0.trans (hb1.mono (by simp))).trans (hb2.mono (by have := hb1.size; simp at this; omega))⟩
    · have e1 : regD n zs = (dg zs 0 : Int) := by simp [regD, hg, hsm]
      have e2 : regC n zs = 0 := by simp [regC, hg, hsm]
      rw [e1, e2]; rw [regV_yes hsm] at hreg
      have HREG := Lib.hid hreg
      have hd0 : (0 : Int) ≤ (dg zs 0 : Int) := by omega
      clear e1 e2 hg h hsm hc hreg
      go_enter Tryd.func24, Tryd.ntmps24
      go_wp2_with (first | (go_at_call 52; refine his.mono ?_; rintro e w1 ⟨rfl, hb1⟩; obtain ⟨a0, a1, _, _⟩ := two_cells ((hb1.block w.heap.size (by simp)).trans HB.out)) | (go_at_call 56; refine (HREG.out w1 hb1).mono ?_; rintro e w2 ⟨rfl, hb2⟩))
      go_ret2
      exact ⟨rfl, (D0.trans (hb1.mono (by simp))).trans (hb2.mono (by have := hb1.size; simp at this; omega))⟩
end Go.Proofs.YtbpcdgfcdahnlaaDoor
