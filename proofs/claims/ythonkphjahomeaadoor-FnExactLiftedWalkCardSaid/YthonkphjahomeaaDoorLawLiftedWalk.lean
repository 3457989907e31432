/-
  laws.FnExactLiftedWalk: the walk: for every base value and list that come in the law returns true and leaves what was there.
-/
import Derived.Test.YthonkphjahomeaaDoorWka
import Derived.Test.YthonkphjahomeaaDoorMa6
import Derived.Test.YthonkphjahomeaaDoorTo
import Derived.Deep.RegionHeld3
import Derived.Deep.DeepCutAuto
namespace Go.Proofs.YthonkphjahomeaaDoor.fnExactLiftedWalk
set_option maxRecDepth 100000
open Go.RowKit

theorem kept_block {w w' : World} (h : Below w.heap.size w w') {k : Nat} {x : Obj} (hx : w.heap[k]? = some x) : w'.heap[k]? = some x := (h.block k (Array.getElem?_eq_some_iff.1 hx).1).trans hx
theorem eqInts_same (v1 v2 : Value) (xs : List Int) (w : World) (h1 : Sl w v1 xs) (h2 : Sl w v2 xs) (hx : xs.length ≤ 9223372036854775807) :
    Calls Tryd.prog 12 #[v1, v2] w fun e w' => e = .returned (.bool true) ∧ Below w.heap.size w w' := by
  have := eqInts_any v1 v2 xs xs w h1 h2 hx
  simpa using this

theorem lwR_length (n m : Int) (k : Nat) (fs zs : List Int) (r : Int) : (lwR n m k fs zs r).length ≤ 15 := by
  unfold lwR
  split
  · next h =>
    rw [lwL_length]
    unfold lwC at h
    split at h
    · exact absurd h (by decide)
    · have := (wk_parts h).2.1; omega
  · simp

set_option maxHeartbeats 12800000 in
theorem law (n m : Int) (v : Value) (k : Nat) (fs : List Int) (vz : Value) (zs : List Int) (r : Int) (w : World) (hs : Sa w v k fs) (hl : k ≤ 9223372036854775807) (hz : Sl w vz zs) (hlz : zs.length ≤ 9223372036854775807) (hE : ErrW w) :
    Calls Tryd.prog 5 #[.agg #[.int .i64 n, .int .i64 m, v], vz, .int .i64 r] w fun e w' => e = .returned (.bool true) ∧ Below w.heap.size w w' := by
  obtain ⟨pa, pc, rfl⟩ : ∃ a c, vz = .slice a zs.length c := ⟨_, _, slForm hz⟩
  have D0 : Below w.heap.size w (w.alloc (.cells #[.int .i64 n, .int .i64 m, v] 24)) := (Below.refl _ _).alloc (Nat.le_refl _) _
  have HB0 := Lib.hid (World.alloc_heap_new w (.cells #[.int .i64 n, .int .i64 m, v] 24))
  obtain ⟨W0, hW0⟩ : ∃ W0, W0 = w.alloc (.cells #[.int .i64 n, .int .i64 m, v] 24) := ⟨_, rfl⟩
  have l0 : w.heap.size + 1 ≤ W0.heap.size := by rw [hW0]; simp
  rw [← hW0] at D0 HB0
  have HSA : Hid (∀ W, Below W0.heap.size W0 W → Sa W v k fs) := fun W h => hs.below (D0.trans (h.mono (by omega)))
  have HSZ : Hid (∀ W, Below W0.heap.size W0 W → Sl W (.slice pa zs.length pc) zs) := fun W h => hz.below (D0.trans (h.mono (by omega)))
  have HER : Hid (∀ W, Below W0.heap.size W0 W → ErrW W) := fun W h => hE.belowAll (D0.trans (h.mono (by omega)))
  have HBX : Hid (∀ W, Below W0.heap.size W0 W → W.cell? ⟨w.heap.size, 0, none⟩ = some (.int .i64 n) ∧ W.cell? ⟨w.heap.size, 1, none⟩ = some (.int .i64 m) ∧ W.cell? ⟨w.heap.size, 2, none⟩ = some v) := fun W h => (three_cells ((h.block w.heap.size (by omega)).trans HB0.out)).1
  have HLEN : Hid (fs.length = 3 * k) := hs.1
  have HD := Lib.hid D0
  have hsz := szBase_any n m v k fs 1048576 W0 (HSA.out W0 (Below.refl _ _)) (by decide) (by decide) hl
  clear hs hz hE D0 HB0
  obtain ⟨a0, a1, a2⟩ := HBX.out W0 (Below.refl _ _)
  by_cases hbz : (1048576 : Int) < zs.length
  · clear hsz
    go_enter Tryd.func5, Tryd.ntmps5
    go_upto_region 1 with fail
    rw [← hW0]
    clear hW0
    go_wp2_with fail
    go_ret
    exact ⟨rfl, HD.out⟩
  by_cases hbig : (1048576 : Int) < k
  · rw [if_pos hbig] at hsz
    clear hbig
    go_enter Tryd.func5, Tryd.ntmps5
    go_upto_region 1 with fail
    rw [← hW0]
    clear hW0
    go_wp2_with fail
    refine hsz.mono ?_
    rintro e w1 ⟨rfl, hb1⟩
    go_wp2_with fail
    go_ret
    exact ⟨rfl, HD.out.trans (hb1.mono (by omega))⟩
  rw [if_neg hbig] at hsz
  have hl20 : k ≤ 1048576 := by omega
  have hz20 : zs.length ≤ 1048576 := by omega
  have hsub0 : (0 : Int) ≤ 1048576 - k := by omega
  obtain ⟨D, hd⟩ : ∃ d, d = lwR n m k fs zs r := ⟨_, rfl⟩
  obtain ⟨c, hc⟩ : ∃ c, c = lwC n m k fs zs r := ⟨_, rfl⟩
  have hD20 : D.length ≤ 1048576 := by rw [hd]; exact Nat.le_trans (lwR_length n m k fs zs r) (by omega)
  have HDD := Lib.hid hd; have HCD := Lib.hid hc
  clear hbig hd hc
  go_enter Tryd.func5, Tryd.ntmps5
  go_upto_region 1 with fail
  rw [← hW0]
  clear hW0
  go_wp2_with fail
  refine hsz.mono ?_
  rintro e w1 ⟨rfl, E1⟩
  have e1 := E1.size
  clear hsz a0 a1 a2
  obtain ⟨a0, a1, a2⟩ := HBX.out w1 E1
  go_wp2_with fail
  refine (toBase_any n m v k fs w1 (HSA.out w1 E1) hl20).mono ?_
  rintro e w2 ⟨rfl, hB2, hb2⟩
  have E2 := E1.trans (hb2.mono e1)
  have e2 := hb2.size
  have HB2 := Lib.hid hB2
  clear hb2 hB2 a0 a1 a2
  go_wp2_with fail
  refine (toInts_any _ zs w2 (HSZ.out w2 E2) hz20).mono ?_
  rintro e w3 ⟨rfl, hZ3, hb3⟩
  have E3 := E2.trans (hb3.mono (by omega))
  have e3 := hb3.size
  have hsp := specLw_any n m r (.slice (some ⟨w1.heap.size + 3, 0, none⟩) k k) k fs zs (some ⟨w2.heap.size, 0, none⟩) zs.length w3 ((HB2.out.belowAll hb3).sa HLEN.out _) hl (hZ3.sl _) hlz
  rw [← HDD.out, ← HCD.out] at hsp
  clear hb3 hZ3
  go_wp2_with fail
  refine hsp.mono ?_
  rintro e w4 ⟨⟨uw, rfl, hOw⟩, hb4⟩
  have OW4 : Hid (Own w4 w3.heap.size uw D) := hOw
  have LW : Hid (∀ k, uw.ownBlock = some k → k < w4.heap.size) := hOw.lt
  have E4 := E3.trans (hb4.mono (by omega))
  have e4 := hb4.size
  obtain ⟨a0, a1, a2⟩ := HBX.out w4 E4
  clear hb4 hsp HB2 hOw
  go_wp2_with fail
  refine (toBase_any n m v k fs w4 (HSA.out w4 E4) hl20).mono ?_
  rintro e w5 ⟨rfl, hB5, hb5⟩
  have OW5 := Lib.hid (OW4.out.below hb5)
  have e5x : w4.heap.size + 3 < w5.heap.size := hB5.lt
  have E5 := E4.trans (hb5.mono (by omega))
  have e5 := hb5.size
  have HB5 := Lib.hid hB5
  clear hb5 hB5 a0 a1 a2
  go_wp2_with fail
  obtain ⟨w6, h6⟩ : ∃ w6, w6 = w5.alloc (.cells #[.int .i64 n, .int .i64 m, .slice (some ⟨w4.heap.size + 3, 0, none⟩) k k] 31) := ⟨_, rfl⟩
  have X6 : Hid (w6.heap[w5.heap.size]? = some (.cells #[.int .i64 n, .int .i64 m, .slice (some ⟨w4.heap.size + 3, 0, none⟩) k k] 31 (0, 0))) := by rw [h6]; exact World.alloc_heap_new w5 _
  have hb6 : Below w5.heap.size w5 w6 := by rw [h6]; exact (Below.refl _ _).alloc (Nat.le_refl _) _
  rw [← h6]
  clear h6
  have e6 := hb6.size
  have HB6 := Lib.hid (HB5.out.belowAll hb6)
  have E6 := E5.trans (hb6.mono (by omega))
  have l6 : w5.heap.size + 1 ≤ w6.heap.size := (Array.getElem?_eq_some_iff.1 X6.out).1
  clear HB5
  refine (toInts_any _ zs w6 (HSZ.out w6 E6) hz20).mono ?_
  rintro e w7 ⟨rfl, hZ7, hb7⟩
  have E7 := E6.trans (hb7.mono (by omega))
  have e7 := hb7.size
  have HB7 := Lib.hid (HB6.out.belowAll hb7)
  have X7 := Lib.hid (kept_block hb7 X6.out)
  have HZ7 := Lib.hid hZ7
  have e7x : w6.heap.size < w7.heap.size := hZ7.lt
  have him := implLw_any n m r (.slice (some ⟨w4.heap.size + 3, 0, none⟩) k k) k fs zs (some ⟨w6.heap.size, 0, none⟩) zs.length w7 (HB7.out.sa HLEN.out _) hl (hZ7.sl _) (Nat.le_refl _) hlz (HER.out w7 E7)
  rw [← HDD.out, ← HCD.out] at him
  obtain ⟨⟨x0, x1, x2⟩, -⟩ := three_cells X7.out
  clear hZ7 HB6 X6
  go_wp2_with fail
  refine him.mono ?_
  rintro e w8 ⟨⟨ug, rfl, hOg⟩, hb8⟩
  have OW8 : Hid (Own w8 w3.heap.size uw D) := ((OW5.out.below hb6).below hb7).below hb8
  have OG8 : Hid (Own w8 w7.heap.size ug D) := hOg
  have LG : Hid (∀ k, ug.ownBlock = some k → w7.heap.size ≤ k) := hOg.ge
  have E8 := E7.trans (hb8.mono (by omega))
  have e8 := hb8.size
  have B8 : Hid (ABlk w8 (w4.heap.size + 3) fs) := HB7.out.belowAll hb8
  have X8 := Lib.hid (kept_block hb8 X7.out)
  have Z8 : Hid (Blk w8 w6.heap.size zs) := HZ7.out.belowAll hb8
  clear him HB7 HZ7 X7 x0 x1 x2 hOg hb6 hb7 OW5 OW4
  have hcc : (c != c) = false := by simp
  clear hb8
  go_wp2_with fail
  refine (eqInts_same ug uw D w8 OG8.out.sl OW8.out.sl (by omega)).mono ?_
  rintro e w9 ⟨rfl, hb9⟩
  have E9 := E8.trans (hb9.mono (by omega))
  have e9 := hb9.size
  have B9 : Hid (ABlk w9 (w4.heap.size + 3) fs) := B8.out.belowAll hb9
  have X9 := Lib.hid (kept_block hb9 X8.out)
  have Z9 : Hid (Blk w9 w6.heap.size zs) := Z8.out.belowAll hb9
  have OW9 := Lib.hid (OW8.out.below hb9)
  have OG9 := Lib.hid (OG8.out.below hb9)
  clear hb9 B8 X8 Z8 OW8 OG8
  have hcell : ∀ W, Below w9.heap.size w9 W → (W.cell? ⟨w.heap.size, 0, none⟩ = some (.int .i64 n) ∧ W.cell? ⟨w.heap.size, 1, none⟩ = some (.int .i64 m) ∧ W.cell? ⟨w.heap.size, 2, none⟩ = some v) ∧ W.cell? ⟨w5.heap.size, 0, none⟩ = some (.int .i64 n) ∧ W.cell? ⟨w5.heap.size, 1, none⟩ = some (.int .i64 m) ∧ W.cell? ⟨w5.heap.size, 2, none⟩ = some (.slice (some ⟨w4.heap.size + 3, 0, none⟩) k k) := fun W hW =>
    ⟨HBX.out W (E9.trans (hW.mono (by omega))), (three_cells (kept_block hW X9.out)).1⟩
  obtain ⟨⟨a0, a1, a2⟩, x0, x1, x2⟩ := hcell w9 (Below.refl _ _)
  have HCE := Lib.hid hcell
  clear hcell
  go_wp2_with fail
  go_region_held3 (fun w' => w'.cell? ⟨w.heap.size, 0, none⟩ = some (.int .i64 n) ∧ w'.cell? ⟨w.heap.size, 1, none⟩ = some (.int .i64 m) ∧ w'.cell? ⟨w.heap.size, 2, none⟩ = some v ∧ w'.cell? ⟨w5.heap.size, 0, none⟩ = some (.int .i64 n) ∧ w'.cell? ⟨w5.heap.size, 1, none⟩ = some (.int .i64 m) ∧ w'.cell? ⟨w5.heap.size, 2, none⟩ = some (.slice (some ⟨w4.heap.size + 3, 0, none⟩) k k))
    (go_keep)
    (first | (go_at_call 8; refine (toBase_any n m v k fs _ (HSA.out _ (E9.drew)) hl20).mono ?_; rintro e wa ⟨rfl, hBa, hba⟩; have HBa := Lib.hid hBa; have hba' : Below w9.heap.size w9 wa := below_drew hba (by simp); have Ba : Hid (ABlk wa (w4.heap.size + 3) fs) := B9.out.belowAll hba'; obtain ⟨⟨a0, a1, a2⟩, x0, x1, x2⟩ := HCE.out wa hba'; clear hBa) | (go_at_call 11; refine (eqBase_same n m _ _ k fs _ (Ba.out.sa HLEN.out _) (HBa.out.sa HLEN.out _) hl).mono ?_; rintro e wb ⟨rfl, hbb⟩; have hbb' : Below w9.heap.size w9 wb := hba'.trans (hbb.mono hba'.size); obtain ⟨⟨a0, a1, a2⟩, x0, x1, x2⟩ := HCE.out wb hbb'))
  have Eb := E9.trans (hbb'.mono (by omega))
  have eb := hbb'.size
  have Bb : Hid (ABlk wb (w4.heap.size + 3) fs) := B9.out.belowAll hbb'
  have Xb := Lib.hid (kept_block hbb' X9.out)
  have Zb : Hid (Blk wb w6.heap.size zs) := Z9.out.belowAll hbb'
  have OWb := Lib.hid (OW9.out.below hbb')
  have OGb := Lib.hid (OG9.out.below hbb')
  clear hba hba' hbb hbb' a0 a1 a2 x0 x1 x2 HBa Ba B9 X9 Z9 HCE OW9 OG9
  go_wp2_with fail
  refine (toInts_any _ zs wb (HSZ.out wb Eb) hz20).mono ?_
  rintro e wc ⟨rfl, hZc, hbc⟩
  have Ec := Eb.trans (hbc.mono (by omega))
  have ec := hbc.size
  have hq := eqInts_same (.slice (some ⟨w6.heap.size, 0, none⟩) zs.length zs.length) (.slice (some ⟨wb.heap.size, 0, none⟩) zs.length zs.length) zs wc ((Zb.out.belowAll hbc).sl _) (hZc.sl _) hlz
  clear hZc
  go_wp2_with fail
  refine hq.mono ?_
  rintro e wd ⟨rfl, hbd⟩
  have hbcd := hbc.trans (hbd.mono ec)
  have Ed := Eb.trans (hbcd.mono (by omega))
  have ed := hbcd.size
  have Bd : Hid (ABlk wd (w4.heap.size + 3) fs) := Bb.out.belowAll hbcd
  have Zd : Hid (Blk wd w6.heap.size zs) := Zb.out.belowAll hbcd
  have OWd := Lib.hid (OWb.out.below hbcd)
  have OGd := Lib.hid (OGb.out.below hbcd)
  obtain ⟨⟨x0, x1, x2⟩, -⟩ := three_cells (kept_block hbcd Xb.out)
  clear hq hbc hbd hbcd Bb Zb OWb OGb Xb
  -- marks into the arguments
  have hmx := markBase_any n m (w4.heap.size + 3) k k fs 1 wd Bd.out HLEN.out (by decide) (by decide) hl20
  go_wp2_with fail
  refine hmx.mono ?_
  rintro e we ⟨rfl, hge⟩
  have hge' : wd.grownBy we (some (w4.heap.size + 3)) := hge
  have ee := hge'.size
  have Ee := Ed.grown hge' (by omega) (fun k e => by cases e; omega)
  have OWe : Hid (Own we w3.heap.size uw D) := OWd.out.kept hge' (by
    cases hu : uw.ownBlock with
    | none => exact .inl rfl
    | some k => refine .inr fun e => ?_; cases e; have := LW.out _ hu; omega)
  have OGe : Hid (Own we w7.heap.size ug D) := OGd.out.kept hge' (by
    cases hu : ug.ownBlock with
    | none => exact .inl rfl
    | some k => refine .inr fun e => ?_; cases e; have := LG.out _ hu; omega)
  have Ze : Hid (Blk we w6.heap.size zs) := (hge'.block w6.heap.size Zd.out.lt (by simp; omega)).trans Zd.out
  have hms := markInts_any (.slice (some ⟨w6.heap.size, 0, none⟩) zs.length zs.length) w6.heap.size zs (1 + 3 * (k : Int)) we (Own.of_blk Ze.out (Nat.le_refl _) (by unfold maxLen; omega)) (by omega) (by omega) (by omega)
  clear hge hge' hmx Bd Zd OWd OGd x0 x1 x2 Ze
  go_wp2_with fail
  refine hms.mono ?_
  rintro e wf ⟨rfl, -, hgf, -⟩
  have hgf' : we.grownBy wf (some w6.heap.size) := hgf
  have ef := hgf'.size
  have Ef := Ee.grown hgf' (by omega) (fun k e => by cases e; omega)
  have OWf : Hid (Own wf w3.heap.size uw D) := OWe.out.kept hgf' (by
    cases hu : uw.ownBlock with
    | none => exact .inl rfl
    | some k => refine .inr fun e => ?_; cases e; have := LW.out _ hu; omega)
  have OGf : Hid (Own wf w7.heap.size ug D) := OGe.out.kept hgf' (by
    cases hu : ug.ownBlock with
    | none => exact .inl rfl
    | some k => refine .inr fun e => ?_; cases e; have := LG.out _ hu; omega)
  have hkk : ¬ (1 + 3 * (k : Int) + (zs.length : Int)) < 0 := by omega
  clear hgf hgf' hms OWe OGe
  go_wp2_with fail
  refine (eqInts_same ug uw D wf OGf.out.sl OWf.out.sl (by omega)).mono ?_
  rintro e wg ⟨rfl, hbg⟩
  have eg := hbg.size
  have Eg := Ef.trans (hbg.mono (by omega))
  have OWg := Lib.hid (OWf.out.below hbg)
  have OGg := Lib.hid (OGf.out.below hbg)
  clear hbg OWf OGf
  -- marks into the answer
  have hmg := markInts_any ug w7.heap.size D 1 wg OGg.out (by decide) (by decide) (by omega)
  go_wp2_with fail
  refine hmg.mono ?_
  rintro e wh ⟨rfl, hOGh, hgh, -⟩
  have eh := hgh.size
  have Eh := Eg.grown hgh (by omega) (fun k e => by have := LG.out _ e; omega)
  have OWh : Hid (Own wh w3.heap.size uw D) := OWg.out.kept hgh (by
    cases hu : uw.ownBlock with
    | none => exact .inl rfl
    | some k => refine .inr fun e => ?_; have h1 := LW.out _ hu; have h2 := LG.out _ e.symm; omega)
  have OGh : Hid (Own wh w7.heap.size ug (markL 1 D.length)) := hOGh
  obtain ⟨a0, a1, a2⟩ := HBX.out wh Eh
  clear hgh hmg OWg OGg hOGh hkk
  have hd0 : (0 : Int) ≤ 1 + (D.length : Int) := by omega
  go_wp2_with (go_at_call 19; refine (heldInts_any ug D.length 1 _ OGh.out.sl (by decide) (by decide) (by omega)).mono ?_; rintro e wx ⟨rfl, rfl⟩)
  -- a second answer
  refine (toBase_any n m v k fs wh (HSA.out wh Eh) hl20).mono ?_
  rintro e wi ⟨rfl, hBi, hbi⟩
  have ei := hbi.size
  have Ei := Eh.trans (hbi.mono (by omega))
  have OWi := Lib.hid (OWh.out.below hbi)
  have OGi := Lib.hid (OGh.out.below hbi)
  have HBi := Lib.hid hBi
  clear hbi hBi OWh OGh a0 a1 a2
  go_wp2_with fail
  refine (toInts_any _ zs wi (HSZ.out wi Ei) hz20).mono ?_
  rintro e wj ⟨rfl, hZj, hbj⟩
  have ej := hbj.size
  have Ej := Ei.trans (hbj.mono (by omega))
  have OWj := Lib.hid (OWi.out.below hbj)
  have OGj := Lib.hid (OGi.out.below hbj)
  have him := implLw_any n m r (.slice (some ⟨wh.heap.size + 3, 0, none⟩) k k) k fs zs (some ⟨wi.heap.size, 0, none⟩) zs.length wj ((HBi.out.belowAll hbj).sa HLEN.out _) hl (hZj.sl _) (Nat.le_refl _) hlz (HER.out wj Ej)
  rw [← HDD.out, ← HCD.out] at him
  clear hbj hZj OWi OGi HBi
  go_wp2_with fail
  refine him.mono ?_
  rintro e wk ⟨⟨uh, rfl, hOh⟩, hbk⟩
  have ek := hbk.size
  have Ek := Ej.trans (hbk.mono (by omega))
  have OWk := Lib.hid (OWj.out.below hbk)
  have OGk := Lib.hid (OGj.out.below hbk)
  have OHk : Hid (Own wk wj.heap.size uh D) := hOh
  clear hbk hOh him OWj OGj
  go_wp2_with fail
  refine (eqInts_same uh uw D wk OHk.out.sl OWk.out.sl (by omega)).mono ?_
  rintro e wl ⟨rfl, hbl⟩
  have El := Ek.trans (hbl.mono (by omega))
  have OGl := Lib.hid (OGk.out.below hbl)
  clear hbl OWk OGk OHk
  go_wp2_with (go_at_call 19; refine (heldInts_any ug D.length 1 _ OGl.out.sl (by decide) (by decide) (by omega)).mono ?_; rintro e wx ⟨rfl, rfl⟩)
  go_ret
  exact ⟨rfl, HD.out.trans (El.mono (by omega))⟩
end Go.Proofs.YthonkphjahomeaaDoor.fnExactLiftedWalk
