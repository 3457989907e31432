/-
  impl.WordGirth. (A tied seat of groups.)
-/
import Derived.Test.YtklgimikdnokcaaDoorVg
import Derived.Test.YtklgimikdnokcaaDoorVh
namespace Go.Proofs.YtklgimikdnokcaaDoor
set_option maxRecDepth 100000
open Go.RowKit

set_option maxHeartbeats 800000 in
theorem hasMember_any (r : Nat) (b : Nat) (w : World) (hr : (r : Int) ≤ 9223372036854775807) (hb : b < 62) :
    Calls Tryd.prog 49 #[.int .i64 r, .int .i64 b] w fun e w' => e = .returned (.bool (r.testBit b)) ∧ w = w' := by
  have HS : Hid ((bits .and .i64 ((r : Int) / 2 ^ b) 1 == 1) = r.testBit b) := by
    have := shr_bit (r : Int) b (by omega) hr
    unfold bt at this
    rw [Int.toNat_natCast] at this
    exact this
  have hb0 : (0 : Int) ≤ b := by omega
  go_enter Tryd.func49, Tryd.ntmps49
  go_wp2
  go_ret
  exact ⟨ret_bool HS.out, rfl⟩

theorem sl_ptr {w : World} {a : Option Addr} {n c : Nat} {zs : List Int} (h : Sl w (.slice a n c) zs) (h0 : 0 < zs.length) : ∃ b off, a = some ⟨b, off, none⟩ ∧ b < w.heap.size ∧ Cells w b off zs := by
  rcases h with ⟨_, _, _, e⟩ | ⟨b, off, _, e, hb, hc⟩
  · rw [e] at h0; simp at h0
  · injection e with e1 _ _
    exact ⟨b, off, e1, hb, hc⟩

/-- The first rows while they are made. -/
def fstR (js : List Int) (t : Nat) : List Int := (List.range js.length).map fun i => if i < t then 2 ^ en js i else 0
theorem fstR_length (js : List Int) (t : Nat) : (fstR js t).length = js.length := by simp [fstR]
theorem fstR_zero (js : List Int) : fstR js 0 = List.replicate js.length 0 := by
  refine list_ext_el (by simp [fstR]) fun i hi => ?_
  rw [fstR_length] at hi
  simp [el, fstR, hi]
theorem fstR_succ (js : List Int) (t : Nat) : (fstR js t).set t (2 ^ en js t) = fstR js (t + 1) := by
  refine list_ext_el (by simp [fstR]) fun i hi => ?_
  rw [List.length_set, fstR_length] at hi
  by_cases e : i = t
  · subst e
    rw [el_set_same _ _ _ (by rw [fstR_length]; exact hi)]
    simp [el, fstR, hi]
  · rw [el_set_ne _ _ _ _ (by omega)]
    have h1 : (i < t + 1) = (i < t) := by rw [eq_iff_iff]; omega
    simp [el, fstR, hi, h1]
theorem fstR_all {k p : Nat} {js : List Int} (hj : elOk (gOrd k p) js js.length = true) : fstR js js.length = wgR k p js 0 := by
  refine list_ext_el (by rw [fstR_length, wgR_length]) fun i hi => ?_
  rw [fstR_length] at hi
  rw [wgR_zero hj hi]
  simp [el, fstR, hi]

set_option maxHeartbeats 800000 in
theorem implWg_no (a b : Int) (v : Value) (zs : List Int) (w : World) (hs : Sl w v zs) (hl : zs.length ≤ 9223372036854775807) (hT : Tab w) (h : giC a b zs ≠ 0) :
    Calls Tryd.prog 28 #[gv a b, v] w fun e w' => e = .returned (.tuple #[.int .i64 0, .int .i64 (giC a b zs)]) ∧ Below w.heap.size w w' := by
  have D0 : Below w.heap.size w (w.alloc (.cells #[.int .i64 a, .int .i64 b] 27)) := (Below.refl _ _).alloc (Nat.le_refl _) _
  have hc := groupSet_no a b v zs (w.alloc (.cells #[.int .i64 a, .int .i64 b] 27)) (hs.below D0) hl (hT.belowAll D0) h
  obtain ⟨c, hcc⟩ : ∃ c, c = giC a b zs := ⟨_, rfl⟩
  rw [← hcc] at hc h ⊢
  have e0 : (c == 0) = false := by simpa using h
  clear hcc h hs hT
  unfold gv at *
  go_enter Tryd.func28, Tryd.ntmps28
  go_wp2_with fail
  refine hc.mono ?_
  rintro e w1 ⟨rfl, hb⟩
  go_wp2_with fail
  go_ret2
  exact ⟨rfl, D0.trans (hb.mono D0.size)⟩

set_option maxRecDepth 100000 in
set_option maxHeartbeats 3200000 in
theorem implWg_0 (p : Nat) (v : Value) (js : List Int) (w : World) (hs : Sl w v js) (hl : js.length ≤ 62) (hT : Tab w) (hg : gOk 0 p = true) (hj : elOk (gOrd 0 p) js js.length = true) (hq : clE 0 p js = js) :
    Calls Tryd.prog 28 #[gv 0 p, v] w fun e w' => e = .returned (.tuple #[.int .i64 (wgG 0 p js 0 16 : Nat), .int .i64 (if wgG 0 p js 0 16 = 0 then 4 else 0)]) ∧ Below w.heap.size w w' := by
  have D0 : Below w.heap.size w (w.alloc (.cells #[.int .i64 0, .int .i64 p] 27)) := (Below.refl _ _).alloc (Nat.le_refl _) _
  have hc := groupSet_0 p v js (w.alloc (.cells #[.int .i64 0, .int .i64 p] 27)) (hs.below D0) (by omega) hg hj (hT.belowAll D0) hq
  have HOL := Lib.hid (fun W pv L hsW hpv hTW => olo_0 p v pv js L W hg hj hsW hpv hl hTW)
  have HFA := Lib.hid (fstR_all hj)
  have HJ := Lib.hid hj
  have hn1 := gOrd_pos hg
  have hn := gOrd_le hg
  have HB62 := Lib.hid (fun f => bitsN_lt62 hg f)
  have HS := Lib.hid (hs.below D0)
  have HT := Lib.hid (hT.belowAll D0)
  have hf := slForm hs
  obtain ⟨a, cap, rfl⟩ : ∃ a c, v = .slice a js.length c := ⟨_, _, hf⟩
  obtain ⟨V, hV⟩ : ∃ V, V = wgG 0 p js 0 16 := ⟨_, rfl⟩
  rw [← hV]
  have HV := Lib.hid hV.symm
  have hmk := run_mkInts js.length (by omega)
  obtain ⟨C, hC⟩ : ∃ C : Int, C = if V = 0 then 4 else 0 := ⟨_, rfl⟩
  rw [← hC]
  have HC := Lib.hid hC
  clear hV hs hT hg hj hq hf hC
  simp only [gv, gIf] at *
  go_enter Tryd.func28, Tryd.ntmps28
  go_wp2_with fail
  refine hc.mono ?_
  rintro e w1 ⟨rfl, hb1⟩
  have hs1 := HS.out.below hb1
  have hT1 := HT.out.belowAll hb1
  have E1 := D0.trans (hb1.mono D0.size)
  clear hc
  go_wp2_with fail
  obtain ⟨g, hgg⟩ : ∃ g, g = w1.heap.size := ⟨_, rfl⟩
  obtain ⟨w2, h2⟩ : ∃ w2, w2 = w1.alloc (.cells (intsA (List.replicate js.length 0)) 2) := ⟨_, rfl⟩
  have HK : Hid (Blk w2 g (fstR js 0)) := by show Blk _ _ _; rw [h2, hgg, fstR_zero]; exact Blk.new w1 _
  have hb2 : Below w1.heap.size w1 w2 := by rw [h2]; exact (Below.refl _ _).alloc (Nat.le_refl _) _
  have g1 : w.heap.size ≤ g := by rw [hgg]; exact E1.size
  rw [← h2, ← hgg]
  rw [← hgg] at hb2
  have hgs : g ≤ w1.heap.size := by omega
  have hgs2 : w1.heap.size ≤ g := by omega
  clear h2 hgg hmk
  go_loopw [28] (fun i wr => ∃ t : Nat, i = .int .i64 t ∧ t ≤ js.length ∧ Hid (Blk wr g (fstR js t)) ∧ Below g w1 wr ∧ g + 1 ≤ wr.heap.size) (fun i _ => js.length - (intOf i).toNat)
  case atStart => exact ⟨0, rfl, Nat.zero_le _, HK, hb2, HK.out.lt⟩
  case round =>
    clear HK hb2
    obtain ⟨t, rfl, htl, HK, hE, hsz⟩ := hrel
    by_cases hlt : (t : Int) < js.length
    · have htl2 : t < js.length := by omega
      obtain ⟨b, off, rfl, hb, hcc⟩ := sl_ptr hs1 (by omega)
      have hz : wr.cell? ⟨b, off + t, none⟩ = some (.int .i64 (el js t)) := (hE.cell (p := ⟨b, off + t, none⟩) (by simp; omega)).trans (hcc t htl2)
      have he := elOk_at HJ.out htl2
      obtain ⟨y, hy⟩ := Int.eq_ofNat_of_zero_le he.1
      have hen : en js t = y := by unfold en; rw [hy]; rfl
      rw [hy] at hz he
      have hwp : IntKind.i64.wrap ((2 : Int) ^ y) = 2 ^ y := by
        obtain ⟨q0, q1⟩ := pow_bounds y (by omega)
        exact IntWalk.i64_in _ (by omega)
      have y0 : (0 : Int) ≤ y := by omega
      have y1 : (y : Int) < 62 := by omega
      have pbn := pow_bounds y (by omega)
      have ck := HK.out.cell (i := t) (by rw [fstR_length]; exact htl2)
      have fk := HK.out.frozen t
      have ht0 : (0 : Int) ≤ t := by omega
      have HK2 : Hid (Blk (wr.setCell ⟨g, t, none⟩ (.int .i64 (2 ^ y))) g (fstR js (t + 1))) := by
        show Blk _ _ _
        rw [← fstR_succ, hen]
        exact HK.out.set t _
      have hE2 := hE.setCell (p := ⟨g, t, none⟩) (by simp) (.int .i64 (2 ^ y))
      have hsz2 : g + 1 ≤ (wr.setCell ⟨g, t, none⟩ (.int .i64 (2 ^ y))).heap.size := by simpa using hsz
      clear hy hen he hcc HK hE
      go_wp2_with fail
      go_roundw
      case rel => exact ⟨t + 1, by go_num, htl2, HK2, hE2, hsz2⟩
      case measure => simp [intOf]; omega
    · obtain rfl : t = js.length := by omega
      rw [HFA.out] at HK
      have HO : Hid (Own wr w.heap.size (.slice (some ⟨g, 0, none⟩) js.length js.length) (wgR 0 p js 0)) := by
        have h := Own.of_blk HK.out g1 (by rw [wgR_length]; unfold maxLen; omega)
        rw [wgR_length] at h
        exact h
      have hEw : Below w1.heap.size w1 wr := hE.mono hgs2
      have E2 := E1.trans (hEw.mono E1.size)
      clear HK hE hlt htl
      go_wp2_with fail
      go_loopw [8, 11] (fun pv ln wr => ∃ L f : Nat, ln = .int .i64 ((L : Int) + 1) ∧ L + f = 16 ∧ Hid (wgG 0 p js L f = V) ∧ Hid (Own wr w.heap.size pv (wgR 0 p js L)) ∧ Below w1.heap.size w1 wr) (fun _ ln _ => 17 - (intOf ln).toNat)
      case atStart => exact ⟨0, 16, rfl, rfl, HV, HO, hEw⟩
      case round =>
        clear HV HO hEw E2
        obtain ⟨L, f, rfl, hLf, HV, HO, hE⟩ := hrel
        obtain ⟨pa, pl, pcap, hpe⟩ := row_slice HO.out
        subst hpe
        have hpl : pl = js.length := by
          rcases HO.out.form with ⟨e, e2⟩ | ⟨g', c', e, _, _⟩
          · have := wgR_length 0 p js L; rw [e2] at this; cases e; simpa using this
          · have := wgR_length 0 p js L; cases e; exact this
        subst hpl
        have E2 := E1.trans (hE.mono E1.size)
        cases f with
        | zero =>
          obtain rfl : L = 16 := by omega
          have hV0 : V = 0 := by rw [← HV.out]; rfl
          have hC4 : C = 4 := by rw [HC.out, if_pos hV0]
          subst hV0
          subst hC4
          go_wp2_with fail
          go_ret2
          exact ⟨rfl, E2⟩
        | succ f =>
          have hL15 : L ≤ 15 := by omega
          have hdL : decide ((L : Int) + 1 ≤ 16) = true := by simp; omega
          have hSl := HO.out.sl
          obtain ⟨wo, rfl⟩ : ∃ wo : World, wo = wr := ⟨_, rfl⟩
          go_wp2_with fail
          go_loop [45] (fun i => ∃ t : Nat, i = .int .i64 t ∧ t ≤ js.length ∧ Hid (∀ i, i < t → wgB 0 p js L 0 i = false)) (fun i => js.length - (intOf i).toNat)
          case atStart => exact ⟨0, rfl, Nat.zero_le _, fun i hi => by omega⟩
          case round =>
            obtain ⟨t, rfl, htm, HB⟩ := hrel
            by_cases hlt : (t : Int) < js.length
            · have htl : t < js.length := by omega
              obtain ⟨b, off, rfl, hb, hcc⟩ := sl_ptr hSl (by rw [wgR_length]; omega)
              have hcz := hcc t (by rw [wgR_length]; exact htl)
              rw [el_wgR htl] at hcz
              have hB62 := HB62.out (fun x => wgB 0 p js L x t)
              have hbt : (bitsN (fun x => wgB 0 p js L x t) (gOrd 0 p)).testBit 0 = wgB 0 p js L 0 t := by
                rw [bitsN_testBit, decide_eq_true (by omega), Bool.true_and]
              obtain ⟨r, hr⟩ : ∃ r, r = bitsN (fun x => wgB 0 p js L x t) (gOrd 0 p) := ⟨_, rfl⟩
              rw [← hr] at hcz hB62 hbt
              have hhm := hasMember_any r 0 wo (by omega) (by decide)
              rw [hbt] at hhm
              simp only [Int.natCast_zero] at hhm
              have ht0 : (0 : Int) ≤ t := by omega
              clear hr hbt hcc
              cases hT : wgB 0 p js L 0 t with
              | true =>
                rw [hT] at hhm
                have HVV : Hid (V = L + 1) := by
                  show _ = _
                  rw [← HV.out]
                  exact wgG_yes (wgF_iff.2 ⟨t, htl, hT⟩)
                clear hT
                go_wp2_with (go_at_call 49; with_reducible refine hhm.mono ?_; rintro e w3 ⟨rfl, rfl⟩)
                go_ret2
                exact ⟨by rw [HC.out, HVV.out, if_neg (by omega)]; push_cast; rfl, E2⟩
              | false =>
                rw [hT] at hhm
                have HB2 : Hid (∀ i, i < t + 1 → wgB 0 p js L 0 i = false) := fun i hi => by
                  rcases Nat.lt_or_ge i t with h | h
                  · exact HB.out i h
                  · obtain rfl : i = t := by omega
                    exact hT
                clear hT HB
                go_wp2_with (go_at_call 49; with_reducible refine hhm.mono ?_; rintro e w3 ⟨rfl, rfl⟩)
                go_round
                case rel => exact ⟨t + 1, by go_num, htl, HB2⟩
                case measure => simp [intOf]; omega
            · obtain rfl : t = js.length := by omega
              have HV2 : Hid (wgG 0 p js (L + 1) f = V) := by
                show _ = _
                rw [← HV.out]
                exact (wgG_no (wgF_no HB.out)).symm
              have hol := HOL.out wo _ L (hs1.below hE) hSl (hT1.belowAll hE)
              clear HV HB hSl
              go_wp2_with fail
              refine hol.mono ?_
              rintro e w3 ⟨⟨u, rfl, hO⟩, hb3⟩
              have HO3 := Lib.hid (hO.base E2.size)
              have hE3 := hE.trans (hb3.mono hE.size)
              clear hO hb3 hol HO
              go_wp2_with fail
              go_roundw
              case rel => exact ⟨L + 1, f, by go_num, by omega, HV2, HO3, hE3⟩
              case measure => simp [intOf]; omega

set_option maxRecDepth 100000 in
set_option maxHeartbeats 3200000 in
theorem implWg_1 (p : Nat) (v : Value) (js : List Int) (w : World) (hs : Sl w v js) (hl : js.length ≤ 62) (hT : Tab w) (hg : gOk 1 p = true) (hj : elOk (gOrd 1 p) js js.length = true) (hq : clE 1 p js = js) :
    Calls Tryd.prog 28 #[gv 1 p, v] w fun e w' => e = .returned (.tuple #[.int .i64 (wgG 1 p js 0 16 : Nat), .int .i64 (if wgG 1 p js 0 16 = 0 then 4 else 0)]) ∧ Below w.heap.size w w' := by
  have D0 : Below w.heap.size w (w.alloc (.cells #[.int .i64 1, .int .i64 p] 27)) := (Below.refl _ _).alloc (Nat.le_refl _) _
  have hc := groupSet_1 p v js (w.alloc (.cells #[.int .i64 1, .int .i64 p] 27)) (hs.below D0) (by omega) hg hj (hT.belowAll D0) hq
  have HOL := Lib.hid (fun W pv L hsW hpv hTW => olo_1 p v pv js L W hg hj hsW hpv hl hTW)
  have HFA := Lib.hid (fstR_all hj)
  have HJ := Lib.hid hj
  have hn1 := gOrd_pos hg
  have hn := gOrd_le hg
  have HB62 := Lib.hid (fun f => bitsN_lt62 hg f)
  have HS := Lib.hid (hs.below D0)
  have HT := Lib.hid (hT.belowAll D0)
  have hf := slForm hs
  obtain ⟨a, cap, rfl⟩ : ∃ a c, v = .slice a js.length c := ⟨_, _, hf⟩
  obtain ⟨V, hV⟩ : ∃ V, V = wgG 1 p js 0 16 := ⟨_, rfl⟩
  rw [← hV]
  have HV := Lib.hid hV.symm
  have hmk := run_mkInts js.length (by omega)
  obtain ⟨C, hC⟩ : ∃ C : Int, C = if V = 0 then 4 else 0 := ⟨_, rfl⟩
  rw [← hC]
  have HC := Lib.hid hC
  clear hV hs hT hg hj hq hf hC
  simp only [gv, gIf] at *
  go_enter Tryd.func28, Tryd.ntmps28
  go_wp2_with fail
  refine hc.mono ?_
  rintro e w1 ⟨rfl, hb1⟩
  have hs1 := HS.out.below hb1
  have hT1 := HT.out.belowAll hb1
  have E1 := D0.trans (hb1.mono D0.size)
  clear hc
  go_wp2_with fail
  obtain ⟨g, hgg⟩ : ∃ g, g = w1.heap.size := ⟨_, rfl⟩
  obtain ⟨w2, h2⟩ : ∃ w2, w2 = w1.alloc (.cells (intsA (List.replicate js.length 0)) 2) := ⟨_, rfl⟩
  have HK : Hid (Blk w2 g (fstR js 0)) := by show Blk _ _ _; rw [h2, hgg, fstR_zero]; exact Blk.new w1 _
  have hb2 : Below w1.heap.size w1 w2 := by rw [h2]; exact (Below.refl _ _).alloc (Nat.le_refl _) _
  have g1 : w.heap.size ≤ g := by rw [hgg]; exact E1.size
  rw [← h2, ← hgg]
  rw [← hgg] at hb2
  have hgs : g ≤ w1.heap.size := by omega
  have hgs2 : w1.heap.size ≤ g := by omega
  clear h2 hgg hmk
  go_loopw [28] (fun i wr => ∃ t : Nat, i = .int .i64 t ∧ t ≤ js.length ∧ Hid (Blk wr g (fstR js t)) ∧ Below g w1 wr ∧ g + 1 ≤ wr.heap.size) (fun i _ => js.length - (intOf i).toNat)
  case atStart => exact ⟨0, rfl, Nat.zero_le _, HK, hb2, HK.out.lt⟩
  case round =>
    clear HK hb2
    obtain ⟨t, rfl, htl, HK, hE, hsz⟩ := hrel
    by_cases hlt : (t : Int) < js.length
    · have htl2 : t < js.length := by omega
      obtain ⟨b, off, rfl, hb, hcc⟩ := sl_ptr hs1 (by omega)
      have hz : wr.cell? ⟨b, off + t, none⟩ = some (.int .i64 (el js t)) := (hE.cell (p := ⟨b, off + t, none⟩) (by simp; omega)).trans (hcc t htl2)
      have he := elOk_at HJ.out htl2
      obtain ⟨y, hy⟩ := Int.eq_ofNat_of_zero_le he.1
      have hen : en js t = y := by unfold en; rw [hy]; rfl
      rw [hy] at hz he
      have hwp : IntKind.i64.wrap ((2 : Int) ^ y) = 2 ^ y := by
        obtain ⟨q0, q1⟩ := pow_bounds y (by omega)
        exact IntWalk.i64_in _ (by omega)
      have y0 : (0 : Int) ≤ y := by omega
      have y1 : (y : Int) < 62 := by omega
      have pbn := pow_bounds y (by omega)
      have ck := HK.out.cell (i := t) (by rw [fstR_length]; exact htl2)
      have fk := HK.out.frozen t
      have ht0 : (0 : Int) ≤ t := by omega
      have HK2 : Hid (Blk (wr.setCell ⟨g, t, none⟩ (.int .i64 (2 ^ y))) g (fstR js (t + 1))) := by
        show Blk _ _ _
        rw [← fstR_succ, hen]
        exact HK.out.set t _
      have hE2 := hE.setCell (p := ⟨g, t, none⟩) (by simp) (.int .i64 (2 ^ y))
      have hsz2 : g + 1 ≤ (wr.setCell ⟨g, t, none⟩ (.int .i64 (2 ^ y))).heap.size := by simpa using hsz
      clear hy hen he hcc HK hE
      go_wp2_with fail
      go_roundw
      case rel => exact ⟨t + 1, by go_num, htl2, HK2, hE2, hsz2⟩
      case measure => simp [intOf]; omega
    · obtain rfl : t = js.length := by omega
      rw [HFA.out] at HK
      have HO : Hid (Own wr w.heap.size (.slice (some ⟨g, 0, none⟩) js.length js.length) (wgR 1 p js 0)) := by
        have h := Own.of_blk HK.out g1 (by rw [wgR_length]; unfold maxLen; omega)
        rw [wgR_length] at h
        exact h
      have hEw : Below w1.heap.size w1 wr := hE.mono hgs2
      have E2 := E1.trans (hEw.mono E1.size)
      clear HK hE hlt htl
      go_wp2_with fail
      go_loopw [8, 11] (fun pv ln wr => ∃ L f : Nat, ln = .int .i64 ((L : Int) + 1) ∧ L + f = 16 ∧ Hid (wgG 1 p js L f = V) ∧ Hid (Own wr w.heap.size pv (wgR 1 p js L)) ∧ Below w1.heap.size w1 wr) (fun _ ln _ => 17 - (intOf ln).toNat)
      case atStart => exact ⟨0, 16, rfl, rfl, HV, HO, hEw⟩
      case round =>
        clear HV HO hEw E2
        obtain ⟨L, f, rfl, hLf, HV, HO, hE⟩ := hrel
        obtain ⟨pa, pl, pcap, hpe⟩ := row_slice HO.out
        subst hpe
        have hpl : pl = js.length := by
          rcases HO.out.form with ⟨e, e2⟩ | ⟨g', c', e, _, _⟩
          · have := wgR_length 1 p js L; rw [e2] at this; cases e; simpa using this
          · have := wgR_length 1 p js L; cases e; exact this
        subst hpl
        have E2 := E1.trans (hE.mono E1.size)
        cases f with
        | zero =>
          obtain rfl : L = 16 := by omega
          have hV0 : V = 0 := by rw [← HV.out]; rfl
          have hC4 : C = 4 := by rw [HC.out, if_pos hV0]
          subst hV0
          subst hC4
          go_wp2_with fail
          go_ret2
          exact ⟨rfl, E2⟩
        | succ f =>
          have hL15 : L ≤ 15 := by omega
          have hdL : decide ((L : Int) + 1 ≤ 16) = true := by simp; omega
          have hSl := HO.out.sl
          obtain ⟨wo, rfl⟩ : ∃ wo : World, wo = wr := ⟨_, rfl⟩
          go_wp2_with fail
          go_loop [45] (fun i => ∃ t : Nat, i = .int .i64 t ∧ t ≤ js.length ∧ Hid (∀ i, i < t → wgB 1 p js L 0 i = false)) (fun i => js.length - (intOf i).toNat)
          case atStart => exact ⟨0, rfl, Nat.zero_le _, fun i hi => by omega⟩
          case round =>
            obtain ⟨t, rfl, htm, HB⟩ := hrel
            by_cases hlt : (t : Int) < js.length
            · have htl : t < js.length := by omega
              obtain ⟨b, off, rfl, hb, hcc⟩ := sl_ptr hSl (by rw [wgR_length]; omega)
              have hcz := hcc t (by rw [wgR_length]; exact htl)
              rw [el_wgR htl] at hcz
              have hB62 := HB62.out (fun x => wgB 1 p js L x t)
              have hbt : (bitsN (fun x => wgB 1 p js L x t) (gOrd 1 p)).testBit 0 = wgB 1 p js L 0 t := by
                rw [bitsN_testBit, decide_eq_true (by omega), Bool.true_and]
              obtain ⟨r, hr⟩ : ∃ r, r = bitsN (fun x => wgB 1 p js L x t) (gOrd 1 p) := ⟨_, rfl⟩
              rw [← hr] at hcz hB62 hbt
              have hhm := hasMember_any r 0 wo (by omega) (by decide)
              rw [hbt] at hhm
              simp only [Int.natCast_zero] at hhm
              have ht0 : (0 : Int) ≤ t := by omega
              clear hr hbt hcc
              cases hT : wgB 1 p js L 0 t with
              | true =>
                rw [hT] at hhm
                have HVV : Hid (V = L + 1) := by
                  show _ = _
                  rw [← HV.out]
                  exact wgG_yes (wgF_iff.2 ⟨t, htl, hT⟩)
                clear hT
                go_wp2_with (go_at_call 49; with_reducible refine hhm.mono ?_; rintro e w3 ⟨rfl, rfl⟩)
                go_ret2
                exact ⟨by rw [HC.out, HVV.out, if_neg (by omega)]; push_cast; rfl, E2⟩
              | false =>
                rw [hT] at hhm
                have HB2 : Hid (∀ i, i < t + 1 → wgB 1 p js L 0 i = false) := fun i hi => by
                  rcases Nat.lt_or_ge i t with h | h
                  · exact HB.out i h
                  · obtain rfl : i = t := by omega
                    exact hT
                clear hT HB
                go_wp2_with (go_at_call 49; with_reducible refine hhm.mono ?_; rintro e w3 ⟨rfl, rfl⟩)
                go_round
                case rel => exact ⟨t + 1, by go_num, htl, HB2⟩
                case measure => simp [intOf]; omega
            · obtain rfl : t = js.length := by omega
              have HV2 : Hid (wgG 1 p js (L + 1) f = V) := by
                show _ = _
                rw [← HV.out]
                exact (wgG_no (wgF_no HB.out)).symm
              have hol := HOL.out wo _ L (hs1.below hE) hSl (hT1.belowAll hE)
              clear HV HB hSl
              go_wp2_with fail
              refine hol.mono ?_
              rintro e w3 ⟨⟨u, rfl, hO⟩, hb3⟩
              have HO3 := Lib.hid (hO.base E2.size)
              have hE3 := hE.trans (hb3.mono hE.size)
              clear hO hb3 hol HO
              go_wp2_with fail
              go_roundw
              case rel => exact ⟨L + 1, f, by go_num, by omega, HV2, HO3, hE3⟩
              case measure => simp [intOf]; omega

set_option maxRecDepth 100000 in
set_option maxHeartbeats 3200000 in
theorem implWg_2 (p : Nat) (v : Value) (js : List Int) (w : World) (hs : Sl w v js) (hl : js.length ≤ 62) (hT : Tab w) (hg : gOk 2 p = true) (hj : elOk (gOrd 2 p) js js.length = true) (hq : clE 2 p js = js) :
    Calls Tryd.prog 28 #[gv 2 p, v] w fun e w' => e = .returned (.tuple #[.int .i64 (wgG 2 p js 0 16 : Nat), .int .i64 (if wgG 2 p js 0 16 = 0 then 4 else 0)]) ∧ Below w.heap.size w w' := by
  have D0 : Below w.heap.size w (w.alloc (.cells #[.int .i64 2, .int .i64 p] 27)) := (Below.refl _ _).alloc (Nat.le_refl _) _
  have hc := groupSet_2 p v js (w.alloc (.cells #[.int .i64 2, .int .i64 p] 27)) (hs.below D0) (by omega) hg hj (hT.belowAll D0) hq
  have HOL := Lib.hid (fun W pv L hsW hpv hTW => olo_2 p v pv js L W hg hj hsW hpv hl hTW)
  have HFA := Lib.hid (fstR_all hj)
  have HJ := Lib.hid hj
  have hn1 := gOrd_pos hg
  have hn := gOrd_le hg
  have HB62 := Lib.hid (fun f => bitsN_lt62 hg f)
  have HS := Lib.hid (hs.below D0)
  have HT := Lib.hid (hT.belowAll D0)
  have hf := slForm hs
  obtain ⟨a, cap, rfl⟩ : ∃ a c, v = .slice a js.length c := ⟨_, _, hf⟩
  obtain ⟨V, hV⟩ : ∃ V, V = wgG 2 p js 0 16 := ⟨_, rfl⟩
  rw [← hV]
  have HV := Lib.hid hV.symm
  have hmk := run_mkInts js.length (by omega)
  obtain ⟨C, hC⟩ : ∃ C : Int, C = if V = 0 then 4 else 0 := ⟨_, rfl⟩
  rw [← hC]
  have HC := Lib.hid hC
  clear hV hs hT hg hj hq hf hC
  simp only [gv, gIf] at *
  go_enter Tryd.func28, Tryd.ntmps28
  go_wp2_with fail
  refine hc.mono ?_
  rintro e w1 ⟨rfl, hb1⟩
  have hs1 := HS.out.below hb1
  have hT1 := HT.out.belowAll hb1
  have E1 := D0.trans (hb1.mono D0.size)
  clear hc
  go_wp2_with fail
  obtain ⟨g, hgg⟩ : ∃ g, g = w1.heap.size := ⟨_, rfl⟩
  obtain ⟨w2, h2⟩ : ∃ w2, w2 = w1.alloc (.cells (intsA (List.replicate js.length 0)) 2) := ⟨_, rfl⟩
  have HK : Hid (Blk w2 g (fstR js 0)) := by show Blk _ _ _; rw [h2, hgg, fstR_zero]; exact Blk.new w1 _
  have hb2 : Below w1.heap.size w1 w2 := by rw [h2]; exact (Below.refl _ _).alloc (Nat.le_refl _) _
  have g1 : w.heap.size ≤ g := by rw [hgg]; exact E1.size
  rw [← h2, ← hgg]
  rw [← hgg] at hb2
  have hgs : g ≤ w1.heap.size := by omega
  have hgs2 : w1.heap.size ≤ g := by omega
  clear h2 hgg hmk
  go_loopw [28] (fun i wr => ∃ t : Nat, i = .int .i64 t ∧ t ≤ js.length ∧ Hid (Blk wr g (fstR js t)) ∧ Below g w1 wr ∧ g + 1 ≤ wr.heap.size) (fun i _ => js.length - (intOf i).toNat)
  case atStart => exact ⟨0, rfl, Nat.zero_le _, HK, hb2, HK.out.lt⟩
  case round =>
    clear HK hb2
    obtain ⟨t, rfl, htl, HK, hE, hsz⟩ := hrel
    by_cases hlt : (t : Int) < js.length
    · have htl2 : t < js.length := by omega
      obtain ⟨b, off, rfl, hb, hcc⟩ := sl_ptr hs1 (by omega)
      have hz : wr.cell? ⟨b, off + t, none⟩ = some (.int .i64 (el js t)) := (hE.cell (p := ⟨b, off + t, none⟩) (by simp; omega)).trans (hcc t htl2)
      have he := elOk_at HJ.out htl2
      obtain ⟨y, hy⟩ := Int.eq_ofNat_of_zero_le he.1
      have hen : en js t = y := by unfold en; rw [hy]; rfl
      rw [hy] at hz he
      have hwp : IntKind.i64.wrap ((2 : Int) ^ y) = 2 ^ y := by
        obtain ⟨q0, q1⟩ := pow_bounds y (by omega)
        exact IntWalk.i64_in _ (by omega)
      have y0 : (0 : Int) ≤ y := by omega
      have y1 : (y : Int) < 62 := by omega
      have pbn := pow_bounds y (by omega)
      have ck := HK.out.cell (i := t) (by rw [fstR_length]; exact htl2)
      have fk := HK.out.frozen t
      have ht0 : (0 : Int) ≤ t := by omega
      have HK2 : Hid (Blk (wr.setCell ⟨g, t, none⟩ (.int .i64 (2 ^ y))) g (fstR js (t + 1))) := by
        show Blk _ _ _
        rw [← fstR_succ, hen]
        exact HK.out.set t _
      have hE2 := hE.setCell (p := ⟨g, t, none⟩) (by simp) (.int .i64 (2 ^ y))
      have hsz2 : g + 1 ≤ (wr.setCell ⟨g, t, none⟩ (.int .i64 (2 ^ y))).heap.size := by simpa using hsz
      clear hy hen he hcc HK hE
      go_wp2_with fail
      go_roundw
      case rel => exact ⟨t + 1, by go_num, htl2, HK2, hE2, hsz2⟩
      case measure => simp [intOf]; omega
    · obtain rfl : t = js.length := by omega
      rw [HFA.out] at HK
      have HO : Hid (Own wr w.heap.size (.slice (some ⟨g, 0, none⟩) js.length js.length) (wgR 2 p js 0)) := by
        have h := Own.of_blk HK.out g1 (by rw [wgR_length]; unfold maxLen; omega)
        rw [wgR_length] at h
        exact h
      have hEw : Below w1.heap.size w1 wr := hE.mono hgs2
      have E2 := E1.trans (hEw.mono E1.size)
      clear HK hE hlt htl
      go_wp2_with fail
      go_loopw [8, 11] (fun pv ln wr => ∃ L f : Nat, ln = .int .i64 ((L : Int) + 1) ∧ L + f = 16 ∧ Hid (wgG 2 p js L f = V) ∧ Hid (Own wr w.heap.size pv (wgR 2 p js L)) ∧ Below w1.heap.size w1 wr) (fun _ ln _ => 17 - (intOf ln).toNat)
      case atStart => exact ⟨0, 16, rfl, rfl, HV, HO, hEw⟩
      case round =>
        clear HV HO hEw E2
        obtain ⟨L, f, rfl, hLf, HV, HO, hE⟩ := hrel
        obtain ⟨pa, pl, pcap, hpe⟩ := row_slice HO.out
        subst hpe
        have hpl : pl = js.length := by
          rcases HO.out.form with ⟨e, e2⟩ | ⟨g', c', e, _, _⟩
          · have := wgR_length 2 p js L; rw [e2] at this; cases e; simpa using this
          · have := wgR_length 2 p js L; cases e; exact this
        subst hpl
        have E2 := E1.trans (hE.mono E1.size)
        cases f with
        | zero =>
          obtain rfl : L = 16 := by omega
          have hV0 : V = 0 := by rw [← HV.out]; rfl
          have hC4 : C = 4 := by rw [HC.out, if_pos hV0]
          subst hV0
          subst hC4
          go_wp2_with fail
          go_ret2
          exact ⟨rfl, E2⟩
        | succ f =>
          have hL15 : L ≤ 15 := by omega
          have hdL : decide ((L : Int) + 1 ≤ 16) = true := by simp; omega
          have hSl := HO.out.sl
          obtain ⟨wo, rfl⟩ : ∃ wo : World, wo = wr := ⟨_, rfl⟩
          go_wp2_with fail
          go_loop [45] (fun i => ∃ t : Nat, i = .int .i64 t ∧ t ≤ js.length ∧ Hid (∀ i, i < t → wgB 2 p js L 0 i = false)) (fun i => js.length - (intOf i).toNat)
          case atStart => exact ⟨0, rfl, Nat.zero_le _, fun i hi => by omega⟩
          case round =>
            obtain ⟨t, rfl, htm, HB⟩ := hrel
            by_cases hlt : (t : Int) < js.length
            · have htl : t < js.length := by omega
              obtain ⟨b, off, rfl, hb, hcc⟩ := sl_ptr hSl (by rw [wgR_length]; omega)
              have hcz := hcc t (by rw [wgR_length]; exact htl)
              rw [el_wgR htl] at hcz
              have hB62 := HB62.out (fun x => wgB 2 p js L x t)
              have hbt : (bitsN (fun x => wgB 2 p js L x t) (gOrd 2 p)).testBit 0 = wgB 2 p js L 0 t := by
                rw [bitsN_testBit, decide_eq_true (by omega), Bool.true_and]
              obtain ⟨r, hr⟩ : ∃ r, r = bitsN (fun x => wgB 2 p js L x t) (gOrd 2 p) := ⟨_, rfl⟩
              rw [← hr] at hcz hB62 hbt
              have hhm := hasMember_any r 0 wo (by omega) (by decide)
              rw [hbt] at hhm
              simp only [Int.natCast_zero] at hhm
              have ht0 : (0 : Int) ≤ t := by omega
              clear hr hbt hcc
              cases hT : wgB 2 p js L 0 t with
              | true =>
                rw [hT] at hhm
                have HVV : Hid (V = L + 1) := by
                  show _ = _
                  rw [← HV.out]
                  exact wgG_yes (wgF_iff.2 ⟨t, htl, hT⟩)
                clear hT
                go_wp2_with (go_at_call 49; with_reducible refine hhm.mono ?_; rintro e w3 ⟨rfl, rfl⟩)
                go_ret2
                exact ⟨by rw [HC.out, HVV.out, if_neg (by omega)]; push_cast; rfl, E2⟩
              | false =>
                rw [hT] at hhm
                have HB2 : Hid (∀ i, i < t + 1 → wgB 2 p js L 0 i = false) := fun i hi => by
                  rcases Nat.lt_or_ge i t with h | h
                  · exact HB.out i h
                  · obtain rfl : i = t := by omega
                    exact hT
                clear hT HB
                go_wp2_with (go_at_call 49; with_reducible refine hhm.mono ?_; rintro e w3 ⟨rfl, rfl⟩)
                go_round
                case rel => exact ⟨t + 1, by go_num, htl, HB2⟩
                case measure => simp [intOf]; omega
            · obtain rfl : t = js.length := by omega
              have HV2 : Hid (wgG 2 p js (L + 1) f = V) := by
                show _ = _
                rw [← HV.out]
                exact (wgG_no (wgF_no HB.out)).symm
              have hol := HOL.out wo _ L (hs1.below hE) hSl (hT1.belowAll hE)
              clear HV HB hSl
              go_wp2_with fail
              refine hol.mono ?_
              rintro e w3 ⟨⟨u, rfl, hO⟩, hb3⟩
              have HO3 := Lib.hid (hO.base E2.size)
              have hE3 := hE.trans (hb3.mono hE.size)
              clear hO hb3 hol HO
              go_wp2_with fail
              go_roundw
              case rel => exact ⟨L + 1, f, by go_num, by omega, HV2, HO3, hE3⟩
              case measure => simp [intOf]; omega

theorem implWg_any (a b : Int) (v : Value) (js : List Int) (w : World) (hs : Sl w v js) (hl : js.length ≤ 9223372036854775807) (hT : Tab w) :
    Calls Tryd.prog 28 #[gv a b, v] w fun e w' => e = .returned (.tuple #[.int .i64 (wgV a b js), .int .i64 (wgC a b js)]) ∧ Below w.heap.size w w' := by
  by_cases h : giC a b js = 0
  · obtain ⟨k, p, rfl, rfl, hg, hj, hq⟩ := giC_zero h
    rw [wgV_yes h, wgC_yes h, ← wgG_both hq]
    match k, hg, hj, hq with
    | 0, hg, hj, hq => exact implWg_0 p v js w hs (set_len hg hq) hT hg hj hq
    | 1, hg, hj, hq => exact implWg_1 p v js w hs (set_len hg hq) hT hg hj hq
    | 2, hg, hj, hq => exact implWg_2 p v js w hs (set_len hg hq) hT hg hj hq
    | k + 3, hg, _, _ => simp [gOk] at hg
  · rw [wgV_no h, wgC_no h]
    exact implWg_no a b v js w hs hl hT h
end Go.Proofs.YtklgimikdnokcaaDoor

