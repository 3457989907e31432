/-
  impl.pointsOf: the walk.
-/
import Derived.Test.YtbfdhnecadgfdaaDoorTw
import Derived.Deep.DeepCutAuto
namespace Go.Proofs.YtbfdhnecadgfdaaDoor
set_option maxRecDepth 100000
open Go.RowKit Go.Maps Go.WideMaps Go.WideElems

/-- What pointsOf leaves. -/
def PRet (B : Nat) (ps : List (List Int)) (e : Ending) (w' : World) : Prop := ∃ v, e = .returned (.tuple #[v, .int .i64 0]) ∧ PO w' B v ps

set_option maxHeartbeats 800000 in
theorem points_no (q : Int) (w : World) (h : ¬ (q = 2 ∨ q = 3 ∨ q = 5 ∨ q = 7)) :
    Calls Tryd.prog 45 #[.int .i64 q] w fun e w' => e = .returned (.tuple #[.slice none 0 0, .int .i64 2]) ∧ w = w' := by
  have HP := Lib.hid (fun W => isPrime_no q W h)
  clear h
  go_enter Tryd.func45, Tryd.ntmps45
  go_wp2_with (go_at_call 52; refine (HP.out _).mono ?_; rintro e w' ⟨rfl, rfl⟩)
  go_ret2
  exact ⟨rfl, rfl⟩

theorem run_toTri (a : Addr) (c : Nat) (w : World) : (Instr.arrayAt 53 (.slice (some a) 3 c)).run Tryd.prog w = .ok (.pointer (some a)) w := by
  simp [Instr.arrayAt, run_underlying Tryd.underlying53]
theorem TS.form1 {w : World} {B : Nat} {v : Value} {Ts : List (List Int)} (h : TS w B v Ts) (h0 : 0 < Ts.length) : ∃ g cap, v = .slice (some ⟨g, 0, none⟩) Ts.length cap ∧ B ≤ g ∧ g < w.heap.size := by
  rcases h.form with ⟨_, rfl⟩ | h
  · simp at h0
  · exact h
/-- One of its lists that is not empty: where it lies. -/
theorem TS.rowAt {w : World} {B g cap : Nat} {Ts : List (List Int)} (h : TS w B (.slice (some ⟨g, 0, none⟩) Ts.length cap) Ts) {i : Nat} (hi : i < Ts.length) (hne : 0 < (elS Ts i).length) :
    ∃ b c, w.cell? ⟨g, i, none⟩ = some (.slice (some ⟨b, 0, none⟩) (elS Ts i).length c) ∧ B ≤ b ∧ b < w.heap.size ∧ ∀ j, j < (elS Ts i).length → w.cell? ⟨b, j, none⟩ = some (.int .i64 (el (elS Ts i) j)) := by
  obtain ⟨u, a, hu, _⟩ := h.at hi
  rcases hu.form with ⟨_, h0⟩ | ⟨b, c, rfl, hb, hl⟩
  · rw [h0] at hne; simp at hne
  · exact ⟨b, c, a, hb, hl, fun j hj => (World.ownsRow.cellAt hu j (by omega)).trans (map_at _ j hj)⟩

set_option maxHeartbeats 6400000 in
set_option maxRecDepth 100000 in
theorem points_any (q : Nat) (w : World) (h : (q : Int) = 2 ∨ (q : Int) = 3 ∨ (q : Int) = 5 ∨ (q : Int) = 7) (hTab : Tab w) :
    Calls Tryd.prog 45 #[.int .i64 q] w fun e w' => PRet w.heap.size (runP q (tups q 3)).1 e w' ∧ Below w.heap.size w w' := by
  have hq : 2 ≤ q ∧ q ≤ 7 := by omega
  have HPR := Lib.hid (fun W => isPrime_yes (q : Int) W h)
  clear h
  have hmm := @run_makeMap Tryd.prog
  have hsa := run_toTri
  obtain ⟨j0, hi, hz0, hz1, hz2⟩ := info_parts info3P
  have HJ := Lib.hid hi; have HJ0 := Lib.hid hz0; have HJ1 := Lib.hid hz1; have HJ2 := Lib.hid hz2
  clear hi hz0 hz1 hz2
  have HM0 := Lib.hid (PT.made w)
  have HS0 : Hid (Small [0, 0, 0]) := (show Tri [0, 0, 0] from ⟨rfl, fun i => by
      have : el [0, 0, 0] i = 0 := by
        match i with
        | 0 => rfl
        | 1 => rfl
        | 2 => rfl
        | n + 3 => rfl
      rw [this]; omega⟩).small
  have htu := fun W hTW => tuples_any 3 q W (by omega) (by omega) hq.2 hTW
  have HTAB := Lib.hid hTab
  have hTl := hTab.lt
  clear hTab
  have htri := fun i => tri_at q i hq.2
  have hrun := runP_small q hq
  have hlen := tups_bd q 3 hq.2 (by omega)
  have hpos : 0 < (tups q 3).length := by rw [tups_length]; exact Nat.pow_pos (by omega)
  obtain ⟨T, hT⟩ : ∃ T, T = tups q 3 := ⟨_, rfl⟩
  rw [← hT] at htu htri hrun hlen hpos
  rw [← hT]
  have HTU := Lib.hid htu; have HTRI := Lib.hid htri; have HRUN := Lib.hid hrun
  have hall : T.take T.length = T := List.take_length
  have HALL := Lib.hid hall
  have hR0 : runP q (T.take 0) = ([], [[0, 0, 0]]) := rfl
  have HR0 := Lib.hid hR0
  clear hT htu htri hrun hall hR0
  go_enter Tryd.func45, Tryd.ntmps45
  go_wp2_with (first
    | (go_at_call 52; refine (HPR.out _).mono ?_; rintro e w' ⟨rfl, rfl⟩)
    | (refine wpList_put_tri _ rfl (.tmp 13) (.tmp 14) (.const (.bool true)) (.inr rfl) w.heap.size [] [0, 0, 0] rfl HM0.out (by unfold maxLen; decide) HS0.out rfl rfl ?_; intro wa hPa hga; have HPA := Lib.hid hPa; have HGA := Lib.hid hga; have HTWA : Hid (Tab wa) := HTAB.out.below (((Below.refl w.heap.size w).alloc (Nat.le_refl _) (.map #[] 0)).grown hga (by simp) (fun j e => by cases e; exact Nat.le_refl _)) hTl; clear hPa hga)
    | (go_at_call 53; refine (HTU.out _ HTWA.out).mono ?_; rintro e w1 ⟨⟨tv, rfl, hT⟩, hb1⟩; obtain ⟨g, cap, rfl, hg1, hg2⟩ := hT.form1 hpos; have HT := Lib.hid hT; have HB1 := Lib.hid hb1; clear hT hb1))
  have sA : w.heap.size + 1 ≤ wa.heap.size := by have := HGA.out.size; simpa using this
  have HP1 : Hid (PT w1 w.heap.size (runP q (T.take 0)).2) := by show PT _ _ _; rw [HR0.out]; exact HPA.out.below HB1.out
  have HO1 : Hid (PO w1 w1.heap.size (.slice none 0 0) (runP q (T.take 0)).1) := by show PO _ _ _ _; rw [HR0.out]; exact PO.nil _ _
  have E1 : Below w.heap.size w w1 := (((Below.refl _ _).alloc (Nat.le_refl _) (.map #[] 0)).grown HGA.out (by simp) (fun j e => by cases e; exact Nat.le_refl _)).trans (HB1.out.mono (by omega))
  have s1 := HB1.out.size
  clear HPA HGA HB1 HM0 HPR HTU hmm HR0
  go_loopw [4, 19] (fun pv c wr => ∃ i : Nat, i ≤ T.length ∧ c = .int .i64 i ∧ Hid (PO wr w1.heap.size pv (runP q (T.take i)).1) ∧ Hid (PT wr w.heap.size (runP q (T.take i)).2) ∧ Hid (Rng w1 wr w.heap.size (w.heap.size + 1)) ∧ Below w.heap.size w wr ∧ w1.heap.size ≤ wr.heap.size) (fun _ c _ => T.length - (intOf c).toNat)
  case atStart => exact ⟨0, Nat.zero_le _, rfl, HO1, HP1, Rng.refl _ _ _, E1, Nat.le_refl _⟩
  case round =>
    obtain ⟨i, hi, rfl, HO, HP, HR, hE, hs⟩ := hrel
    obtain ⟨pa, pl, pc, hpv⟩ := row_slice HO.out
    subst hpv
    by_cases hlt : (i : Int) < T.length
    · have hil : i < T.length := by omega
      have ht := HTRI.out i hil
      obtain ⟨b, c, hc0, hb1, hb2, hcells⟩ := HT.out.rowAt hil (by rw [ht.1]; omega)
      obtain ⟨hsm, hm2, hm1⟩ := HRUN.out i (by omega)
      have hnext := runP_succ q T i hil
      obtain ⟨t, htt⟩ : ∃ t, t = elS T i := ⟨_, rfl⟩
      obtain ⟨S, hSS⟩ : ∃ S, S = runP q (T.take i) := ⟨_, rfl⟩
      rw [← htt] at ht hc0 hcells hnext
      rw [← hSS] at hsm hm2 hm1 hnext HO HP
      rw [ht.1] at hc0 hcells
      have hcell : wr.cell? ⟨g, i, none⟩ = some (.slice (some ⟨b, 0, none⟩) 3 c) := (HR.out.cell hg2 (.inr (by omega))).trans hc0
      have z0 : wr.cell? ⟨b, 0, none⟩ = some (.int .i64 (el t 0)) := (HR.out.cell hb2 (.inr (by omega))).trans (hcells 0 (by omega))
      have z1 : wr.cell? ⟨b, 1, none⟩ = some (.int .i64 (el t 1)) := (HR.out.cell hb2 (.inr (by omega))).trans (hcells 1 (by omega))
      have z2 : wr.cell? ⟨b, 2, none⟩ = some (.int .i64 (el t 2)) := (HR.out.cell hb2 (.inr (by omega))).trans (hcells 2 (by omega))
      have HTS := Lib.hid ht.small
      have HTT := Lib.hid ht
      have HSM := Lib.hid hsm
      have HNX := Lib.hid hnext
      have hi0 : (0 : Int) ≤ i := by omega
      obtain ⟨w2, hw2⟩ : ∃ w2, w2 = wr.alloc (.cells #[.int .i64 (el t 0), .int .i64 (el t 1), .int .i64 (el t 2)] 53) := ⟨_, rfl⟩
      have HX2 : Hid (w2.heap[wr.heap.size]? = some (.cells #[.int .i64 (el t 0), .int .i64 (el t 1), .int .i64 (el t 2)] 53 (0, 0))) := by rw [hw2]; exact World.alloc_heap_new wr _
      have hb2' : Below wr.heap.size wr w2 := by rw [hw2]; exact (Below.refl _ _).alloc (Nat.le_refl _) _
      have HO2 := Lib.hid (HO.out.below hb2')
      have HP2 := Lib.hid (HP.out.below hb2')
      have HR2 := Lib.hid (HR.out.below hb2')
      have hE2 : Below w.heap.size w w2 := hE.trans (hb2'.mono hE.size)
      have s2 : wr.heap.size + 1 ≤ w2.heap.size := by rw [hw2]; simp
      have HW2 := Lib.hid hw2
      have HPV : Hid (∀ k, (Value.slice pa pl pc).ownBlock = some k → w1.heap.size ≤ k ∧ k < wr.heap.size) := fun k e => World.ownsRow.lt HO.out k e
      clear hb2' hsm hnext htt hSS hc0 hcells ht HO HP HR hE hw2
      cases hr : S.2.contains t with
      | true =>
        have HC := Lib.hid hr
        have HN2 : Hid (runP q (T.take (i + 1)) = S) := by show _ = _; rw [HNX.out, stepP_yes HC.out]
        clear hr
        obtain ⟨⟨x0, x1, x2⟩, -⟩ := three_at HX2.out
        go_upto_region 9 with fail
        rw [← HW2.out]
        go_wp2_with (at_lookup; refine wpList_look_tri _ rfl _ _ rfl w.heap.size S.2 t true rfl HP2.out HTS.out HSM.out HC.out rfl ?_)
        go_roundw
        case rel => exact ⟨i + 1, by omega, by go_num, by rw [HN2.out]; exact HO2, by rw [HN2.out]; exact HP2, HR2, hE2, by omega⟩
        case measure => simp [intOf]; omega
      | false =>
        have HC := Lib.hid hr
        have HN2 : Hid (runP q (T.take (i + 1)) = (S.1 ++ [t], S.2 ++ (List.range q).map (mulT q t))) := by show _ = _; rw [HNX.out, stepP_no HC.out]
        clear hr
        obtain ⟨⟨x0, x1, x2⟩, -⟩ := three_at HX2.out
        go_upto_region 9 with fail
        rw [← HW2.out]
        go_wp2_with (first
          | (at_lookup; refine wpList_look_tri _ rfl _ _ rfl w.heap.size S.2 t false rfl HP2.out HTS.out HSM.out HC.out rfl ?_)
          | (at_builtin; refine wpList_append_own_at _ rfl (.tmp 29) (.tmp 31) 49 rfl w1.heap.size 53 j0 (.agg #[.int .i64 0, .int .i64 0, .int .i64 0]) 3 24 Tryd.underlying49 HJ.out HJ0.out HJ1.out HJ2.out rfl (by decide) _ _ _ rfl (HO2.out.below ((Below.refl _ w2).alloc (Nat.le_refl _) (.cells #[.int .i64 (el t 0), .int .i64 (el t 1), .int .i64 (el t 2)] 53))) ⟨w2.heap.size, 0, none⟩ 1 1 [.int .i64 (el t 0), .int .i64 (el t 1), .int .i64 (el t 2)] rfl rfl (cells_three_new _ _ _ _ _) (by simp [Value.oneCell']) (by unfold maxLen; omega) (by omega) (by simp; omega) ?_; intro pv3 w3 hown3 hgr3 _ hloc; have HO3 := Lib.hid hown3; have HG3 := Lib.hid hgr3; have HL3 := Lib.hid hloc; clear hown3 hgr3 hloc))
        obtain ⟨qa, ql, qc, hpv3⟩ := row_slice HO3.out
        subst hpv3
        have hbX : Below w2.heap.size w2 (w2.alloc (.cells #[.int .i64 (el t 0), .int .i64 (el t 1), .int .i64 (el t 2)] 53)) := (Below.refl _ _).alloc (Nat.le_refl _) _
        have HPO3 : Hid (PO w3 w1.heap.size (.slice qa ql qc) (S.1 ++ [t])) := by
          show World.ownsRow _ _ _ _ _ _ _
          rw [List.length_append, show cellsP (S.1 ++ [t]) = cellsP S.1 ++ [.int .i64 (el t 0), .int .i64 (el t 1), .int .i64 (el t 2)] by simp [cellsP]]
          exact HO3.out
        have HPT3 : Hid (PT w3 w.heap.size (S.2 ++ (List.range 0).map (mulT q t))) := by
          show PT _ _ _
          rw [show S.2 ++ (List.range 0).map (mulT q t) = S.2 by simp]
          exact (HP2.out.below hbX).kept HG3.out (fun e => by have := HPV.out _ e.symm; omega)
        have HRG3 : Hid (Rng w1 w3 w.heap.size (w.heap.size + 1)) := (HR2.out.below hbX).far HG3.out (fun g e => (HPV.out g e).1)
        have HX3 : Hid (w3.heap[wr.heap.size]? = some (.cells #[.int .i64 (el t 0), .int .i64 (el t 1), .int .i64 (el t 2)] 53 (0, 0))) := (HG3.out.block wr.heap.size (by simp; omega) (fun e => by have := HPV.out _ e.symm; omega)).trans ((hbX.block wr.heap.size (by omega)).trans HX2.out)
        have hE3 : Below w.heap.size w w3 := (hE2.trans (hbX.mono (by omega))).grown HG3.out (by simp; omega) (fun g e => by have := HPV.out g e; omega)
        have s3 : w2.heap.size + 1 ≤ w3.heap.size := by have := HG3.out.size; simpa using this
        have HQV : Hid (∀ k, (Value.slice qa ql qc).ownBlock = some k → w1.heap.size ≤ k) := fun k e => (World.ownsRow.lt HPO3.out k e).1
        clear HO3 HG3 HL3 hbX HX2 HO2 HP2 HR2 hE2 HW2 HPV x0 x1 x2 hcell z0 z1 z2
        obtain ⟨wm, rfl⟩ : ∃ wm : World, wm = wr := ⟨_, rfl⟩
        go_loopw [9, 34] (fun _ c wr => ∃ y : Nat, y ≤ q ∧ c = .int .i64 y ∧ Hid (PT wr w.heap.size (S.2 ++ (List.range y).map (mulT q t))) ∧ Hid (wr.heap[wm.heap.size]? = some (.cells #[.int .i64 (el t 0), .int .i64 (el t 1), .int .i64 (el t 2)] 53 (0, 0))) ∧ Hid (PO wr w1.heap.size (.slice qa ql qc) (S.1 ++ [t])) ∧ Hid (Rng w1 wr w.heap.size (w.heap.size + 1)) ∧ Below w.heap.size w wr ∧ w3.heap.size ≤ wr.heap.size) (fun _ c _ => q - (intOf c).toNat)
        case atStart => exact ⟨0, Nat.zero_le _, rfl, HPT3, HX3, HPO3, HRG3, hE3, Nat.le_refl _⟩
        case round =>
          obtain ⟨y, hy, rfl, HPQ, HXQ, HOQ, HRQ, hEQ, sQ⟩ := hrel
          by_cases hly : (y : Int) < q
          · have hyq : y < q := by omega
            have htt := HTT.out
            obtain ⟨⟨x0, x1, x2⟩, -⟩ := three_at HXQ.out
            have htm := times_any (el t 0) (el t 1) (el t 2) (q : Int) (y : Int) wr (by omega) (htt.2 0) (htt.2 1) (htt.2 2) (by omega)
            have HTM := Lib.hid htm
            have hy0 : (0 : Int) ≤ y := by omega
            have HXV : Hid (Value.agg #[.int .i64 (el t 0 * (y : Int) % (q : Int)), .int .i64 (el t 1 * (y : Int) % (q : Int)), .int .i64 (el t 2 * (y : Int) % (q : Int))] = .agg #[.int .i64 (el (mulT q t y) 0), .int .i64 (el (mulT q t y) 1), .int .i64 (el (mulT q t y) 2)]) := by
              show _ = _
              rw [el_mul q t y 0 (by rw [htt.1]; omega), el_mul q t y 1 (by rw [htt.1]; omega), el_mul q t y 2 (by rw [htt.1]; omega)]
            have HSL : Hid ((S.2 ++ (List.range y).map (mulT q t)).length < maxLen) := by show _ < _; rw [List.length_append, List.length_map, List.length_range]; unfold maxLen; omega
            have HSMY : Hid (Small (mulT q t y)) := (tri_mul hq htt y).small
            have HNY : Hid ((S.2 ++ (List.range y).map (mulT q t)) ++ [mulT q t y] = S.2 ++ (List.range (y + 1)).map (mulT q t)) := by show _ = _; rw [List.range_succ, List.map_append, List.append_assoc]; rfl
            clear htm htt
            go_wp2_with (first
              | (go_at_call 76; refine HTM.out.mono ?_; rintro e w5 ⟨rfl, hb5⟩; have HP5 := Lib.hid (HPQ.out.below hb5); have HB5 := Lib.hid hb5; clear hb5)
              | (at_mapUpdate; refine wpList_put_tri _ rfl (.tmp 37) (.tmp 41) (.const (.bool true)) (.inl rfl) w.heap.size (S.2 ++ (List.range y).map (mulT q t)) (mulT q t y) rfl HP5.out HSL.out HSMY.out (by exact HXV.out) rfl ?_; intro w6 hP6 hg6; have HP6 := Lib.hid hP6; have HG6 := Lib.hid hg6; clear hP6 hg6))
            have s5 := HB5.out.size
            have s6 := HG6.out.size
            have HP7 : Hid (PT w6 w.heap.size (S.2 ++ (List.range (y + 1)).map (mulT q t))) := by show PT _ _ _; rw [← HNY.out]; exact HP6.out
            have HX7 : Hid (w6.heap[wm.heap.size]? = some (.cells #[.int .i64 (el t 0), .int .i64 (el t 1), .int .i64 (el t 2)] 53 (0, 0))) := (HG6.out.block wm.heap.size (by omega) (by simp; omega)).trans ((HB5.out.block wm.heap.size (by omega)).trans HXQ.out)
            have HO7 : Hid (PO w6 w1.heap.size (.slice qa ql qc) (S.1 ++ [t])) := (HOQ.out.below HB5.out).kept HG6.out (by
              cases hk : (Value.slice qa ql qc).ownBlock with
              | none => exact .inl rfl
              | some k => exact .inr fun e => by (cases e; have := HQV.out _ hk; omega))
            have HR7 : Hid (Rng w1 w6 w.heap.size (w.heap.size + 1)) := (HRQ.out.below HB5.out).grown HG6.out (Nat.le_refl _) (Nat.lt_succ_self _)
            have hE7 : Below w.heap.size w w6 := (hEQ.trans (HB5.out.mono hEQ.size)).grown HG6.out (by have := hEQ.size; omega) (fun g e => by cases e; exact Nat.le_refl _)
            clear HP6 HG6 HP5 HB5 HPQ HXQ HOQ HRQ hEQ HTM x0 x1 x2
            go_wp2_with fail
            go_roundw
            case rel => exact ⟨y + 1, by omega, by go_num, HP7, HX7, HO7, HR7, hE7, by omega⟩
            case measure => simp [intOf]; omega
          · obtain rfl : y = q := by omega
            go_wp2_with fail
            go_roundw
            case rel => exact ⟨i + 1, by omega, by go_num, by rw [HN2.out]; exact HOQ, by rw [HN2.out]; exact HPQ, HRQ, hEQ, by omega⟩
            case measure => simp [intOf]; omega
    · obtain rfl : i = T.length := by omega
      have HO2 : Hid (PO wr w.heap.size (.slice pa pl pc) (runP q T).1) := by
        have := HO.out
        rw [HALL.out] at this
        exact ⟨this.1, this.2.imp id fun ⟨g, cap, cur, e, hB, r⟩ => ⟨g, cap, cur, e, Nat.le_trans E1.size hB, r⟩⟩
      go_wp2_with fail
      go_ret2
      exact ⟨⟨_, rfl, HO2.out⟩, hE⟩
end Go.Proofs.YtbfdhnecadgfdaaDoor
