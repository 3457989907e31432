/-
  impl.tuplesOf.
-/
import Derived.Test.YtneomnkpfkomiaaTp
namespace Go.Proofs.Ytneomnkpfkomiaa
open Go.RowKit

/-- A list with each of the numbers below x behind it. -/
def extL (x : Nat) (t : List Int) : List (List Int) := (List.range x).map fun y : Nat => t ++ [(y : Int)]
/-- The lists of k numbers below m, in order. -/
def tups (m : Nat) : Nat → List (List Int)
  | 0 => [[]]
  | k + 1 => (tups m k).flatMap (extL m)
def preT (m : Nat) (T : List (List Int)) (a x : Nat) : List (List Int) := (T.take a).flatMap (extL m) ++ extL x (elS T a)
theorem preT_zero (m : Nat) (T : List (List Int)) : preT m T 0 0 = [] := by simp [preT, extL]
theorem preT_x (m : Nat) (T : List (List Int)) (a x : Nat) : preT m T a (x + 1) = preT m T a x ++ [elS T a ++ [(x : Int)]] := by
  unfold preT extL; rw [List.range_succ, List.map_append, ← List.append_assoc]; rfl
theorem preT_a (m : Nat) (T : List (List Int)) (a : Nat) (h : a < T.length) : preT m T a m = preT m T (a + 1) 0 := by
  unfold preT
  have e : T.take (a + 1) = T.take a ++ [elS T a] := by
    rw [List.take_succ_eq_append_getElem h]
    simp [elS, h]
  rw [e, List.flatMap_append]
  simp [extL]
theorem preT_end (m : Nat) (T : List (List Int)) : preT m T T.length 0 = T.flatMap (extL m) := by simp [preT, extL]
theorem tups_lengths (m : Nat) : ∀ k, ∀ t, t ∈ tups m k → t.length = k
  | 0, t, h => by simp [tups] at h; subst h; rfl
  | k + 1, t, h => by
    simp only [tups, List.mem_flatMap, extL, List.mem_map, List.mem_range] at h
    obtain ⟨s, hs, y, _, rfl⟩ := h
    simp [tups_lengths m k s hs]
theorem tups_el (m k i : Nat) (h : i < (tups m k).length) : (elS (tups m k) i).length = k := by
  apply tups_lengths m k
  simp [elS, h]
theorem flat_len (m : Nat) : ∀ T : List (List Int), (T.flatMap (extL m)).length = T.length * m
  | [] => by simp
  | t :: r => by simp [flat_len m r, extL, Nat.succ_mul]; omega
theorem tups_length (m : Nat) : ∀ k, (tups m k).length = m ^ k
  | 0 => rfl
  | k + 1 => by rw [tups, flat_len, tups_length m k, Nat.pow_succ]
theorem tups_bd (m k : Nat) (hm : m ≤ 7) (hk : k ≤ 4) : (tups m k).length ≤ 2401 := by
  rw [tups_length]
  exact Nat.le_trans (Nat.pow_le_pow_left hm k) (Nat.le_trans (Nat.pow_le_pow_right (by decide) hk) (by decide))
theorem preT_length (m : Nat) (T : List (List Int)) (a x : Nat) (ha : a ≤ T.length) : (preT m T a x).length = a * m + x := by
  unfold preT
  rw [List.length_append, flat_len, List.length_take]
  simp [extL, Nat.min_eq_left ha]

theorem row_slice {w : World} {B n size : Nat} {e : TypeId} {v : Value} {xs : List Value} (h : w.ownsRow B e size v n xs) : ∃ p l c, v = .slice p l c := by
  rcases h.2 with ⟨rfl, _⟩ | ⟨g, cap, cur, rfl, _⟩
  · exact ⟨_, _, _, rfl⟩
  · exact ⟨_, _, _, rfl⟩

/-- What tuplesOf leaves. -/
def TRet (B : Nat) (Ts : List (List Int)) (e : Ending) (w' : World) : Prop := ∃ v, e = .returned v ∧ TS w' B v Ts

set_option maxHeartbeats 3200000 in
set_option maxRecDepth 100000 in
theorem tuples_any (k m : Nat) (w : World) (hk : k ≤ 4) (hm0 : 1 ≤ m) (hm : m ≤ 7) :
    Calls Try.prog 84 #[.int .i64 k, .int .i64 m] w fun e w' => TRet w.heap.size (tups m k) e w' ∧ Below w.heap.size w w' := by
  obtain ⟨i0, hi, hz0, hz1, hz2⟩ := info_parts mk_info
  have HI := Lib.hid hi; have HI0 := Lib.hid hz0; have HI1 := Lib.hid hz1; have HI2 := Lib.hid hz2
  clear hi hz0 hz1 hz2
  obtain ⟨j0, hi, hz0, hz1, hz2⟩ := info_parts mkS_info
  have HJ := Lib.hid hi; have HJ0 := Lib.hid hz0; have HJ1 := Lib.hid hz1; have HJ2 := Lib.hid hz2
  clear hi hz0 hz1 hz2
  have D0 : Below w.heap.size w (w.alloc (.cells #[.slice none 0 0] 22)) := (Below.refl _ _).alloc (Nat.le_refl _) _
  have HT0 : Hid (TS (w.alloc (.cells #[.slice none 0 0] 22)) w.heap.size (.slice (some ⟨w.heap.size, 0, none⟩) 1 1) (tups m 0)) :=
    ⟨[.slice none 0 0], ⟨rfl, .inr ⟨w.heap.size, 1, #[.slice none 0 0], rfl, Nat.le_refl _, World.alloc_heap_new w _, Nat.le_refl _, by unfold maxLen; omega, rfl, rfl⟩⟩, rfl, fun i hi => by
      have : i = 0 := by simp [tups] at hi; omega
      subst this
      exact ⟨_, rfl, Own.nil _ _, .inl rfl, fun _ => rfl⟩⟩
  go_enter Try.func84, Try.ntmps84
  go_wp2_with fail
  go_loopw [5, 12] (fun t c wr => ∃ j : Nat, j ≤ k ∧ c = .int .i64 j ∧ Hid (TS wr w.heap.size t (tups m j)) ∧ Below w.heap.size w wr) (fun _ c _ => k - (intOf c).toNat)
  case atStart => exact ⟨0, Nat.zero_le _, rfl, HT0, D0⟩
  case round =>
    obtain ⟨j, hj, rfl, HT, hE⟩ := hrel
    have hpos : 0 < (tups m j).length := by rw [tups_length]; exact Nat.pow_pos hm0
    rcases HT.out.form with ⟨_, h0⟩ | ⟨g, cap, rfl, hg1, hg2⟩
    · rw [h0] at hpos; simp at hpos
    by_cases hlt : (j : Int) < k
    · have hjk : j < k := by omega
      obtain ⟨T, hT⟩ : ∃ T, T = tups m j := ⟨_, rfl⟩
      have hTlen : T.length ≤ 2401 := by rw [hT]; exact tups_bd m j hm (by omega)
      have HTel : Hid (∀ i, i < T.length → (elS T i).length ≤ 62) := fun i hi => by rw [hT, tups_el m j i (by rw [← hT]; exact hi)]; omega
      have HNEXT : Hid (tups m (j + 1) = T.flatMap (extL m)) := by rw [hT]; rfl
      rw [← hT] at HT
      rw [← hT]
      clear hT hpos
      obtain ⟨wo, rfl⟩ : ∃ wo : World, wo = wr := ⟨_, rfl⟩
      go_wp2_with fail
      go_loopw [6, 16] (fun l c wr => ∃ a : Nat, a ≤ T.length ∧ c = .int .i64 a ∧ Hid (TS wr wo.heap.size l (preT m T a 0)) ∧ Below wo.heap.size wo wr) (fun _ c _ => T.length - (intOf c).toNat)
      case atStart => exact ⟨0, Nat.zero_le _, rfl, by show TS _ _ _ _; rw [preT_zero]; exact TS.nil _ _, Below.refl _ _⟩
      case round =>
        obtain ⟨a, ha, rfl, HL, hE2⟩ := hrel
        by_cases hla : (a : Int) < T.length
        · have hal : a < T.length := by omega
          obtain ⟨u, hcu, hou, hnu⟩ := HT.out.at hal
          have hcell : wr.cell? ⟨g, a, none⟩ = some u := (hE2.cell (p := ⟨g, a, none⟩) hg2).trans hcu
          have ha0 : (0 : Int) ≤ a := by omega
          have HOU := Lib.hid hou; have HNU := Lib.hid hnu
          obtain ⟨ua, ul, uc, rfl⟩ : ∃ x l c, u = .slice x l c := by
            rcases hou.form with ⟨rfl, _⟩ | ⟨b, cap, rfl, _⟩
            · exact ⟨_, _, _, rfl⟩
            · exact ⟨_, _, _, rfl⟩
          clear hou hnu hcu
          obtain ⟨wm, rfl⟩ : ∃ wm : World, wm = wr := ⟨_, rfl⟩
          go_wp2_with fail
          go_loopw [6, 21] (fun l c wr => ∃ x : Nat, x ≤ m ∧ c = .int .i64 x ∧ Hid (TS wr wo.heap.size l (preT m T a x)) ∧ Below wo.heap.size wo wr) (fun _ c _ => m - (intOf c).toNat)
          case atStart => exact ⟨0, Nat.zero_le _, rfl, HL, hE2⟩
          case round =>
            obtain ⟨x, hx, rfl, HL3, hE3⟩ := hrel
            by_cases hlx : (x : Int) < m
            · have hxm : x < m := by omega
              have hx0 : (0 : Int) ≤ x := by omega
              obtain ⟨cs, hTc⟩ := HL3.out
              have HTC := Lib.hid hTc
              have hform := hTc.form
              obtain ⟨la, ll, lc, hleq⟩ : ∃ p l c, u6 = .slice p l c := by
                rcases hform with ⟨h, _⟩ | ⟨b, cap, h, _⟩
                · exact ⟨_, _, _, h⟩
                · exact ⟨_, _, _, h⟩
              subst hleq
              have hlown : ∀ q, (Value.slice la ll lc).ownBlock = some q → q < wr.heap.size := fun q e => (World.ownsRow.lt hTc.1 q e).2
              have HLO := Lib.hid hlown
              have hlenP : (preT m T a x).length ≤ 20000 := by
                rw [preT_length m T a x ha]
                have : a * m ≤ 2401 * 7 := Nat.mul_le_mul (by omega) hm
                omega
              have hlt62 := HTel.out a hal
              have hOUr : Own wr w.heap.size (Value.slice ua ul uc) (elS T a) := (HOU.out.below hE3)
              have hcl := clone_any w.heap.size (.slice ua ul uc) (elS T a) wr hOUr HNU.out hlt62
              have HCL := Lib.hid hcl
              have sE := hE3.size
              clear hTc hform hlown hOUr hcl HL3
              go_wp2_with fail
              refine HCL.out.mono ?_
              rintro e w1 ⟨⟨uk, rfl, hOk⟩, hb1⟩
              obtain ⟨ka, kl, kc, rfl⟩ : ∃ p l c, uk = .slice p l c := by
                rcases hOk.form with ⟨rfl, _⟩ | ⟨b, cap, rfl, _⟩
                · exact ⟨_, _, _, rfl⟩
                · exact ⟨_, _, _, rfl⟩
              have HOK := Lib.hid (hOk.below ((Below.refl _ w1).alloc (Nat.le_refl _) (.cells #[.int .i64 x] 2)))
              have HKG := Lib.hid hOk.ge
              have s1 := hb1.size
              have HB1 : Hid (Below wr.heap.size wr (w1.alloc (.cells #[.int .i64 x] 2))) := hb1.alloc s1 _
              clear hOk hb1 HCL
              go_wp2_with (first
                | (at_builtin; refine wpList_append_own _ rfl (.tmp 26) (.tmp 28) 22 rfl wr.heap.size 2 i0 (.int .i64 0) 1 8 Try.underlying22 HI.out HI0.out HI1.out HI2.out rfl (by decide) _ _ _ rfl HOK.out ⟨w1.heap.size, 0, none⟩ 1 1 [.int .i64 x] rfl rfl (cell_one_new _ _ _) (ints_oneCell .i64 [x]) (by unfold maxLen; omega) (by omega) (by simp; omega) ?_; intro u2 w2 hown2 hgr2 _; obtain ⟨qa, ql, qc, rfl⟩ := row_slice hown2; have HO2 := Lib.hid hown2; have HB2 : Hid (Below wr.heap.size wr w2) := HB1.out.grown hgr2 HB1.out.size (fun q e => HKG.out q e); have HT2 := Lib.hid (HTC.out.below (HB2.out.alloc HB2.out.size (.cells #[.slice qa ql qc] 22))); have s2 := HB2.out.size; clear hown2 hgr2)
                | (at_builtin; refine wpList_append_own_at _ rfl (.tmp 24) (.tmp 30) 35 rfl wo.heap.size 22 j0 (.slice none 0 0) 1 24 Try.underlying35 HJ.out HJ0.out HJ1.out HJ2.out rfl (by decide) _ _ _ rfl HT2.out.1 ⟨w2.heap.size, 0, none⟩ 1 1 [.slice qa ql qc] rfl rfl (cell_one_new _ _ _) (by simp [Value.oneCell']) (by unfold maxLen; omega) (by omega) (by simp; omega) ?_; intro l3 w3 hown3 hgr3 _ hloc; have HO3 := Lib.hid hown3; have HG3 := Lib.hid hgr3; have HL3 := Lib.hid hloc; clear hown3 hgr3 hloc))
              have HS3 : Hid (TS w3 wo.heap.size l3 (preT m T a (x + 1))) := by
                show TS _ _ _ _
                rw [preT_x]
                have hO2 : Own w2 wr.heap.size (.slice qa ql qc) (elS T a ++ [(x : Int)]) := by
                  show World.ownsRow _ _ _ _ _ _ _
                  rw [List.length_append, List.map_append]
                  exact HO2.out
                have hO2' := (hO2.base sE).below ((Below.refl _ w2).alloc (Nat.le_refl _) (.cells #[.slice qa ql qc] 22))
                refine HT2.out.snoc hO2' ?_ (fun e => by simp at e) HO3.out HG3.out HL3.out
                cases hq : (Value.slice qa ql qc).ownBlock with
                | none => exact .inl rfl
                | some q =>
                  refine .inr fun e => ?_
                  have := hO2.ge q hq
                  have := HLO.out q e.symm
                  omega
              have hE5 : Below wo.heap.size wo w3 := (hE3.trans ((HB2.out.mono sE).alloc (by omega) (.cells #[.slice qa ql qc] 22))).grown HG3.out (by simp; omega) (fun q e => (World.ownsRow.lt HTC.out.1 q e).1)
              clear HT2 HO2 HO3 HG3 HL3 HB1 HB2 HTC HLO HKG HOK
              go_wp2_with fail
              go_roundw
              case rel => exact ⟨x + 1, by omega, by go_num, HS3, hE5⟩
              case measure => simp [intOf]; omega
            · obtain rfl : x = m := by omega
              have HL4 := Lib.hid HL3.out
              rw [preT_a x T a hal] at HL4
              go_wp2_with fail
              go_roundw
              case rel => exact ⟨a + 1, by omega, by go_num, HL4, hE3⟩
              case measure => simp [intOf]; omega
        · obtain rfl : a = T.length := by omega
          have HL4 : Hid (TS wr w.heap.size u6 (tups m (j + 1))) := by
            show TS _ _ _ _
            rw [HNEXT.out, ← preT_end]
            exact HL.out.base hE.size
          have hE4 : Below w.heap.size w wr := hE.trans (hE2.mono hE.size)
          go_wp2_with fail
          go_roundw
          case rel => exact ⟨j + 1, by omega, by go_num, HL4, hE4⟩
          case measure => simp [intOf]; omega
    · obtain rfl : j = k := by omega
      go_wp2_with fail
      go_ret
      exact ⟨⟨_, rfl, HT.out⟩, hE⟩
end Go.Proofs.Ytneomnkpfkomiaa
