/-
  DiameterOfDigraph: both programs.
-/
import Derived.Test.YtbncfhmpkoaffaaDoorRc8
import Derived.Test.YtbncfhmpkoaffaaDoorCr8
import Derived.Test.YtbncfhmpkoaffaaDoorLv1
import Derived.Laws.Small
namespace Go.Proofs.YtbncfhmpkoaffaaDoor
set_option maxRecDepth 100000
set_option maxRecDepth 100000
open Go.RowKit

theorem levelRows_dig (n : Int) (b off cap : Nat) (zs : List Int) (v : Nat) (w : World) (hb : b < w.heap.size) (hc : Cells w b off zs) (hT : Tab w) (hg : DgOk n zs) (hv : v < zs.length) :
    Calls Tryd.prog 58 #[.agg #[.int .i64 n, .slice (some ⟨b, off, none⟩) zs.length cap], .int .i64 v, .int .i64 0] w fun e w' => ∃ (ls : List Nat) (gl capl : Nat), e = .returned (.slice (some ⟨gl, 0, none⟩) ls.length capl) ∧ w'.ownsRow w.heap.size 2 1 (.slice (some ⟨gl, 0, none⟩) ls.length capl) ls.length (natsV ls) ∧ LvOk zs v 0 ls ∧ 0 < ls.length ∧ Below w.heap.size w w' := by
  have hsz := hg.size
  have hro : ∀ i, i < zs.length → 0 ≤ el zs i ∧ el zs i ≤ 2 ^ n.toNat - 1 := fun i _ => by
    have h0 := hg.ge i
    have h1 := hg.lt i
    have e1 : n.toNat = zs.length := by omega
    have e : ((2 : Int) ^ n.toNat) = ((2 ^ zs.length : Nat) : Int) := by rw [e1]; simp
    rw [e]
    unfold nat at h1
    omega
  have h := levelRows_rows n b off cap zs v 0 w hb hc hT (by have := hg.pos; omega) (by have := hg.le; omega) hsz hro hv
  rw [show ((0 : Nat) : Int) = 0 from rfl] at h
  refine h.mono ?_
  rintro e w' ⟨⟨u, ls, rfl, hown, hok⟩, hB⟩
  have hpos : 0 < ls.length := by
    refine Nat.pos_of_ne_zero fun h0 => ?_
    have := hok.last v
    rw [h0, lev_zero] at this
    simp at this
  obtain ⟨gl, capl, rfl, _, _⟩ := World.ownsRow.form hown hpos
  exact ⟨ls, gl, capl, rfl, hown, hok, hpos, hB⟩

theorem natsV_at {ls : List Nat} {k r : Nat} (h : ls[k]? = some r) : (natsV ls)[k]? = some (.int .i64 (r : Int)) := by unfold natsV; simp [h]

theorem orF_succ {ls : List Nat} {k r : Nat} (h : ls[k]? = some r) : orF ls (k + 1) = orF ls k ||| r := by
  rw [orF, List.getD_eq_getElem?_getD, h]; rfl

/-- The diameter and its code. -/
def dmN (n : Int) (zs : List Int) : Int := if isD n zs then (if aR zs zs.length then mE zs zs.length else 0) else 0
def dmC (n : Int) (zs : List Int) : Int := if isD n zs then (if aR zs zs.length then 0 else 5) else 1

set_option maxHeartbeats 1600000 in
theorem specDm_yes (n : Int) (b off cap : Nat) (zs : List Int) (w : World) (hb : b < w.heap.size) (hc : Cells w b off zs) (hl : zs.length ≤ 9223372036854775807) (hd : isD n zs = true) (r : Bool) (hr : aR zs zs.length = r) :
    Calls Tryd.prog 30 #[.agg #[.int .i64 n, .slice (some ⟨b, off, none⟩) zs.length cap]] w fun e w' => e = .returned (.tuple #[.int .i64 (if r then mE zs zs.length else 0), .int .i64 (if r then 0 else 5)]) ∧ Below w.heap.size w w' := by
  have D0 : Below w.heap.size w (w.alloc (.cells #[.int .i64 n, .slice (some ⟨b, off, none⟩) zs.length cap] 29)) := (Below.refl _ _).alloc (Nat.le_refl _) _
  have his := l08Is_some n b off cap zs _ (Nat.lt_of_lt_of_le hb D0.size) (hc.below D0 hb) hl
  rw [hd] at his
  have hg := dg_ok hd
  obtain rfl : n = (zs.length : Int) := hg.size.symm
  have HG0 := Lib.hid (GBox.newD (n := (zs.length : Int)) (cap := cap) hb hc)
  have HDG := Lib.hid hg
  have HD := Lib.hid D0
  have hdg : ∀ W1, GBox W1 w.heap.size zs.length b off cap zs → Calls Tryd.prog 57 #[.agg #[.int .i64 zs.length, .slice (some ⟨b, off, none⟩) zs.length cap]] W1 fun e w' => e = .returned (.int .i64 (if r then mE zs zs.length else -1)) ∧ Below W1.heap.size W1 w' := fun W1 G => by
    have := l08Reach_some b off cap zs W1 G.lb G.cells HDG.out
    unfold rcD at this
    rw [hr] at this
    exact this
  have HDE := Lib.hid hdg
  have hme := (mE_ok hg.le (Nat.le_refl _)).1
  generalize mE zs zs.length = K at HDE hme ⊢
  clear hc hd D0 hr hdg hg
  cases r with
  | true =>
    rw [if_pos rfl, if_pos rfl]
    have hk0 : ¬ (K : Int) < 0 := by omega
    go_enter Tryd.func30, Tryd.ntmps30
    go_wp2_with (first
      | (go_at_call 42; refine his.mono ?_; rintro e w1 ⟨rfl, hb1⟩; have HB1 := Lib.hid hb1; have G1 := HG0.out.below (hb1.mono (by simp)); have b0 := G1.b0; have b1 := G1.b1; have HG1 := Lib.hid G1; clear hb1)
      | (go_at_call 57; refine (HDE.out _ HG1.out).mono ?_; rintro e w2 ⟨rfl, hb2⟩; have HB2 := Lib.hid (HD.out.trans ((HB1.out.trans (hb2.mono HB1.out.size)).mono HD.out.size)); clear hb2))
    go_ret2
    exact ⟨rfl, HB2.out⟩
  | false =>
    rw [if_neg (by simp), if_neg (by simp)]
    go_enter Tryd.func30, Tryd.ntmps30
    go_wp2_with (first
      | (go_at_call 42; refine his.mono ?_; rintro e w1 ⟨rfl, hb1⟩; have HB1 := Lib.hid hb1; have G1 := HG0.out.below (hb1.mono (by simp)); have b0 := G1.b0; have b1 := G1.b1; have HG1 := Lib.hid G1; clear hb1)
      | (go_at_call 57; refine (HDE.out _ HG1.out).mono ?_; rintro e w2 ⟨rfl, hb2⟩; have HB2 := Lib.hid (HD.out.trans ((HB1.out.trans (hb2.mono HB1.out.size)).mono HD.out.size)); clear hb2))
    go_ret2
    exact ⟨rfl, HB2.out⟩

set_option maxHeartbeats 1600000 in
theorem specDm_no (n : Int) (v : Value) (zs : List Int) (w : World) (hs : Sl w v zs) (hl : zs.length ≤ 9223372036854775807) (hd : isD n zs = false) :
    Calls Tryd.prog 30 #[.agg #[.int .i64 n, v]] w fun e w' => e = .returned (.tuple #[.int .i64 0, .int .i64 1]) ∧ Below w.heap.size w w' := by
  have D0 : Below w.heap.size w (w.alloc (.cells #[.int .i64 n, v] 29)) := (Below.refl _ _).alloc (Nat.le_refl _) _
  have his := l08Is_any n v zs _ (hs.below D0) hl
  rw [hd] at his
  have HD := Lib.hid D0
  clear hs hd D0
  go_enter Tryd.func30, Tryd.ntmps30
  go_wp2_with (go_at_call 42; refine his.mono ?_; rintro e w1 ⟨rfl, hb1⟩; have HB1 := Lib.hid (HD.out.trans (hb1.mono HD.out.size)); clear hb1)
  go_ret2
  exact ⟨rfl, HB1.out⟩

theorem specDm_any (n : Int) (v : Value) (zs : List Int) (w : World) (hs : Sl w v zs) (hl : zs.length ≤ 9223372036854775807) :
    Calls Tryd.prog 30 #[.agg #[.int .i64 n, v]] w fun e w' => e = .returned (.tuple #[.int .i64 (dmN n zs), .int .i64 (dmC n zs)]) ∧ Below w.heap.size w w' := by
  unfold dmN dmC
  cases hd : isD n zs with
  | false => exact specDm_no n v zs w hs hl hd
  | true =>
    rcases hs with ⟨a, c, rfl, rfl⟩ | ⟨b, off, cap, rfl, hb, hc⟩
    · rw [isD_nil] at hd; exact absurd hd (by simp)
    · exact specDm_yes n b off cap zs w hb hc hl hd _ rfl

set_option maxHeartbeats 1600000 in
theorem implDm_no (n : Int) (v : Value) (zs : List Int) (w : World) (hs : Sl w v zs) (hl : zs.length ≤ 9223372036854775807) (hT : TabE w) (hd : isD n zs = false) :
    Calls Tryd.prog 31 #[.agg #[.int .i64 n, v]] w fun e w' => e = .returned (.tuple #[.int .i64 0, .int .i64 1]) ∧ Below w.heap.size w w' := by
  have D0 : Below w.heap.size w (w.alloc (.cells #[.int .i64 n, v] 29)) := (Below.refl _ _).alloc (Nat.le_refl _) _
  have his := chkD_any n v zs _ (hs.below D0) hl (hT.2.belowAll D0)
  unfold dC at his
  rw [hd, if_neg (by simp)] at his
  have HD := Lib.hid D0
  clear hs hd D0 hT
  go_enter Tryd.func31, Tryd.ntmps31
  go_wp2_with (go_at_call 45; refine his.mono ?_; rintro e w1 ⟨rfl, hb1⟩; have HB1 := Lib.hid (HD.out.trans (hb1.mono HD.out.size)); clear hb1)
  go_ret2
  exact ⟨rfl, HB1.out⟩

set_option maxHeartbeats 3200000 in
theorem implDm_yes (n : Int) (b off cap : Nat) (zs : List Int) (w : World) (hb : b < w.heap.size) (hc : Cells w b off zs) (hl : zs.length ≤ 9223372036854775807) (hT : TabE w) (hd : isD n zs = true) :
    Calls Tryd.prog 31 #[.agg #[.int .i64 n, .slice (some ⟨b, off, none⟩) zs.length cap]] w fun e w' => e = .returned (.tuple #[.int .i64 (if aR zs zs.length then mE zs zs.length else 0), .int .i64 (if aR zs zs.length then 0 else 5)]) ∧ Below w.heap.size w w' := by
  have D0 : Below w.heap.size w (w.alloc (.cells #[.int .i64 n, .slice (some ⟨b, off, none⟩) zs.length cap] 29)) := (Below.refl _ _).alloc (Nat.le_refl _) _
  have his := chkD_any n _ zs _ (.inr ⟨b, off, cap, rfl, Nat.lt_of_lt_of_le hb D0.size, hc.below D0 hb⟩) hl (hT.2.belowAll D0)
  unfold dC at his
  rw [hd, if_pos rfl] at his
  have hg := dg_ok hd
  obtain rfl : n = (zs.length : Int) := hg.size.symm
  have HG0 := Lib.hid (GBox.newD (n := (zs.length : Int)) (cap := cap) hb hc)
  have HD := Lib.hid D0
  have HT := Lib.hid (hT.1.belowAll D0)
  have HG := Lib.hid hg
  have hp0 : 0 < zs.length := hg.pos
  have hl62 : zs.length ≤ 62 := hg.le
  obtain ⟨R, hR⟩ : ∃ R, R = aR zs zs.length := ⟨_, rfl⟩
  rw [← hR]
  have HR := Lib.hid hR
  obtain ⟨dV, hdV⟩ : ∃ x : Int, x = if R then mE zs zs.length else 0 := ⟨_, rfl⟩
  obtain ⟨cV, hcV⟩ : ∃ x : Int, x = if R then 0 else 5 := ⟨_, rfl⟩
  rw [← hdV, ← hcV]
  have HDV : Hid ((R = true → dV = mE zs zs.length ∧ cV = 0) ∧ (R = false → dV = 0 ∧ cV = 5)) := ⟨fun h => by rw [hdV, hcV, h]; exact ⟨rfl, rfl⟩, fun h => by rw [hdV, hcV, h]; exact ⟨rfl, rfl⟩⟩
  clear hdV hcV hc D0 hg hR hT hd
  go_enter Tryd.func31, Tryd.ntmps31
  go_wp2_with (go_at_call 45; refine his.mono ?_; rintro e w1 ⟨rfl, hb1⟩; have HB1 := Lib.hid hb1; have G1 := HG0.out.below (hb1.mono (by simp)); have b0 := G1.b0; have b1 := G1.b1; have HG1 := Lib.hid G1; have T1 := Lib.hid (HT.out.belowAll hb1); have s1 := G1.lt; have D1 := Lib.hid (HD.out.trans (hb1.mono HD.out.size)); clear hb1)
  clear his b0 b1 HB1 HT HG0 HD
  go_loopw [5, 6, 7, 8, 9, 17] (fun m _ _ _ _ t wr => ∃ v : Nat, v ≤ zs.length ∧ t = .int .i64 v ∧ m = .int .i64 (mE zs v) ∧ Hid (aR zs v = true) ∧ Below w1.heap.size w1 wr) (fun _ _ _ _ _ t _ => zs.length - (intOf t).toNat)
  case atStart => exact ⟨0, Nat.zero_le _, rfl, rfl, rfl, Below.refl _ _⟩
  case round =>
    obtain ⟨v, hv, rfl, rfl, HA, hB⟩ := hrel
    have hBw : w1.heap.size ≤ wr.heap.size := hB.size
    by_cases hlt : (v : Int) < zs.length
    · have hvl : v < zs.length := by omega
      have hv0 : (0 : Int) ≤ v := by omega
      have G2 := HG1.out.below (hB.mono (by omega))
      have hcall := levelRows_dig zs.length b off cap zs v wr G2.lb G2.cells (T1.out.below hB T1.out.lt) HG.out hvl
      have b0 := G2.b0
      have b1 := G2.b1
      obtain ⟨me, hme⟩ : ∃ me, me = mE zs v := ⟨_, rfl⟩
      have hmb := mE_ok hl62 hv
      rw [← hme] at hmb ⊢
      have HME := Lib.hid hme
      have HB := Lib.hid hB
      clear hme hB
      go_wp2_with (go_at_call 58; refine hcall.mono ?_; rintro e w2 ⟨ls, gl, capl, rfl, hown, hok, hpos, hb2⟩; have HB2 := Lib.hid (HB.out.trans (hb2.mono HB.out.size)); have HO := Lib.hid hown; have HOK := Lib.hid hok; have hlen := hok.len; have G3 := HG1.out.below (HB2.out.mono (by omega)); have c0 := G3.b0; have c1 := G3.b1; clear hown hok hb2 b0 b1)
      clear hcall G2 G3 c0 c1
      go_loop [5, 7, 8, 9, 24] (fun m t _ _ i => ∃ k : Nat, k ≤ ls.length ∧ i = .int .i64 k ∧ t = .int .i64 (orF ls k : Nat) ∧ m = .int .i64 (max me ((k : Int) - 1))) (fun _ _ _ _ i => ls.length - (intOf i).toNat)
      case atStart => exact ⟨0, Nat.zero_le _, rfl, rfl, congrArg _ (by omega)⟩
      case round =>
        obtain ⟨k, hk, rfl, rfl, rfl⟩ := hrel
        by_cases hlk : (k : Int) < ls.length
        · have hkl : k < ls.length := by omega
          have hk0 : (0 : Int) ≤ k := by omega
          obtain ⟨r, hr⟩ : ∃ r, ls[k]? = some r := ⟨_, List.getElem?_eq_getElem hkl⟩
          have hcl : w2.cell? ⟨gl, k, none⟩ = some (.int .i64 (r : Int)) := (World.ownsRow.cellAt HO.out k (by omega)).trans (natsV_at hr)
          have h62 : 2 ^ zs.length ≤ 2 ^ 62 := Nat.pow_le_pow_right (by decide) hl62
          have hr62 := (HOK.out.bit k r hr).1
          have ho62 := orF_lt (fun k r hk => (HOK.out.bit k r hk).1) k hk
          obtain ⟨O, hO⟩ : ∃ O, O = orF ls k := ⟨_, rfl⟩
          rw [← hO] at ho62 ⊢
          have hor : bits .or .i64 (O : Int) (r : Int) = ((O ||| r : Nat) : Int) := or_i64 _ _ (by omega) (by omega)
          have HOR : Hid (O ||| r = orF ls (k + 1)) := by show _ = _; rw [hO, orF_succ hr]
          obtain ⟨dd, hdd⟩ : ∃ dd, dd = max me ((k : Int) - 1) := ⟨_, rfl⟩
          rw [← hdd]
          have HDD := Lib.hid hdd
          clear hO hdd h62 hr62 ho62 hr
          by_cases hm : dd < (k : Int)
          · have HM : Hid ((k : Int) = max me (((k + 1 : Nat) : Int) - 1)) := by show _ = _; have := HDD.out; omega
            go_wp2
            go_round
            case rel => exact ⟨k + 1, by omega, by go_num, by rw [HOR.out], by rw [← HM.out]⟩
            case measure => simp [intOf]; omega
          · have HM : Hid (dd = max me (((k + 1 : Nat) : Int) - 1)) := by show _ = _; have := HDD.out; omega
            go_wp2
            go_round
            case rel => exact ⟨k + 1, by omega, by go_num, by rw [HOR.out], by rw [← HM.out]⟩
            case measure => simp [intOf]; omega
        · obtain rfl : k = ls.length := by omega
          have G3 := HG1.out.below (HB2.out.mono (by omega))
          have c0 := G3.b0
          have c1 := G3.b1
          have hall := fun W => allV_any (zs.length : Int) W (by omega) (by omega)
          rw [Int.toNat_natCast] at hall
          have HAL := Lib.hid (HOK.out.all hvl)
          obtain ⟨O, hO⟩ : ∃ O, O = orF ls ls.length := ⟨_, rfl⟩
          rw [← hO] at HAL ⊢
          have hp : 0 < 2 ^ zs.length := Nat.two_pow_pos _
          have e2 : ((2 : Int) ^ zs.length) = ((2 ^ zs.length : Nat) : Int) := by simp
          obtain ⟨P, hP⟩ : ∃ P : Nat, P = 2 ^ zs.length := ⟨_, rfl⟩
          rw [e2] at hall
          rw [← hP] at hall hp HAL
          have hF : Hid (Below w.heap.size w w2) := D1.out.trans (HB2.out.mono D1.out.size)
          clear hO e2 hP G3
          by_cases ho : O = P - 1
          · have t1 : ((O : Int) != (P : Int) - 1) = false := by simp; omega
            have HA2 := Lib.hid (HAL.out.1 ho)
            have HAA : Hid (aR zs (v + 1) = true) := by show _ = _; rw [aR_succ, HA.out, HA2.out]; rfl
            have HM2 : Hid (max me ((ls.length : Int) - 1) = mE zs (v + 1)) := by show _ = _; rw [HOK.out.far hvl HA2.out hpos, HME.out]; rfl
            clear ho
            go_wp2_with (go_at_call 59; refine (hall _).mono ?_; rintro e w' ⟨rfl, rfl⟩)
            go_roundw
            case rel => exact ⟨v + 1, by omega, by go_num, by rw [HM2.out], HAA, HB2.out⟩
            case measure => simp [intOf]; omega
          · have t1 : ((O : Int) != (P : Int) - 1) = true := by simp; omega
            have HA2 : Hid (alR zs v = false) := by
              show _ = _
              cases e : alR zs v with
              | false => rfl
              | true => exact absurd (HAL.out.2 e) ho
            have HR2 : Hid (R = false) := by show _ = _; rw [HR.out]; exact aR_no hvl HA2.out
            clear ho
            go_wp2_with (go_at_call 59; refine (hall _).mono ?_; rintro e w' ⟨rfl, rfl⟩)
            go_ret2
            exact ⟨by rw [(HDV.out.2 HR2.out).1, (HDV.out.2 HR2.out).2]; rfl, hF.out⟩
    · obtain rfl : v = zs.length := by omega
      have HR2 : Hid (R = true) := by show _ = _; rw [HR.out]; exact HA.out
      have hF : Hid (Below w.heap.size w wr) := D1.out.trans (hB.mono D1.out.size)
      go_wp2
      go_ret2
      exact ⟨by rw [(HDV.out.1 HR2.out).1, (HDV.out.1 HR2.out).2]; rfl, hF.out⟩

theorem implDm_any (n : Int) (v : Value) (zs : List Int) (w : World) (hs : Sl w v zs) (hl : zs.length ≤ 9223372036854775807) (hT : TabE w) :
    Calls Tryd.prog 31 #[.agg #[.int .i64 n, v]] w fun e w' => e = .returned (.tuple #[.int .i64 (dmN n zs), .int .i64 (dmC n zs)]) ∧ Below w.heap.size w w' := by
  unfold dmN dmC
  cases hd : isD n zs with
  | false => exact implDm_no n v zs w hs hl hT hd
  | true =>
    rcases hs with ⟨a, c, rfl, rfl⟩ | ⟨b, off, cap, rfl, hb, hc⟩
    · rw [isD_nil] at hd; exact absurd hd (by simp)
    · exact implDm_yes n b off cap zs w hb hc hl hT hd
end Go.Proofs.YtbncfhmpkoaffaaDoor
