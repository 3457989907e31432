/-
  impl.partsIn: the iterator.
-/
import Derived.Test.YtbacocldjcenjaaDoorPw
import Derived.Sort.CutIn
import Derived.Shelf.RegionOpen
namespace Go.Proofs.YtbacocldjcenjaaDoor
set_option maxRecDepth 100000
open Go.RowKit Go.Shelf

attribute [local go_sem] Oper.semAt_some

/-- What a round of a loop over the parts keeps: what lies below n₀, and the box of the graph. -/
def KpG (n₀ a : Nat) (W W' : World) : Prop := Below n₀ W W' ∧ W'.heap[a]? = W.heap[a]?
theorem KpG.tr {n₀ a : Nat} {A B C : World} (h : KpG n₀ a A B) (k : KpG n₀ a B C) : KpG n₀ a A C := ⟨h.1.trans k.1, k.2.trans h.2⟩
theorem KpG.put {n₀ a : Nat} {w : World} (h0 : n₀ ≤ w.heap.size) (ha : a < w.heap.size) (W : World) (l : Nat) (o o' : Obj) (hl : w.heap.size ≤ l) (h : W.heap[l]? = some o) (_ : o.isCells = false) (_ : o.isWalk = false) : KpG n₀ a W (W.putObj l o') := by
  have hlt := (Array.getElem?_eq_some_iff.1 h).1
  have hg := grownBy_putObj' W l o'
  exact ⟨(Below.refl n₀ W).grown hg (by omega) (fun k e => by cases e; omega), hg.block a (by omega) (fun e => by cases e; omega)⟩
theorem KpG.of_below {n₀ a B : Nat} {W W' : World} (h : Below B W W') (h0 : n₀ ≤ B) (ha : a < B) : KpG n₀ a W W' := ⟨h.mono h0, h.block a ha⟩

theorem take_finP {m k : Nat} (h : k < m) : (List.finRange m).take (k + 1) = (List.finRange m).take k ++ [⟨k, h⟩] := by
  rw [List.take_succ_eq_append_getElem (by simpa using h)]
  congr 1
  simp
theorem u64_same (x : Nat) (h : x < 2 ^ 62) : IntKind.u64.wrap (x : Int) = (x : Int) := by rw [IntKind.wrap_u64]; omega

theorem lo_lt {zs : List Int} {F : Nat → Nat × Nat} {k : Nat} (h62 : zs.length ≤ 62) (h0 : lfN zs.length F k ≠ 0) : lo (lfN zs.length F k) < zs.length := by
  have hlt := lfN_lt (zs := zs) (F := F) k
  exact bit_lt hlt (lo_bit h0 (Nat.lt_of_lt_of_le hlt (Nat.pow_le_pow_right (by decide) (by omega))))

set_option maxRecDepth 100000 in
set_option maxHeartbeats 4000000 in
theorem parts1_in (n : Nat) (hn : 1 ≤ n) (l B a n₀ b off cap : Nat) (zs : List Int) (F : Nat → Nat × Nat) (p : Nat) (hg : isG zs.length zs = true) (hF : ∀ v, v < zs.length → RD zs v (F v)) (hp : PN zs.length F p) (J Jx : List (Fin p) → World → Prop) (hA : AbidesFrom B J)
    (hY : ∀ pre (x : Fin p) W, J pre W → pre.length < p → YieldAt Fence.wide (n - 1) Tryd.prog l #[.int .i64 ((F (lo (lfN zs.length F x.1))).1 : Nat), .int .i64 ((F (lo (lfN zs.length F x.1))).2 : Nat)] W fun e W' =>
      (e = .returned (.bool true) ∧ J (pre ++ [x]) W' ∧ KpG n₀ a W W') ∨ (e = .returned (.bool false) ∧ Jx (pre ++ [x]) W'))
    (W : World) (ha : W.heap[a]? = some (.cells #[.int .i64 zs.length, .slice (some ⟨b, off, none⟩) zs.length cap] 38 (0, 0))) (hb : b < n₀) (hc : Cells W b off zs) (hT : Tab W) (hT0 : 0 < n₀) (hn0 : n₀ ≤ W.heap.size) (h0 : J [] W) :
    CallsIn Fence.wide n Tryd.prog 27 #[.func (.yield l) #[] #[], .pointer (some ⟨a, 0, none⟩)] W fun e W' => (∃ v, e = .returned v) ∧
      ((∃ ys, ys = List.finRange p ∧ J ys W') ∨ (∃ pre, pre <+: List.finRange p ∧ Jx pre W')) := by
  obtain ⟨g1, g2, g3, g4, -⟩ := isG_parts hg
  have h62 : zs.length ≤ 62 := by omega
  have hzn : ∀ i, i < zs.length → 0 ≤ el zs i ∧ (el zs i).toNat < 2 ^ zs.length := fun i hi => by
    have q0 := (isG_row_ok hg i hi).1
    have q1 := rowOk_le (rowsOk_at g4 hi)
    rw [← g3, Int.toNat_natCast] at q1
    have e : ((2 : Int) ^ zs.length) = ((2 ^ zs.length : Nat) : Int) := by simp
    rw [e] at q1
    omega
  have hp62 : 2 ^ zs.length ≤ 2 ^ 62 := Nat.pow_le_pow_right (by decide) h62
  have hav := fun W => allV_any zs.length W (by omega) (by omega)
  rw [Int.toNat_natCast] at hav
  have e0 : (2 : Int) ^ zs.length - 1 = ((lfN zs.length F 0 : Nat) : Int) := by
    have h1 : lfN zs.length F 0 = 2 ^ zs.length - 1 := rfl
    have h2 := Nat.two_pow_pos zs.length
    have e : ((2 : Int) ^ zs.length) = ((2 ^ zs.length : Nat) : Int) := by simp
    rw [h1, e]; omega
  rw [e0] at hav
  have HA := Lib.hid hA; have HY := Lib.hid hY; have HF := Lib.hid hF; have HPN := Lib.hid hp; have HG := Lib.hid hg; have HAV := Lib.hid hav
  have HZ : Hid (∀ i, i < zs.length → (el zs i).toNat < 2 ^ zs.length) := fun i hi => (hzn i hi).2
  obtain ⟨a0, a1, -, -⟩ := two_cells ha
  have HAA := Lib.hid ha; have HC := Lib.hid hc; have HT := Lib.hid hT
  have haW : a < W.heap.size := (Array.getElem?_eq_some_iff.1 ha).1
  clear hA hY ha hc hF hp hg hav hT e0 hzn g3 g4
  refine callsIn_of_wp Tryd.func27 rfl trivial ?_ rfl
  simp only [Tryd.ntmps27, List.size_toArray, List.length_cons, List.length_nil, Nat.reduceAdd, Nat.reduceSub, Array.replicate_succ, Array.replicate_zero, List.push_toArray, List.append_toArray, List.nil_append, List.cons_append]
  gi_wp2_with (refine ⟨trivial, ?_⟩; gi_at_call 28; refine (callsIn_wide.2 (HAV.out _)).mono ?_; rintro e w5 ⟨rfl, rfl⟩)
  gi_loopw [3, 4, 5] (fun v _ _ wr => ∃ k : Nat, k ≤ p ∧ v = .int .i64 (lfN zs.length F k : Nat) ∧ J ((List.finRange p).take k) wr ∧ KpG n₀ a W wr ∧ n₀ ≤ wr.heap.size) (fun v _ _ _ => (intOf v).toNat)
  case atStart =>
    exact ⟨0, Nat.zero_le _, rfl, by simpa using h0, ⟨Below.refl _ _, rfl⟩, hn0⟩
  case round =>
    clear a0 a1 h0
    obtain ⟨k, hk, rfl, hJ, hK, hs⟩ := hrel
    have HAr : Hid (wr.heap[a]? = some (.cells #[.int .i64 zs.length, .slice (some ⟨b, off, none⟩) zs.length cap] 38 (0, 0))) := hK.2.trans HAA.out
    have hl := lfN_lt (zs := zs) (F := F) k
    by_cases hkp : k < p
    · have hne := HPN.out.2 k hkp
      have hlo := lo_lt h62 hne
      have hx64 : lfN zs.length F k < 18446744073709551616 := by omega
      have hTr : Tab wr := HT.out.below hK.1 hT0
      have HTZ : Hid (∀ W1, Below wr.heap.size wr W1 → Calls Tryd.prog 30 #[.int .i64 (lfN zs.length F k)] W1 fun e w' => e = .returned (.int .i64 (lo (lfN zs.length F k))) ∧ W1 = w') := fun W1 h => first_any (lfN zs.length F k) (by omega) hne W1 (hTr.belowAll h)
      have hRD := HF.out _ hlo
      have hcw : Cells wr b off zs := HC.out.below hK.1 hb
      have HRE : Hid (∀ W1, Below wr.heap.size wr W1 → Calls Tryd.prog 29 #[.agg #[.int .i64 zs.length, .slice (some ⟨b, off, none⟩) zs.length cap], .int .i64 (lo (lfN zs.length F k))] W1 fun e w' => e = .returned (.tuple #[.int .i64 (F (lo (lfN zs.length F k))).1, .int .i64 (F (lo (lfN zs.length F k))).2]) ∧ Below W1.heap.size W1 w') := fun W1 h => reachedF_some zs.length b off cap zs (lo (lfN zs.length F k)) W1 (Nat.lt_of_lt_of_le (show b < wr.heap.size by omega) h.size) (hcw.below h (by omega)) (hTr.belowAll h) HG.out hlo _ hRD
      have hinv := hRD.inv hlo h62 HZ.out
      have HYY : Hid (∀ W1, J ((List.finRange p).take k) W1 → YieldAt Fence.wide (n - 1) Tryd.prog l #[.int .i64 ((F (lo (lfN zs.length F k))).1 : Nat), .int .i64 ((F (lo (lfN zs.length F k))).2 : Nat)] W1 fun e W' => (e = .returned (.bool true) ∧ J ((List.finRange p).take (k + 1)) W' ∧ KpG n₀ a W1 W') ∨ (e = .returned (.bool false) ∧ Jx ((List.finRange p).take (k + 1)) W')) := fun W1 h1 => by
        have h := HY.out _ ⟨k, hkp⟩ W1 h1 (by simp; omega)
        rw [← take_finP hkp] at h
        exact h
      have HSU : Hid (lfN zs.length F (k + 1) = anot (lfN zs.length F k) ((F (lo (lfN zs.length F k))).1 ||| (F (lo (lfN zs.length F k))).2)) := rfl
      have HDEC : Hid (lfN zs.length F (k + 1) < lfN zs.length F k) := by
        show _ < _
        rw [HSU.out]
        have hbit := lo_bit hne (by omega)
        refine Nat.lt_of_le_of_ne ?_ fun e => ?_
        · refine Nat.le_of_testBit fun i hi => ?_
          rw [anot_bit, Bool.and_eq_true] at hi; exact hi.1
        · have h2 := congrArg (fun y : Nat => y.testBit (lo (lfN zs.length F k))) e
          simp only [anot_bit, hbit, Bool.true_and] at h2
          rw [Nat.testBit_or, hinv.at0] at h2
          simp at h2
      generalize lfN zs.length F k = x at *
      generalize lo x = v at *
      generalize (F v).1 = f1 at *
      generalize (F v).2 = f2 at *
      have hu := u64_same x (by omega)
      have hxne : ((x : Int) != 0) = true := by rw [bne_iff_ne]; omega
      have hor := or_i64 f1 f2 (Nat.lt_of_lt_of_le hinv.elt (by omega)) (Nat.lt_of_lt_of_le hinv.olt (by omega))
      have han := andNot_nat x (f1 ||| f2) (by omega)
      have a0 := (two_cells HAr.out).1; have a1 := (two_cells HAr.out).2.1
      have HSU2 := Lib.hid HSU.out.symm
      clear hRD hinv hne hcw hTr hlo
      have hmix := mixed
      gi_wp2
      gi_cut [4, 5] from 11 (fun s t wx => s = .int .i64 f1 ∧ t = .int .i64 f2 ∧ Below wr.heap.size wr wx)
      case first =>
        gi_region_with_o (first
          | (refine ⟨trivial, ?_⟩; gi_at_call 30; refine (callsIn_wide.2 (HTZ.out _ (Below.refl _ _).drew)).mono ?_; rintro e w' ⟨rfl, rfl⟩)
          | (refine ⟨trivial, ?_⟩; gi_at_call 29; refine (callsIn_wide.2 (HRE.out _ (Below.refl _ _).drew)).mono ?_; rintro e w5 ⟨rfl, hb5⟩))
        all_goals
          gi_wp2_with fail
          gi_meet
          exact ⟨rfl, rfl, (Below.refl _ _).drew.trans (hb5.mono (Nat.le_refl _))⟩
      case rest =>
        obtain ⟨rfl, rfl, hb5⟩ := hcut
        obtain ⟨fn, tmps, assign, body, hyy, hRR⟩ := HYY.out _ (HA.out _ _ _ none hJ (grown_of_below hb5 none) (fun r e => by cases e))
        gi_wp2
        refine hRR.mono ?_
        rintro e W3 (⟨rfl, hJ3, hk3⟩ | ⟨rfl, hJx3⟩)
        · have hK3 : KpG n₀ a W W3 := (hK.tr (KpG.of_below hb5 hs (Array.getElem?_eq_some_iff.1 HAr.out).1)).tr hk3
          have hs3 : n₀ ≤ W3.heap.size := Nat.le_trans (Nat.le_trans hs hb5.size) hk3.1.size
          have HOR := Lib.hid hor; have HAN := Lib.hid han
          gi_wp2
          go_roundw
          case rel => exact ⟨k + 1, hkp, by first | rw [HSU2.out] | (rw [HOR.out, HAN.out, HSU2.out]), hJ3, hK3, hs3⟩
          case measure =>
            have h := HDEC.out
            rw [HSU.out] at h
            show ((anot x (f1 ||| f2) : Nat) : Int).toNat < ((x : Nat) : Int).toNat
            omega
        · gi_wp2
          refine bodyPost_ret (results_none rfl _ _ _) rfl ?_
          exact ⟨⟨_, rfl⟩, .inr ⟨_, List.take_prefix _ _, hJx3⟩⟩
    · obtain rfl : k = p := by omega
      have e1 := HPN.out.1
      rw [e1]
      rw [List.take_of_length_le (by simp)] at hJ
      gi_wp2
      go_end0
      exact ⟨⟨_, rfl⟩, .inl ⟨_, rfl, hJ⟩⟩
end Go.Proofs.YtbacocldjcenjaaDoor
