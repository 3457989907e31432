/-
  impl.reachedFrom and impl.IsConnected.
-/
import Derived.Test.YtlodaeoikkjbkaaDoorRe
import Derived.Test.YtlodaeoikkjbkaaDoorRm
namespace Go.Proofs.YtlodaeoikkjbkaaDoor
set_option maxRecDepth 100000
open Go.RowKit

set_option maxRecDepth 100000 in
set_option maxHeartbeats 1600000 in
theorem reached_some (n : Int) (b off cap : Nat) (zs : List Int) (v : Nat) (w : World) (hb : b < w.heap.size) (hc : Cells w b off zs) (hT : Tab w) (hg : isG n zs = true) (hv : v < zs.length) :
    Calls Tryd.prog 86 #[.agg #[.int .i64 n, .slice (some ⟨b, off, none⟩) zs.length cap], .int .i64 v] w fun e w' => (∃ ev od : Nat, e = .returned (.tuple #[.int .i64 ev, .int .i64 od]) ∧ ev < 2 ^ zs.length ∧ od < 2 ^ zs.length ∧ ∀ w, w < zs.length → ((ev ||| od).testBit w = decide (0 ≤ dOf (Rw zs v 0) zs.length v w))) ∧ Below w.heap.size w w' := by
  obtain ⟨h1, h2, h3, h4, -⟩ := isG_parts hg
  have hl62 : zs.length ≤ 62 := by omega
  have hzn : ∀ i, i < zs.length → 0 ≤ el zs i ∧ (el zs i).toNat < 2 ^ zs.length := fun i hi => by
    have q0 := (isG_row_ok hg i hi).1
    have q1 := rowOk_le (rowsOk_at h4 hi)
    rw [← h3, Int.toNat_natCast] at q1
    have e : ((2 : Int) ^ zs.length) = ((2 ^ zs.length : Nat) : Int) := by simp
    rw [e] at q1
    omega
  have hp62 : 2 ^ zs.length ≤ 2 ^ 62 := Nat.pow_le_pow_right (by decide) hl62
  have HZ2 : Hid (∀ i, i < zs.length → 0 ≤ el zs i ∧ (el zs i).toNat < 2 ^ 62) := fun i hi => ⟨(hzn i hi).1, Nat.lt_of_lt_of_le (hzn i hi).2 hp62⟩
  have HZV : Hid (∀ i, i < zs.length → (el zs i).toNat < 2 ^ zs.length) := fun i hi => (hzn i hi).2
  have D0 : Below w.heap.size w (w.alloc (.cells #[.int .i64 n, .slice (some ⟨b, off, none⟩) zs.length cap] 28)) := (Below.refl _ _).alloc (Nat.le_refl _) _
  have HG0 := Lib.hid (GBox.new (n := n) (cap := cap) hb hc)
  have HT := Lib.hid (hT.belowAll D0)
  have hTl := hT.lt
  have hv0 : (0 : Int) ≤ v := by omega
  have hv62 : (v : Int) ≤ 61 := by omega
  obtain ⟨pv0, pv1⟩ := pow_bounds v (by omega)
  have e8 : (2 : Int) ^ v = ((2 ^ v : Nat) : Int) := by simp
  have HE8 := Lib.hid e8
  have HST := Lib.hid (RInv.start hv)
  clear hc hT hg h3 h4 hzn e8
  go_enter Tryd.func86, Tryd.ntmps86
  go_wp2
  go_loopw [6, 7] (fun e o wr => ∃ ev od : Nat, e = .int .i64 ev ∧ o = .int .i64 od ∧ Hid (RInv zs v ev od) ∧ Below (w.heap.size + 1) (w.alloc (.cells #[.int .i64 n, .slice (some ⟨b, off, none⟩) zs.length cap] 28)) wr) (fun e o _ => 18446744073709551616 - ((intOf e).toNat + (intOf o).toNat))
  case atStart => exact ⟨2 ^ v, 0, congrArg (Value.int .i64) HE8.out, rfl, HST, Below.refl _ _⟩
  case round =>
    clear pv0 pv1
    obtain ⟨ev, od, rfl, rfl, HI, hB⟩ := hrel
    have G1 := HG0.out.below hB
    have b0 := G1.b0
    have b1 := G1.b1
    have l1 := G1.lt
    have T1 := HT.out.below hB (by omega)
    have elt := HI.out.elt
    have olt := HI.out.olt
    have HN := Lib.hid (HI.out.next hv hl62 HZV.out)
    obtain ⟨mo, hmo⟩ : ∃ mo, mo = rOdd zs ev od := ⟨_, rfl⟩
    obtain ⟨me, hme⟩ : ∃ me, me = rEven zs ev od := ⟨_, rfl⟩
    have mlt : mo < 2 ^ zs.length := by rw [hmo]; exact HN.out.olt
    have melt : me < 2 ^ zs.length := by rw [hme]; exact HN.out.elt
    have hor1 : bits .or .i64 (od : Int) ((arN zs (mem ev) : Nat) : Int) = (mo : Int) := by
      rw [hmo]; exact or_i64 _ _ (by omega) (Nat.lt_of_lt_of_le (arN_lt zs _ HZV.out _) (by omega))
    have hor2 : bits .or .i64 (ev : Int) ((arN zs (mem mo) : Nat) : Int) = (me : Int) := by
      rw [hme, hmo]; exact or_i64 _ _ (by omega) (Nat.lt_of_lt_of_le (arN_lt zs _ HZV.out _) (by omega))
    have gro : od ≤ mo := by rw [hmo]; exact Nat.left_le_or
    have gre : ev ≤ me := by rw [hme]; exact Nat.left_le_or
    have HMO := Lib.hid hmo; have HME := Lib.hid hme
    clear hmo hme
    have ha1 := around_any n b off cap zs ev wr G1.lb G1.cells T1 hl62 elt HZ2.out
    go_wp2_with fail
    refine ha1.mono ?_
    rintro e w2 ⟨rfl, hb2⟩
    have B2 := hB.trans (hb2.mono l1)
    have G2 := HG0.out.below B2
    have b0 := G2.b0
    have b1 := G2.b1
    have l2 := G2.lt
    have T2 := HT.out.below B2 (by omega)
    have ha2 := around_any n b off cap zs mo w2 G2.lb G2.cells T2 hl62 mlt HZ2.out
    clear hb2 ha1 hB G1 T1
    go_wp2_with fail
    refine ha2.mono ?_
    rintro e w3 ⟨rfl, hb3⟩
    have B3 := Lib.hid (B2.trans (hb3.mono l2))
    clear hb3 ha2 B2 G2 T2 b0 b1
    by_cases he : me = ev
    · by_cases ho : mo = od
      · have t1 : ((me : Int) == (ev : Int)) = true := by rw [beq_iff_eq]; omega
        have t2 : ((mo : Int) == (od : Int)) = true := by rw [beq_iff_eq]; omega
        have HD := Lib.hid (HI.out.done hl62 (by rw [← HME.out]; exact he) (by rw [← HMO.out]; exact ho))
        clear he ho
        go_wp2
        go_ret2
        exact ⟨⟨ev, od, rfl, elt, olt, HD.out⟩, D0.trans (B3.out.mono (by simp))⟩
      · have t1 : ((me : Int) == (ev : Int)) = true := by rw [beq_iff_eq]; omega
        have t2 : ((mo : Int) == (od : Int)) = false := by rw [beq_eq_false_iff_ne]; omega
        have HN2 : Hid (RInv zs v me mo) := by have := HN.out; rw [← HMO.out, ← HME.out] at this; exact this
        clear HN
        go_wp2
        go_roundw
        case rel => exact ⟨me, mo, by rw [he], rfl, HN2, B3.out⟩
        case measure => simp [intOf]; omega
    · have t1 : ((me : Int) == (ev : Int)) = false := by rw [beq_eq_false_iff_ne]; omega
      have HN2 : Hid (RInv zs v me mo) := by have := HN.out; rw [← HMO.out, ← HME.out] at this; exact this
      clear HN
      go_wp2
      go_roundw
      case rel => exact ⟨me, mo, rfl, rfl, HN2, B3.out⟩
      case measure => simp [intOf]; omega

set_option maxHeartbeats 800000 in
theorem implConn_yes (n : Int) (b off cap : Nat) (zs : List Int) (w : World) (hb : b < w.heap.size) (hc : Cells w b off zs) (hg : isG n zs = true) (hl : zs.length ≤ 9223372036854775807) (hT : Tab w) :
    Calls Tryd.prog 81 #[.agg #[.int .i64 n, .slice (some ⟨b, off, none⟩) zs.length cap]] w fun e w' => e = .returned (.tuple #[.bool (connB zs), .int .i64 0]) ∧ Below w.heap.size w w' := by
  obtain ⟨h1, h2, h3, -, -⟩ := isG_parts hg
  have hl62 : zs.length ≤ 62 := by omega
  have D0 : Below w.heap.size w (w.alloc (.cells #[.int .i64 n, .slice (some ⟨b, off, none⟩) zs.length cap] 28)) := (Below.refl _ _).alloc (Nat.le_refl _) _
  have his := implIs_some n b off cap zs _ (Nat.lt_of_lt_of_le hb D0.size) (hc.below D0 hb) hl (hT.belowAll D0)
  rw [hg] at his
  have HG0 := Lib.hid (GBox.new (n := n) (cap := cap) hb hc)
  have HG := Lib.hid hg; have HT := Lib.hid (hT.belowAll D0)
  have hav := fun W => allV_any n W (by omega) (by omega)
  rw [← h3, Int.toNat_natCast, h3] at hav
  have e8 : (2 : Int) ^ zs.length = ((2 ^ zs.length : Nat) : Int) := by simp
  have hp := Nat.two_pow_pos zs.length
  have hp62 : 2 ^ zs.length ≤ 2 ^ 62 := Nat.pow_le_pow_right (by decide) hl62
  have HE8 := Lib.hid e8
  have hpz : 0 < zs.length := by omega
  clear hc hg hT h3 e8
  go_enter Tryd.func81, Tryd.ntmps81
  go_wp2_with (first | (go_at_call 41; with_reducible refine his.mono ?_; rintro e w1 ⟨rfl, hb1⟩; have G1 := HG0.out.below (hb1.mono (by simp)); have b0 := G1.b0; have b1 := G1.b1))
  have D1 := D0.trans (hb1.mono (by simp))
  have hre := reached_some n b off cap zs 0 w1 G1.lb G1.cells (HT.out.belowAll hb1) HG.out hpz
  rw [show ((0 : Nat) : Int) = 0 from rfl] at hre
  have l1 := G1.lt
  clear his
  refine hre.mono ?_
  rintro e w2 ⟨⟨ev, od, rfl, elt, olt, hbits⟩, hb2⟩
  have B2 := (hb1.mono (by simp : w.heap.size + 1 ≤ (w.alloc (.cells #[.int .i64 n, .slice (some ⟨b, off, none⟩) zs.length cap] 28)).heap.size)).trans (hb2.mono l1)
  have G2 := HG0.out.below B2
  have b0 := G2.b0
  have b1 := G2.b1
  have D2 := D1.trans (hb2.mono D1.size)
  have hor : bits .or .i64 (ev : Int) (od : Int) = ((ev ||| od : Nat) : Int) := or_i64 _ _ (by omega) (by omega)
  have HF : Hid (decide ((((ev ||| od : Nat) : Int)) = 2 ^ zs.length - 1) = connB zs) := by
    show decide _ = _
    rw [Bool.eq_iff_iff, decide_eq_true_iff, ← conn_iff (Nat.or_lt_two_pow elt olt) hbits, HE8.out]
    omega
  have HF2 : Hid (((((ev ||| od : Nat) : Int)) == 2 ^ zs.length - 1) = connB zs) := by
    show _ = _
    rw [← HF.out]; rfl
  clear hb1 hb2 hre G1 G2 hbits B2
  go_wp2_with (first | (go_at_call 64; with_reducible refine (hav _).mono ?_; rintro e w3 ⟨rfl, rfl⟩))
  go_ret2
  exact ⟨by first | rw [HF2.out]; rfl | (simp only [hor]; rw [HF2.out]; rfl), D2⟩

set_option maxHeartbeats 400000 in
theorem implConn_no (n : Int) (v : Value) (zs : List Int) (w : World) (h : Sl w v zs) (hg : isG n zs = false) (hl : zs.length ≤ 9223372036854775807) (hT : Tab w) :
    Calls Tryd.prog 81 #[.agg #[.int .i64 n, v]] w fun e w' => e = .returned (.tuple #[.bool false, .int .i64 1]) ∧ Below w.heap.size w w' := by
  have D0 : Below w.heap.size w (w.alloc (.cells #[.int .i64 n, v] 28)) := (Below.refl _ _).alloc (Nat.le_refl _) _
  have his := implIs_any n v zs _ (h.below D0) hl (hT.belowAll D0)
  rw [hg] at his
  clear hg h hT
  go_enter Tryd.func81, Tryd.ntmps81
  go_wp2_with (go_at_call 41; refine his.mono ?_; rintro e w1 ⟨rfl, hb1⟩)
  go_ret2
  exact ⟨rfl, D0.trans (hb1.mono (by simp))⟩
end Go.Proofs.YtlodaeoikkjbkaaDoor
