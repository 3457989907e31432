/-
  impl.reachedFrom, with the rows that it ends with.
-/
import Derived.Test.YtbacocldjcenjaaDoorFr
import Derived.Test.YtbacocldjcenjaaDoorOn1
import Derived.Test.YtbacocldjcenjaaDoorPq
namespace Go.Proofs.YtbacocldjcenjaaDoor
set_option maxRecDepth 100000
open Go.RowKit

set_option maxRecDepth 100000 in
set_option maxHeartbeats 1600000 in
theorem reachedF_some (n : Int) (b off cap : Nat) (zs : List Int) (v : Nat) (w : World) (hb : b < w.heap.size) (hc : Cells w b off zs) (hT : Tab w) (hg : isG n zs = true) (hv : v < zs.length) (p : Nat × Nat) (hp : RD zs v p) :
    Calls Tryd.prog 29 #[.agg #[.int .i64 n, .slice (some ⟨b, off, none⟩) zs.length cap], .int .i64 v] w fun e w' => e = .returned (.tuple #[.int .i64 p.1, .int .i64 p.2]) ∧ Below w.heap.size w w' := by
  obtain ⟨h1, h2, h3, h4, -⟩ := isG_parts hg
  have hl62 : zs.length ≤ 62 := by omega
  have hzn : ∀ i, i < zs.length → 0 ≤ el zs i ∧ (el zs i).toNat < 2 ^ zs.length := fun i hi => by
    have q0 := (isG_row_ok hg i hi).1
    have q1 := rowOk_le (rowsOk_at h4 hi)
    rw [← h3, Int.toNat_natCast] at q1
    have e : ((2 : Int) ^ zs.length) = ((2 ^ zs.length : Nat) : Int) := by simp
    rw [e] at q1
    omega
  have hp62 : 2 ^ zs.length ≤ 2 ^ 62 := Nat.pow_le_pow_right (by decide) hl62
  have HZ2 : Hid (∀ i, i < zs.length → 0 ≤ el zs i ∧ (el zs i).toNat < 2 ^ 62) := fun i hi => ⟨(hzn i hi).1, Nat.lt_of_lt_of_le (hzn i hi).2 hp62⟩
  have HZV : Hid (∀ i, i < zs.length → (el zs i).toNat < 2 ^ zs.length) := fun i hi => (hzn i hi).2
  have D0 : Below w.heap.size w (w.alloc (.cells #[.int .i64 n, .slice (some ⟨b, off, none⟩) zs.length cap] 38)) := (Below.refl _ _).alloc (Nat.le_refl _) _
  have HG0 := Lib.hid (GBox.new (n := n) (cap := cap) hb hc)
  have HT := Lib.hid (hT.belowAll D0)
  have hTl := hT.lt
  have hv0 : (0 : Int) ≤ v := by omega
  have hv62 : (v : Int) ≤ 61 := by omega
  obtain ⟨pv0, pv1⟩ := pow_bounds v (by omega)
  have e8 : (2 : Int) ^ v = ((2 ^ v : Nat) : Int) := by simp
  have HE8 := Lib.hid e8
  have HST : Hid (∃ k, ((2 ^ v : Nat), (0 : Nat)) = rIt zs v k) := ⟨0, rfl⟩
  have HPP := Lib.hid hp; clear hp
  have HIV : Hid (∀ k, RInv zs v (rIt zs v k).1 (rIt zs v k).2) := rIt_inv hv hl62 HZV.out
  clear hc hT hg h3 h4 hzn e8
  go_enter Tryd.func29, Tryd.ntmps29
  go_wp2
  go_loopw [6, 7] (fun e o wr => ∃ ev od : Nat, e = .int .i64 ev ∧ o = .int .i64 od ∧ Hid (∃ k, (ev, od) = rIt zs v k) ∧ Below (w.heap.size + 1) (w.alloc (.cells #[.int .i64 n, .slice (some ⟨b, off, none⟩) zs.length cap] 38)) wr) (fun e o _ => 18446744073709551616 - ((intOf e).toNat + (intOf o).toNat))
  case atStart => exact ⟨2 ^ v, 0, congrArg (Value.int .i64) HE8.out, rfl, HST, Below.refl _ _⟩
  case round =>
    clear pv0 pv1
    obtain ⟨ev, od, rfl, rfl, HK, hB⟩ := hrel
    have HI : Hid (RInv zs v ev od) := by
      obtain ⟨k, e⟩ := HK.out
      have := HIV.out k
      rw [← e] at this; exact this
    have G1 := HG0.out.below hB
    have b0 := G1.b0
    have b1 := G1.b1
    have l1 := G1.lt
    have T1 := HT.out.below hB (by omega)
    have elt := HI.out.elt
    have olt := HI.out.olt
    have HN := Lib.hid (HI.out.next hv hl62 HZV.out)
    obtain ⟨mo, hmo⟩ : ∃ mo, mo = rOdd zs ev od := ⟨_, rfl⟩
    obtain ⟨me, hme⟩ : ∃ me, me = rEven zs ev od := ⟨_, rfl⟩
    have mlt : mo < 2 ^ zs.length := by rw [hmo]; exact HN.out.olt
    have melt : me < 2 ^ zs.length := by rw [hme]; exact HN.out.elt
    have hor1 : bits .or .i64 (od : Int) ((arN zs (mem ev) : Nat) : Int) = (mo : Int) := by
      rw [hmo]; exact or_i64 _ _ (by omega) (Nat.lt_of_lt_of_le (arN_lt zs _ HZV.out _) (by omega))
    have hor2 : bits .or .i64 (ev : Int) ((arN zs (mem mo) : Nat) : Int) = (me : Int) := by
      rw [hme, hmo]; exact or_i64 _ _ (by omega) (Nat.lt_of_lt_of_le (arN_lt zs _ HZV.out _) (by omega))
    have gro : od ≤ mo := by rw [hmo]; exact Nat.left_le_or
    have gre : ev ≤ me := by rw [hme]; exact Nat.left_le_or
    have HMO := Lib.hid hmo; have HME := Lib.hid hme
    clear hmo hme
    have ha1 := around_any n b off cap zs ev wr G1.lb G1.cells T1 hl62 elt HZ2.out
    go_wp2_with fail
    refine ha1.mono ?_
    rintro e w2 ⟨rfl, hb2⟩
    have B2 := hB.trans (hb2.mono l1)
    have G2 := HG0.out.below B2
    have b0 := G2.b0
    have b1 := G2.b1
    have l2 := G2.lt
    have T2 := HT.out.below B2 (by omega)
    have ha2 := around_any n b off cap zs mo w2 G2.lb G2.cells T2 hl62 mlt HZ2.out
    clear hb2 ha1 hB G1 T1
    go_wp2_with fail
    refine ha2.mono ?_
    rintro e w3 ⟨rfl, hb3⟩
    have B3 := Lib.hid (B2.trans (hb3.mono l2))
    clear hb3 ha2 B2 G2 T2 b0 b1
    by_cases he : me = ev
    · by_cases ho : mo = od
      · have t1 : ((me : Int) == (ev : Int)) = true := by rw [beq_iff_eq]; omega
        have t2 : ((mo : Int) == (od : Int)) = true := by rw [beq_iff_eq]; omega
        have HD : Hid (p = (ev, od)) := by
          obtain ⟨k, e⟩ := HK.out
          refine HPP.out.uniq ⟨k, e, ?_⟩
          show (rEven zs (rIt zs v k).1 (rIt zs v k).2, rOdd zs (rIt zs v k).1 (rIt zs v k).2) = _
          rw [← e, ← HMO.out, ← HME.out, he, ho]
        clear he ho
        go_wp2
        go_ret2
        exact ⟨by rw [HD.out]; rfl, D0.trans (B3.out.mono (by simp))⟩
      · have t1 : ((me : Int) == (ev : Int)) = true := by rw [beq_iff_eq]; omega
        have t2 : ((mo : Int) == (od : Int)) = false := by rw [beq_eq_false_iff_ne]; omega
        have HN2 : Hid (∃ k, (me, mo) = rIt zs v k) := by
          obtain ⟨k, e⟩ := HK.out
          refine ⟨k + 1, ?_⟩
          show _ = (rEven zs (rIt zs v k).1 (rIt zs v k).2, rOdd zs (rIt zs v k).1 (rIt zs v k).2)
          rw [← e, ← HMO.out, ← HME.out]
        clear HN
        go_wp2
        go_roundw
        case rel => exact ⟨me, mo, by rw [he], rfl, HN2, B3.out⟩
        case measure => simp [intOf]; omega
    · have t1 : ((me : Int) == (ev : Int)) = false := by rw [beq_eq_false_iff_ne]; omega
      have HN2 : Hid (∃ k, (me, mo) = rIt zs v k) := by
        obtain ⟨k, e⟩ := HK.out
        refine ⟨k + 1, ?_⟩
        show _ = (rEven zs (rIt zs v k).1 (rIt zs v k).2, rOdd zs (rIt zs v k).1 (rIt zs v k).2)
        rw [← e, ← HMO.out, ← HME.out]
      clear HN
      go_wp2
      go_roundw
      case rel => exact ⟨me, mo, rfl, rfl, HN2, B3.out⟩
      case measure => simp [intOf]; omega

end Go.Proofs.YtbacocldjcenjaaDoor
