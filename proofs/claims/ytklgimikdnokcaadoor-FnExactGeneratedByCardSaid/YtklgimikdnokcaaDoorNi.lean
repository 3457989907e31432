/-
  impl.reachedFrom. (A tied seat of groups.)
-/
import Derived.Test.YtklgimikdnokcaaDoorNh
namespace Go.Proofs.YtklgimikdnokcaaDoor
set_option maxRecDepth 100000
open Go.RowKit

/-- The box H holds a graph value whose rows lie at off of block b. -/
def GBox (w : World) (H : Nat) (n : Int) (b off cap : Nat) (zs : List Int) : Prop :=
  w.cell? ⟨H, 0, none⟩ = some (.int .i64 n) ∧ w.cell? ⟨H, 1, none⟩ = some (.slice (some ⟨b, off, none⟩) zs.length cap) ∧ Cells w b off zs ∧ b ≤ H ∧ H < w.heap.size
theorem GBox.b0 {w : World} {H : Nat} {n : Int} {b off cap : Nat} {zs : List Int} (h : GBox w H n b off cap zs) : w.cell? ⟨H, 0, none⟩ = some (.int .i64 n) := h.1
theorem GBox.b1 {w : World} {H : Nat} {n : Int} {b off cap : Nat} {zs : List Int} (h : GBox w H n b off cap zs) : w.cell? ⟨H, 1, none⟩ = some (.slice (some ⟨b, off, none⟩) zs.length cap) := h.2.1
theorem GBox.cells {w : World} {H : Nat} {n : Int} {b off cap : Nat} {zs : List Int} (h : GBox w H n b off cap zs) : Cells w b off zs := h.2.2.1
theorem GBox.lt {w : World} {H : Nat} {n : Int} {b off cap : Nat} {zs : List Int} (h : GBox w H n b off cap zs) : H + 1 ≤ w.heap.size := h.2.2.2.2
theorem GBox.lb {w : World} {H : Nat} {n : Int} {b off cap : Nat} {zs : List Int} (h : GBox w H n b off cap zs) : b < w.heap.size := Nat.lt_of_le_of_lt h.2.2.2.1 h.2.2.2.2
theorem GBox.below {w w' : World} {H : Nat} {n : Int} {b off cap : Nat} {zs : List Int} (h : GBox w H n b off cap zs) (hb : Below (H + 1) w w') : GBox w' H n b off cap zs :=
  ⟨(hb.cell (p := ⟨H, 0, none⟩) (Nat.lt_succ_self _)).trans h.1, (hb.cell (p := ⟨H, 1, none⟩) (Nat.lt_succ_self _)).trans h.2.1, h.2.2.1.below hb (Nat.lt_succ_of_le h.2.2.2.1), h.2.2.2.1, Nat.lt_of_lt_of_le h.2.2.2.2 hb.size⟩
theorem GBox.new {w : World} {n : Int} {b off cap : Nat} {zs : List Int} (hb : b < w.heap.size) (hc : Cells w b off zs) :
    GBox (w.alloc (.cells #[.int .i64 n, .slice (some ⟨b, off, none⟩) zs.length cap] 36)) w.heap.size n b off cap zs :=
  ⟨by simp, by simp, fun i hi => (World.cell?_alloc_lt _ _ _ hb).trans (hc i hi), Nat.le_of_lt hb, by simp⟩
theorem GBox.drewN {w : World} {H : Nat} {n : Int} {b off cap : Nat} {zs : List Int} (h : GBox w H n b off cap zs) (m : Nat) : GBox (w.drewN m) H n b off cap zs := h.below (drewN_below (Below.refl _ _) m)

set_option maxRecDepth 100000 in
set_option maxHeartbeats 1600000 in
theorem reached_any (n : Int) (b off cap : Nat) (zs : List Int) (v : Nat) (w : World) (hb : b < w.heap.size) (hc : Cells w b off zs) (hT : Tab w) (hl62 : zs.length ≤ 62) (hzn : ∀ i, i < zs.length → 0 ≤ el zs i ∧ (el zs i).toNat < 2 ^ zs.length) (hv : v < zs.length) :
    Calls Tryd.prog 46 #[.agg #[.int .i64 n, .slice (some ⟨b, off, none⟩) zs.length cap], .int .i64 v] w fun e w' => (∃ ev od : Nat, e = .returned (.tuple #[.int .i64 ev, .int .i64 od]) ∧ ev < 2 ^ zs.length ∧ od < 2 ^ zs.length ∧ ∀ w, ((ev ||| od).testBit w = true ↔ RR zs v w)) ∧ Below w.heap.size w w' := by
  have hp62 : 2 ^ zs.length ≤ 2 ^ 62 := Nat.pow_le_pow_right (by decide) hl62
  have HZ2 : Hid (∀ i, i < zs.length → 0 ≤ el zs i ∧ (el zs i).toNat < 2 ^ 62) := fun i hi => ⟨(hzn i hi).1, Nat.lt_of_lt_of_le (hzn i hi).2 hp62⟩
  have HZV : Hid (∀ i, i < zs.length → (el zs i).toNat < 2 ^ zs.length) := fun i hi => (hzn i hi).2
  have D0 : Below w.heap.size w (w.alloc (.cells #[.int .i64 n, .slice (some ⟨b, off, none⟩) zs.length cap] 36)) := (Below.refl _ _).alloc (Nat.le_refl _) _
  have HG0 := Lib.hid (GBox.new (n := n) (cap := cap) hb hc)
  have HT := Lib.hid (hT.belowAll D0)
  have hTl := hT.lt
  have hv0 : (0 : Int) ≤ v := by omega
  have hv62 : (v : Int) ≤ 61 := by omega
  obtain ⟨pv0, pv1⟩ := pow_bounds v (by omega)
  have e8 : (2 : Int) ^ v = ((2 ^ v : Nat) : Int) := by simp
  have HE8 := Lib.hid e8
  have HST := Lib.hid (RV.start hv)
  clear hc hT hzn e8
  go_enter Tryd.func46, Tryd.ntmps46
  go_wp2
  go_loopw [6, 7] (fun e o wr => ∃ ev od : Nat, e = .int .i64 ev ∧ o = .int .i64 od ∧ Hid (RV zs v ev od) ∧ Below (w.heap.size + 1) (w.alloc (.cells #[.int .i64 n, .slice (some ⟨b, off, none⟩) zs.length cap] 36)) wr) (fun e o _ => 18446744073709551616 - ((intOf e).toNat + (intOf o).toNat))
  case atStart => exact ⟨2 ^ v, 0, congrArg (Value.int .i64) HE8.out, rfl, HST, Below.refl _ _⟩
  case round =>
    clear pv0 pv1
    obtain ⟨ev, od, rfl, rfl, HI, hB⟩ := hrel
    have G1 := HG0.out.below hB
    have b0 := G1.b0
    have b1 := G1.b1
    have l1 := G1.lt
    have T1 := HT.out.below hB (by omega)
    have elt := HI.out.elt
    have olt := HI.out.olt
    have HN := Lib.hid (HI.out.next hl62 HZV.out)
    obtain ⟨mo, hmo⟩ : ∃ mo, mo = rOdd zs ev od := ⟨_, rfl⟩
    obtain ⟨me, hme⟩ : ∃ me, me = rEven zs ev od := ⟨_, rfl⟩
    have mlt : mo < 2 ^ zs.length := by rw [hmo]; exact HN.out.olt
    have melt : me < 2 ^ zs.length := by rw [hme]; exact HN.out.elt
    have hor1 : bits .or .i64 (od : Int) ((arN zs (mem ev) : Nat) : Int) = (mo : Int) := by
      rw [hmo]; exact or_i64 _ _ (by omega) (Nat.lt_of_lt_of_le (arN_lt zs _ HZV.out _) (by omega))
    have hor2 : bits .or .i64 (ev : Int) ((arN zs (mem mo) : Nat) : Int) = (me : Int) := by
      rw [hme, hmo]; exact or_i64 _ _ (by omega) (Nat.lt_of_lt_of_le (arN_lt zs _ HZV.out _) (by omega))
    have gro : od ≤ mo := by rw [hmo]; exact Nat.left_le_or
    have gre : ev ≤ me := by rw [hme]; exact Nat.left_le_or
    have HMO := Lib.hid hmo; have HME := Lib.hid hme
    clear hmo hme
    have ha1 := around_any n b off cap zs ev wr G1.lb G1.cells T1 hl62 elt HZ2.out
    go_wp2_with fail
    refine ha1.mono ?_
    rintro e w2 ⟨rfl, hb2⟩
    have B2 := hB.trans (hb2.mono l1)
    have G2 := HG0.out.below B2
    have b0 := G2.b0
    have b1 := G2.b1
    have l2 := G2.lt
    have T2 := HT.out.below B2 (by omega)
    have ha2 := around_any n b off cap zs mo w2 G2.lb G2.cells T2 hl62 mlt HZ2.out
    clear hb2 ha1 hB G1 T1
    go_wp2_with fail
    refine ha2.mono ?_
    rintro e w3 ⟨rfl, hb3⟩
    have B3 := Lib.hid (B2.trans (hb3.mono l2))
    clear hb3 ha2 B2 G2 T2 b0 b1
    by_cases he : me = ev
    · by_cases ho : mo = od
      · have t1 : ((me : Int) == (ev : Int)) = true := by rw [beq_iff_eq]; omega
        have t2 : ((mo : Int) == (od : Int)) = true := by rw [beq_iff_eq]; omega
        have HD := Lib.hid (HI.out.done hl62 (by rw [← HME.out]; exact he) (by rw [← HMO.out]; exact ho))
        clear he ho
        go_wp2
        go_ret2
        exact ⟨⟨ev, od, rfl, elt, olt, HD.out⟩, D0.trans (B3.out.mono (by simp))⟩
      · have t1 : ((me : Int) == (ev : Int)) = true := by rw [beq_iff_eq]; omega
        have t2 : ((mo : Int) == (od : Int)) = false := by rw [beq_eq_false_iff_ne]; omega
        have HN2 : Hid (RV zs v me mo) := by have := HN.out; rw [← HMO.out, ← HME.out] at this; exact this
        clear HN
        go_wp2
        go_roundw
        case rel => exact ⟨me, mo, by rw [he], rfl, HN2, B3.out⟩
        case measure => simp [intOf]; omega
    · have t1 : ((me : Int) == (ev : Int)) = false := by rw [beq_eq_false_iff_ne]; omega
      have HN2 : Hid (RV zs v me mo) := by have := HN.out; rw [← HMO.out, ← HME.out] at this; exact this
      clear HN
      go_wp2
      go_roundw
      case rel => exact ⟨me, mo, rfl, rfl, HN2, B3.out⟩
      case measure => simp [intOf]; omega

end Go.Proofs.YtklgimikdnokcaaDoor
