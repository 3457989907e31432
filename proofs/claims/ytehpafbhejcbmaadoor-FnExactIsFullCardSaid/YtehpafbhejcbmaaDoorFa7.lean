/-
  spec.l07Far: the distance of two vertices.
-/
import Derived.Test.YtehpafbhejcbmaaDoorMj7
namespace Go.Proofs.YtehpafbhejcbmaaDoor
set_option maxRecDepth 100000
set_option maxRecDepth 100000
open Go.RowKit

/-- The rows of those of the first k vertices that are in fr, together. -/
def nxP (zs : List Int) (fr : Nat) : Nat → Nat
  | 0 => 0
  | k + 1 => if fr.testBit k then nxP zs fr k ||| (el zs k).toNat else nxP zs fr k
theorem nxP_bit (zs : List Int) (fr w : Nat) : ∀ k, (nxP zs fr k).testBit w = (List.range k).any fun x => fr.testBit x && bt (el zs x) w
  | 0 => by simp [nxP]
  | k + 1 => by
    rw [List.range_succ, List.any_append, ← nxP_bit zs fr w k]
    show (if _ then _ else _ : Nat).testBit w = _
    cases hb : fr.testBit k with
    | true => rw [if_pos rfl, Nat.testBit_or]; unfold bt; simp [hb]
    | false => rw [if_neg (by simp)]; simp [hb]
theorem nxP_lt {zs : List Int} {fr m : Nat} (hz : ∀ i, i < zs.length → (el zs i).toNat < 2 ^ m) : ∀ k, k ≤ zs.length → nxP zs fr k < 2 ^ m
  | 0, _ => Nat.two_pow_pos m
  | k + 1, h => by
    show (if _ then _ else _) < _
    split
    · exact Nat.or_lt_two_pow (nxP_lt hz k (by omega)) (hz k (by omega))
    · exact nxP_lt hz k (by omega)

/-- What holds at the loop's head: the vertices met, those at the distance d, and that b is at no less distance. -/
structure FarI (zs : List Int) (a b mt fr d : Nat) : Prop where
  mlt : mt < 2 ^ zs.length
  flt : fr < 2 ^ zs.length
  go : fr ≠ 0 → (∃ ls ar, LvInv zs a 0 ls mt ar ∧ ls.length = d + 1 ∧ ls[d]? = some fr) ∧ ∀ j, j < d → lev (Rw zs a 0) zs.length a j b = false
  stop : fr = 0 → ∀ j, lev (Rw zs a 0) zs.length a j b = false
theorem FarI.start {zs : List Int} {a : Nat} (b : Nat) (ha : a < zs.length) (hz : (el zs a).toNat < 2 ^ zs.length) : FarI zs a b (2 ^ a) (2 ^ a) 0 :=
  have hp : 2 ^ a < 2 ^ zs.length := Nat.pow_lt_pow_right (by decide) ha
  ⟨hp, hp, fun _ => ⟨⟨_, _, LvInv.start (wo := 0) ha hz, rfl, rfl⟩, fun j h => absurd h (Nat.not_lt_zero _)⟩, fun e => absurd e (by have := Nat.two_pow_pos a; omega)⟩
theorem FarI.few {zs : List Int} {a b mt fr d : Nat} (h : FarI zs a b mt fr d) (h0 : fr ≠ 0) : d < zs.length := by
  obtain ⟨⟨ls, ar, h1, h2, _⟩, _⟩ := h.go h0
  have := h1.len
  omega
theorem FarI.bit {zs : List Int} {a b mt fr d : Nat} (h : FarI zs a b mt fr d) (h0 : fr ≠ 0) : fr.testBit b = lev (Rw zs a 0) zs.length a d b := by
  obtain ⟨⟨ls, ar, h1, h2, h3⟩, _⟩ := h.go h0
  exact (h1.bit d fr h3).2 b
theorem FarI.next {zs : List Int} {a b mt fr d : Nat} (h : FarI zs a b mt fr d) (h0 : fr ≠ 0) (hb : fr.testBit b = false) (ha : a < zs.length) (h62 : zs.length ≤ 62) (hz : ∀ i, i < zs.length → (el zs i).toNat < 2 ^ zs.length) :
    FarI zs a b (mt ||| nxP zs fr zs.length) (anot (nxP zs fr zs.length) mt) (d + 1) := by
  have hbit := h.bit h0
  rw [hb] at hbit
  obtain ⟨⟨ls, ar, h1, h2, h3⟩, h4⟩ := h.go h0
  have har : ar = nxP zs fr zs.length := by
    refine Nat.eq_of_testBit_eq fun w => ?_
    rw [h1.abit, nxP_bit, h2, Nat.add_sub_cancel]
    refine congrArg (fun f => (List.range zs.length).any f) (funext fun x => ?_)
    rw [(h1.bit d fr h3).2 x]
    congr 1
    simp [Rw]
  rw [← har]
  have hno : ∀ j, j < d + 1 → lev (Rw zs a 0) zs.length a j b = false := fun j hj => by
    by_cases e : j = d
    · rw [e, ← hbit]
    · exact h4 j (by omega)
  refine ⟨Nat.or_lt_two_pow h.mlt h1.alt, anot_lt h1.alt, fun hne => ⟨?_, hno⟩, fun he j => ?_⟩
  · have h5 := (h1.next ha h62 hz hne).1
    refine ⟨ls ++ [anot ar mt], arN zs (mem (anot ar mt)), ?_, by rw [List.length_append, h2]; rfl, by rw [← h2]; simp⟩
    have e : mt ||| anot ar mt = mt ||| ar := by
      refine Nat.eq_of_testBit_eq fun i => ?_
      rw [Nat.testBit_or, Nat.testBit_or, anot_bit]
      cases mt.testBit i <;> simp
    rw [e] at h5
    exact h5
  · have h5 := (h1.done he).last
    by_cases hj : j < ls.length
    · exact hno j (by omega)
    · exact lev_out h5 (by omega)

set_option maxHeartbeats 3200000 in
theorem far_some (b off cap : Nat) (zs : List Int) (x y : Nat) (w : World) (hb : b < w.heap.size) (hc : Cells w b off zs) (hg : isG zs.length zs = true) (hx : x < zs.length) (hy : y < zs.length) :
    Calls Tryd.prog 67 #[.agg #[.int .i64 zs.length, .slice (some ⟨b, off, none⟩) zs.length cap], .int .i64 x, .int .i64 y] w fun e w' => e = .returned (.int .i64 (cyD zs x 0 y)) ∧ Below w.heap.size w w' := by
  obtain ⟨g1, g2, -, g4, -⟩ := isG_iff.1 hg
  have h62 : zs.length ≤ 62 := by omega
  have hp62 : 2 ^ zs.length ≤ 2 ^ 62 := Nat.pow_le_pow_right (by decide) h62
  have HZN := Lib.hid g4
  have HZL : Hid (∀ i, i < zs.length → (el zs i).toNat < 2 ^ zs.length) := fun i hi => (g4 i hi).2.1
  have HNO : Hid ((∀ j, lev (Rw zs x 0) zs.length x j y = false) → cyD zs x 0 y = -1) := fun h => dOf_none h
  have HYE : Hid (∀ d, lev (Rw zs x 0) zs.length x d y = true → cyD zs x 0 y = d) := fun d h => dOf_lev hx h
  generalize cyD zs x 0 y = D at HNO HYE ⊢
  have D0 : Below w.heap.size w (w.alloc (.cells #[.int .i64 zs.length, .slice (some ⟨b, off, none⟩) zs.length cap] 28)) := (Below.refl _ _).alloc (Nat.le_refl _) _
  have HG0 := Lib.hid (GBox.new (n := zs.length) (cap := cap) hb hc)
  have F0 := Lib.hid (FarI.start y hx (g4 x hx).2.1)
  have hx0 : (0 : Int) ≤ x := by omega
  have hxm : (x : Int) < 62 := by omega
  have hy0 : (0 : Int) ≤ y := by omega
  have hym : (y : Int) < 62 := by omega
  have hux : IntKind.u64.wrap (x : Int) = x := by rw [IntKind.wrap_u64]; omega
  have huy : IntKind.u64.wrap (y : Int) = y := by rw [IntKind.wrap_u64]; omega
  have hpw := pow_bounds x (by omega)
  have hwr := i64_pow (x : Int) (by omega)
  rw [Int.toNat_natCast] at hwr
  have ep : ((2 ^ x : Nat) : Int) = (2 : Int) ^ x := by simp
  have HEP := Lib.hid ep
  obtain ⟨Wb, hWb⟩ : ∃ Wb, Wb = w.alloc (.cells #[.int .i64 zs.length, .slice (some ⟨b, off, none⟩) zs.length cap] 28) := ⟨_, rfl⟩
  rw [← hWb] at D0 HG0
  have hb0 := HG0.out.b0
  have hb1 := HG0.out.b1
  clear hc hg g4 ep
  go_enter Tryd.func67, Tryd.ntmps67
  go_wp2_with fail
  rw [← hWb]
  clear hWb
  go_loopw [7, 8, 9] (fun m f d wr => ∃ mt fr dd : Nat, m = .int .i64 mt ∧ f = .int .i64 fr ∧ d = .int .i64 dd ∧ Hid (FarI zs x y mt fr dd) ∧ wr = Wb) (fun _ f d _ => min 1 (intOf f).toNat * (zs.length + 1 - (intOf d).toNat))
  case atStart => exact ⟨2 ^ x, 2 ^ x, 0, by rw [HEP.out], by rw [HEP.out], rfl, F0, rfl⟩
  case round =>
    clear F0 hpw hwr
    obtain ⟨mt, fr, dd, rfl, rfl, rfl, HF, rfl⟩ := hrel
    have hml := HF.out.mlt
    have hfl := HF.out.flt
    by_cases hf0 : fr = 0
    · subst hf0
      have HE := Lib.hid (HNO.out (HF.out.stop rfl))
      go_wp2
      go_ret
      exact ⟨by rw [HE.out]; rfl, D0⟩
    · have hfne : ((fr : Int) != 0) = true := by rw [bne_iff_ne]; omega
      have hfew := HF.out.few hf0
      have hbit := HF.out.bit hf0
      have hsh := shr_bit (fr : Int) y (by omega) (by omega)
      unfold bt at hsh
      rw [Int.toNat_natCast] at hsh
      cases hbt : fr.testBit y with
      | true =>
        rw [hbt] at hbit
        have HE := Lib.hid (HYE.out dd hbit.symm)
        rw [hbt] at hsh
        clear hbit hbt
        go_wp2
        go_ret
        exact ⟨by rw [HE.out]; rfl, D0⟩
      | false =>
        rw [hbt] at hsh
        have HN := Lib.hid (HF.out.next hf0 hbt hx h62 HZL.out)
        clear hbit hbt
        go_wp2
        obtain ⟨wo, rfl⟩ : ∃ wo : World, wo = wr := ⟨_, rfl⟩
        go_loopw [10, 11] (fun nx i wr => ∃ j : Nat, j ≤ zs.length ∧ i = .int .i64 j ∧ nx = .int .i64 (nxP zs fr j : Nat) ∧ wr = wo) (fun _ i _ => zs.length - (intOf i).toNat)
        case atStart => exact ⟨0, Nat.zero_le _, rfl, rfl, rfl⟩
        case round =>
          obtain ⟨j, hj, rfl, rfl, rfl⟩ := hrel
          have hnl := nxP_lt (fr := fr) HZL.out j hj
          by_cases hlt : (j : Int) < zs.length
          · have hjl : j < zs.length := by omega
            have hj0 : (0 : Int) ≤ j := by omega
            have hj62 : (j : Int) < 62 := by omega
            have huj : IntKind.u64.wrap (j : Int) = j := by rw [IntKind.wrap_u64]; omega
            have hsj := shr_bit (fr : Int) j (by omega) (by omega)
            unfold bt at hsj
            rw [Int.toNat_natCast] at hsj
            have hcz := HG0.out.cells j hjl
            obtain ⟨z, hzz⟩ : ∃ z : Nat, el zs j = (z : Int) := ⟨(el zs j).toNat, by have := (HZN.out j hjl).1; omega⟩
            have hzl := HZL.out j hjl
            rw [hzz] at hcz
            rw [hzz, Int.toNat_natCast] at hzl
            have hor := or_i64 (nxP zs fr j) z (by omega) (by omega)
            cases hbt : fr.testBit j with
            | true =>
              rw [hbt] at hsj
              have HSU : Hid (nxP zs fr (j + 1) = nxP zs fr j ||| z) := by show (if _ then _ else _) = _; rw [hbt, if_pos rfl, hzz, Int.toNat_natCast]
              clear hbt hzz
              generalize nxP zs fr j = N at *
              go_wp2
              go_roundw
              case rel => exact ⟨j + 1, by omega, by go_num, by rw [HSU.out], by first | rfl | trivial⟩
              case measure => simp [intOf]; omega
            | false =>
              rw [hbt] at hsj
              have HSU : Hid (nxP zs fr (j + 1) = nxP zs fr j) := by show (if _ then _ else _) = _; rw [hbt, if_neg (by simp)]
              clear hbt hzz
              generalize nxP zs fr j = N at *
              go_wp2
              go_roundw
              case rel => exact ⟨j + 1, by omega, by go_num, by rw [HSU.out], by first | rfl | trivial⟩
              case measure => simp [intOf]; omega
          · obtain rfl : j = zs.length := by omega
            generalize nxP zs fr zs.length = N at *
            have han := and_i64 N mt (by omega) (by omega)
            have hsb := sub_and N mt
            have hor := or_i64 mt N (by omega) (by omega)
            have hal := Nat.and_le_left (n := N) (m := mt)
            have hanl := anot_lt (b := mt) hnl
            go_wp2
            go_roundw
            case rel => exact ⟨mt ||| N, anot N mt, dd + 1, rfl, rfl, by go_num, HN, by first | rfl | trivial⟩
            case measure =>
              simp only [intOf]
              have h1 : min 1 ((fr : Int)).toNat = 1 := by omega
              have h2 : min 1 ((anot N mt : Nat) : Int).toNat ≤ 1 := Nat.min_le_left _ _
              rw [h1]
              exact Nat.lt_of_le_of_lt (Nat.mul_le_mul_right _ h2) (by omega)
end Go.Proofs.YtehpafbhejcbmaaDoor
