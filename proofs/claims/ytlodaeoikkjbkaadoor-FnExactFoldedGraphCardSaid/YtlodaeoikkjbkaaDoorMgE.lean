/-
  Several texts in one: Dm Dn.
-/
import Derived.Test.YtlodaeoikkjbkaaDoorRe
import Derived.Test.YtlodaeoikkjbkaaDoorRm
namespace Go.Proofs.YtlodaeoikkjbkaaDoor
set_option maxRecDepth 100000
open Go.RowKit

set_option maxRecDepth 100000 in
set_option maxHeartbeats 1600000 in
theorem reached_some (n : Int) (b off cap : Nat) (zs : List Int) (v : Nat) (w : World) (hb : b < w.heap.size) (hc : Cells w b off zs) (hT : Tab w) (hg : isG n zs = true) (hv : v < zs.length) :
    Calls Tryd.prog 86 #[.agg #[.int .i64 n, .slice (some ⟨b, off, none⟩) zs.length cap], .int .i64 v] w fun e w' => (∃ ev od : Nat, e = .returned (.tuple #[.int .i64 ev, .int .i64 od]) ∧ ev < 2 ^ zs.length ∧ od < 2 ^ zs.length ∧ ∀ w, w < zs.length → ((ev ||| od).testBit w = decide (0 ≤ dOf (Rw zs v 0) zs.length v w))) ∧ Below w.heap.size w w' := by
  obtain ⟨h1, h2, h3, h4, -⟩ := isG_parts hg
  have hl62 : zs.length ≤ 62 := by omega
  have hzn : ∀ i, i < zs.length → 0 ≤ el zs i ∧ (el zs i).toNat < 2 ^ zs.length := fun i hi => by
    have q0 := (isG_row_ok hg i hi).1
    have q1 := rowOk_le (rowsOk_at h4 hi)
    rw [← h3, Int.toNat_natCast] at q1
    have e : ((2 : Int) ^ zs.length) = ((2 ^ zs.length : Nat) : Int) := by simp
    rw [e] at q1
    omega
  have hp62 : 2 ^ zs.length ≤ 2 ^ 62 := Nat.pow_le_pow_right (by decide) hl62
  have HZ2 : Hid (∀ i, i < zs.length → 0 ≤ el zs i ∧ (el zs i).toNat < 2 ^ 62) := fun i hi => ⟨(hzn i hi).1, Nat.lt_of_lt_of_le (hzn i hi).2 hp62⟩
  have HZV : Hid (∀ i, i < zs.length → (el zs i).toNat < 2 ^ zs.length) := fun i hi => (hzn i hi).2
  have D0 : Below w.heap.size w (w.alloc (.cells #[.int .i64 n, .slice (some ⟨b, off, none⟩) zs.length cap] 28)) := (Below.refl _ _).alloc (Nat.le_refl _) _
  have HG0 := Lib.hid (GBox.new (n := n) (cap := cap) hb hc)
  have HT := Lib.hid (hT.belowAll D0)
  have hTl := hT.lt
  have hv0 : (0 : Int) ≤ v := by omega
  have hv62 : (v : Int) ≤ 61 := by omega
  obtain ⟨pv0, pv1⟩ := pow_bounds v (by omega)
  have e8 : (2 : Int) ^ v = ((2 ^ v : Nat) : Int) := by simp
  have HE8 := Lib.hid e8
  have HST := Lib.hid (RInv.start hv)
  clear hc hT hg h3 h4 hzn e8
  go_enter Tryd.func86, Tryd.ntmps86
  go_wp2
  go_loopw [6, 7] (fun e o wr => ∃ ev od : Nat, e = .int .i64 ev ∧ o = .int .i64 od ∧ Hid (RInv zs v ev od) ∧ Below (w.heap.size + 1) (w.alloc (.cells #[.int .i64 n, .slice (some ⟨b, off, none⟩) zs.length cap] 28)) wr) (fun e o _ => 18446744073709551616 - ((intOf e).toNat + (intOf o).toNat))
  case atStart => exact ⟨2 ^ v, 0, congrArg (Value.int .i64) HE8.out, rfl, HST, Below.refl _ _⟩
  case round =>
    clear pv0 pv1
    obtain ⟨ev, od, rfl, rfl, HI, hB⟩ := hrel
    have G1 := HG0.out.below hB
    have b0 := G1.b0
    have b1 := G1.b1
    have l1 := G1.lt
    have T1 := HT.out.below hB (by omega)
    have elt := HI.out.elt
    have olt := HI.out.olt
    have HN := Lib.hid (HI.out.next hv hl62 HZV.out)
    obtain ⟨mo, hmo⟩ : ∃ mo, mo = rOdd zs ev od := ⟨_, rfl⟩
    obtain ⟨me, hme⟩ : ∃ me, me = rEven zs ev od := ⟨_, rfl⟩
    have mlt : mo < 2 ^ zs.length := by rw [hmo]; exact HN.out.olt
    have melt : me < 2 ^ zs.length := by rw [hme]; exact HN.out.elt
    have hor1 : bits .or .i64 (od : Int) ((arN zs (mem ev) : Nat) : Int) = (mo : Int) := by
      rw [hmo]; exact or_i64 _ _ (by omega) (Nat.lt_of_lt_of_le (arN_lt zs _ HZV.out _) (by omega))
    have hor2 : bits .or .i64 (ev : Int) ((arN zs (mem mo) : Nat) : Int) = (me : Int) := by
      rw [hme, hmo]; exact or_i64 _ _ (by omega) (Nat.lt_of_lt_of_le (arN_lt zs _ HZV.out _) (by omega))
    have gro : od ≤ mo := by rw [hmo]; exact Nat.left_le_or
    have gre : ev ≤ me := by rw [hme]; exact Nat.left_le_or
    have HMO := Lib.hid hmo; have HME := Lib.hid hme
    clear hmo hme
    have ha1 := around_any n b off cap zs ev wr G1.lb G1.cells T1 hl62 elt HZ2.out
    go_wp2_with fail
    refine ha1.mono ?_
    rintro e w2 ⟨rfl, hb2⟩
    have B2 := hB.trans (hb2.mono l1)
    have G2 := HG0.out.below B2
    have b0 := G2.b0
    have b1 := G2.b1
    have l2 := G2.lt
    have T2 := HT.out.below B2 (by omega)
    have ha2 := around_any n b off cap zs mo w2 G2.lb G2.cells T2 hl62 mlt HZ2.out
    clear hb2 ha1 hB G1 T1
    go_wp2_with fail
    refine ha2.mono ?_
    rintro e w3 ⟨rfl, hb3⟩
    have B3 := Lib.hid (B2.trans (hb3.mono l2))
    clear hb3 ha2 B2 G2 T2 b0 b1
    by_cases he : me = ev
    · by_cases ho : mo = od
      · have t1 : ((me : Int) == (ev : Int)) = true := by rw [beq_iff_eq]; omega
        have t2 : ((mo : Int) == (od : Int)) = true := by rw [beq_iff_eq]; omega
        have HD := Lib.hid (HI.out.done hl62 (by rw [← HME.out]; exact he) (by rw [← HMO.out]; exact ho))
        clear he ho
        go_wp2
        go_ret2
        exact ⟨⟨ev, od, rfl, elt, olt, HD.out⟩, D0.trans (B3.out.mono (by simp))⟩
      · have t1 : ((me : Int) == (ev : Int)) = true := by rw [beq_iff_eq]; omega
        have t2 : ((mo : Int) == (od : Int)) = false := by rw [beq_eq_false_iff_ne]; omega
        have HN2 : Hid (RInv zs v me mo) := by have := HN.out; rw [← HMO.out, ← HME.out] at this; exact this
        clear HN
        go_wp2
        go_roundw
        case rel => exact ⟨me, mo, by rw [he], rfl, HN2, B3.out⟩
        case measure => simp [intOf]; omega
    · have t1 : ((me : Int) == (ev : Int)) = false := by rw [beq_eq_false_iff_ne]; omega
      have HN2 : Hid (RInv zs v me mo) := by have := HN.out; rw [← HMO.out, ← HME.out] at this; exact this
      clear HN
      go_wp2
      go_roundw
      case rel => exact ⟨me, mo, rfl, rfl, HN2, B3.out⟩
      case measure => simp [intOf]; omega

set_option maxHeartbeats 800000 in
theorem implConn_yes (n : Int) (b off cap : Nat) (zs : List Int) (w : World) (hb : b < w.heap.size) (hc : Cells w b off zs) (hg : isG n zs = true) (hl : zs.length ≤ 9223372036854775807) (hT : Tab w) :
    Calls Tryd.prog 81 #[.agg #[.int .i64 n, .slice (some ⟨b, off, none⟩) zs.length cap]] w fun e w' => e = .returned (.tuple #[.bool (connB zs), .int .i64 0]) ∧ Below w.heap.size w w' := by
  obtain ⟨h1, h2, h3, -, -⟩ := isG_parts hg
  have hl62 : zs.length ≤ 62 := by omega
  have D0 : Below w.heap.size w (w.alloc (.cells #[.int .i64 n, .slice (some ⟨b, off, none⟩) zs.length cap] 28)) := (Below.refl _ _).alloc (Nat.le_refl _) _
  have his := implIs_some n b off cap zs _ (Nat.lt_of_lt_of_le hb D0.size) (hc.below D0 hb) hl (hT.belowAll D0)
  rw [hg] at his
  have HG0 := Lib.hid (GBox.new (n := n) (cap := cap) hb hc)
  have HG := Lib.hid hg; have HT := Lib.hid (hT.belowAll D0)
  have hav := fun W => allV_any n W (by omega) (by omega)
  rw [← h3, Int.toNat_natCast, h3] at hav
  have e8 : (2 : Int) ^ zs.length = ((2 ^ zs.length : Nat) : Int) := by simp
  have hp := Nat.two_pow_pos zs.length
  have hp62 : 2 ^ zs.length ≤ 2 ^ 62 := Nat.pow_le_pow_right (by decide) hl62
  have HE8 := Lib.hid e8
  have hpz : 0 < zs.length := by omega
  clear hc hg hT h3 e8
  go_enter Tryd.func81, Tryd.ntmps81
  go_wp2_with (first | (go_at_call 41; with_reducible refine his.mono ?_; rintro e w1 ⟨rfl, hb1⟩; have G1 := HG0.out.below (hb1.mono (by simp)); have b0 := G1.b0; have b1 := G1.b1))
  have D1 := D0.trans (hb1.mono (by simp))
  have hre := reached_some n b off cap zs 0 w1 G1.lb G1.cells (HT.out.belowAll hb1) HG.out hpz
  rw [show ((0 : Nat) : Int) = 0 from rfl] at hre
  have l1 := G1.lt
  clear his
  refine hre.mono ?_
  rintro e w2 ⟨⟨ev, od, rfl, elt, olt, hbits⟩, hb2⟩
  have B2 := (hb1.mono (by simp : w.heap.size + 1 ≤ (w.alloc (.cells #[.int .i64 n, .slice (some ⟨b, off, none⟩) zs.length cap] 28)).heap.size)).trans (hb2.mono l1)
  have G2 := HG0.out.below B2
  have b0 := G2.b0
  have b1 := G2.b1
  have D2 := D1.trans (hb2.mono D1.size)
  have hor : bits .or .i64 (ev : Int) (od : Int) = ((ev ||| od : Nat) : Int) := or_i64 _ _ (by omega) (by omega)
  have HF : Hid (decide ((((ev ||| od : Nat) : Int)) = 2 ^ zs.length - 1) = connB zs) := by
    show decide _ = _
    rw [Bool.eq_iff_iff, decide_eq_true_iff, ← conn_iff (Nat.or_lt_two_pow elt olt) hbits, HE8.out]
    omega
  have HF2 : Hid (((((ev ||| od : Nat) : Int)) == 2 ^ zs.length - 1) = connB zs) := by
    show _ = _
    rw [← HF.out]; rfl
  clear hb1 hb2 hre G1 G2 hbits B2
  go_wp2_with (first | (go_at_call 64; with_reducible refine (hav _).mono ?_; rintro e w3 ⟨rfl, rfl⟩))
  go_ret2
  exact ⟨by first | rw [HF2.out]; rfl | (simp only [hor]; rw [HF2.out]; rfl), D2⟩

set_option maxHeartbeats 400000 in
theorem implConn_no (n : Int) (v : Value) (zs : List Int) (w : World) (h : Sl w v zs) (hg : isG n zs = false) (hl : zs.length ≤ 9223372036854775807) (hT : Tab w) :
    Calls Tryd.prog 81 #[.agg #[.int .i64 n, v]] w fun e w' => e = .returned (.tuple #[.bool false, .int .i64 1]) ∧ Below w.heap.size w w' := by
  have D0 : Below w.heap.size w (w.alloc (.cells #[.int .i64 n, v] 28)) := (Below.refl _ _).alloc (Nat.le_refl _) _
  have his := implIs_any n v zs _ (h.below D0) hl (hT.belowAll D0)
  rw [hg] at his
  clear hg h hT
  go_enter Tryd.func81, Tryd.ntmps81
  go_wp2_with (go_at_call 41; refine his.mono ?_; rintro e w1 ⟨rfl, hb1⟩)
  go_ret2
  exact ⟨rfl, D0.trans (hb1.mono (by simp))⟩
end Go.Proofs.YtlodaeoikkjbkaaDoor
namespace Go.Proofs.YtlodaeoikkjbkaaDoor
set_option maxRecDepth 100000
open Go.RowKit

/-- The greatest and the least reach, and the code. -/
def dmD (n : Int) (zs : List Int) : Int := if isG n zs then (if connB zs then mxF (rcF zs zs.length) zs.length else 0) else 0
def dmR (n : Int) (zs : List Int) : Int := if isG n zs then (if connB zs then mnF (rcF zs zs.length) zs.length else 0) else 0
def dmC (n : Int) (zs : List Int) : Int := if isG n zs then (if connB zs then 0 else 5) else 1
theorem conn_no {zs : List Int} {k : Nat} (hk : k < zs.length) (h : el (dsL zs 0) k < 0) : connB zs = false := by
  cases hc : connB zs with
  | false => rfl
  | true =>
    unfold connB at hc
    rw [List.all_eq_true] at hc
    have := hc k (List.mem_range.2 hk)
    simp at this; omega
theorem conn_yes {zs : List Int} (h : ∀ k, k < zs.length → 0 ≤ el (dsL zs 0) k) : connB zs = true := by
  unfold connB
  rw [List.all_eq_true]
  intro k hk
  simpa using h k (List.mem_range.1 hk)

set_option maxHeartbeats 800000 in
theorem conn2_some (n : Int) (b off cap : Nat) (zs : List Int) (w : World) (hb : b < w.heap.size) (hc : Cells w b off zs) (hg : isG n zs = true) :
    Calls Tryd.prog 73 #[.agg #[.int .i64 n, .slice (some ⟨b, off, none⟩) zs.length cap]] w fun e w' => e = .returned (.bool (connB zs)) ∧ Below w.heap.size w w' := by
  obtain ⟨p1, p2, p3, -, -⟩ := isG_parts hg
  have hm62 : zs.length ≤ 62 := by omega
  have D0 : Below w.heap.size w (w.alloc (.cells #[.int .i64 n, .slice (some ⟨b, off, none⟩) zs.length cap] 28)) := (Below.refl _ _).alloc (Nat.le_refl _) _
  have hfr := from_n n b off cap zs 0 (w.alloc (.cells #[.int .i64 n, .slice (some ⟨b, off, none⟩) zs.length cap] 28)) (Nat.lt_of_lt_of_le hb D0.size) (hc.below D0 hb) hg (by omega)
  rw [show ((0 : Nat) : Int) = 0 from rfl] at hfr
  have hpz : 0 < zs.length := by omega
  clear hc hg p3
  go_enter Tryd.func73, Tryd.ntmps73
  go_wp2_with fail
  refine hfr.mono ?_
  rintro e w1 ⟨ud, rfl, hO1, hb1⟩
  have E1 := Lib.hid (D0.trans (hb1.mono (by simp)))
  obtain ⟨gd, cd, rfl⟩ : ∃ gd cd, ud = .slice (some ⟨gd, 0, none⟩) zs.length cd := by
    rcases hO1.form with ⟨_, h0⟩ | ⟨gd, cd, h1, h2, h3⟩
    · have h4 := congrArg List.length h0
      rw [dsL_length, List.length_nil] at h4
      omega
    · rw [dsL_length] at h1
      exact ⟨gd, cd, h1⟩
  have HCD : Hid (∀ k, k < zs.length → w1.cell? ⟨gd, k, none⟩ = some (.int .i64 (el (dsL zs 0) k))) := fun k hk => by
    have h := hO1
    unfold Own at h; rw [dsL_length] at h
    exact (World.ownsRow.cellAt h k (by omega)).trans (map_at _ k (by rw [dsL_length]; omega))
  clear hb1 hfr hO1
  go_wp2
  go_loop [4] (fun i => ∃ k : Nat, k ≤ zs.length ∧ i = .int .i64 k ∧ Hid (∀ j, j < k → 0 ≤ el (dsL zs 0) j)) (fun i => zs.length - (intOf i).toNat)
  case atStart => exact ⟨0, Nat.zero_le _, rfl, fun j hj => absurd hj (by omega)⟩
  case round =>
    obtain ⟨k, hk, rfl, HA⟩ := hrel
    by_cases hlt : (k : Int) < zs.length
    · have hkl : k < zs.length := by omega
      have hk0 : (0 : Int) ≤ k := by omega
      have hcell := HCD.out k hkl
      obtain ⟨d, hd⟩ : ∃ d, d = el (dsL zs 0) k := ⟨_, rfl⟩
      rw [← hd] at hcell
      by_cases hneg : d < 0
      · have HR := Lib.hid (conn_no hkl (by rw [← hd]; exact hneg))
        clear hd
        go_wp2
        go_ret
        exact ⟨ret_bool HR.out.symm, E1.out⟩
      · have HA2 : Hid (∀ j, j < k + 1 → 0 ≤ el (dsL zs 0) j) := fun j hj => by
          rcases Nat.lt_or_ge j k with h | h
          · exact HA.out j h
          · obtain rfl : j = k := by omega
            rw [← hd]; omega
        clear hd HA
        go_wp2
        go_round
        case rel => exact ⟨k + 1, by omega, by go_num, HA2⟩
        case measure => simp [intOf]; omega
    · have hkl : k = zs.length := by omega
      have HR := Lib.hid (conn_yes (fun j hj => HA.out j (by omega)))
      go_wp2
      go_ret
      exact ⟨ret_bool HR.out.symm, E1.out⟩

set_option maxHeartbeats 800000 in
theorem max_some (g cap : Nat) (L : List Int) (w : World) (hp : 0 < L.length) (hl : L.length ≤ 9223372036854775807) (hc : ∀ j, j < L.length → w.cell? ⟨g, j, none⟩ = some (.int .i64 (el L j))) :
    Calls Tryd.prog 83 #[.slice (some ⟨g, 0, none⟩) L.length cap] w fun e w' => e = .returned (.int .i64 (mxF L L.length)) ∧ w = w' := by
  have h0 := hc 0 hp
  have HC := Lib.hid hc
  have hp1 : (1 : Int) ≤ L.length := by omega
  clear hc
  go_enter Tryd.func83, Tryd.ntmps83
  go_wp2
  clear h0
  go_loop [3, 4] (fun m i => ∃ k : Nat, 1 ≤ k ∧ k ≤ L.length ∧ i = .int .i64 k ∧ m = .int .i64 (mxF L k)) (fun _ i => L.length - (intOf i).toNat)
  case atStart => exact ⟨1, Nat.le_refl _, hp, rfl, by rw [mxF_one]⟩
  case round =>
    obtain ⟨k, hk1, hk, rfl, rfl⟩ := hrel
    obtain ⟨a, ha⟩ : ∃ a, a = mxF L k := ⟨_, rfl⟩
    rw [← ha]
    by_cases hlt : (k : Int) < L.length
    · have hkl : k < L.length := by omega
      have hk0 : (0 : Int) ≤ k := by omega
      obtain ⟨z, hz⟩ : ∃ z, z = el L k := ⟨_, rfl⟩
      have hcell : w.cell? ⟨g, k, none⟩ = some (.int .i64 z) := by rw [hz]; exact HC.out k hkl
      have HN : Hid (mxF L (k + 1) = max a z) := by show mxF L (k + 1) = _; rw [ha, hz]; rfl
      clear ha hz
      go_wp2
      all_goals go_round
      all_goals first
        | exact ⟨k + 1, by omega, by omega, by go_num, congrArg (Value.int .i64) (by rw [HN.out]; omega)⟩
        | exact ⟨k + 1, by omega, by omega, by go_num, congrArg (Value.int .i64) (by rw [HN.out]; split <;> omega)⟩
        | (simp [intOf]; omega)
    · have hkl : k = L.length := by omega
      subst hkl
      go_wp2
      go_ret
      first | exact ⟨rfl, rfl⟩ | exact ⟨ret_int ha, rfl⟩

set_option maxHeartbeats 800000 in
theorem min_some (g cap : Nat) (L : List Int) (w : World) (hp : 0 < L.length) (hl : L.length ≤ 9223372036854775807) (hc : ∀ j, j < L.length → w.cell? ⟨g, j, none⟩ = some (.int .i64 (el L j))) :
    Calls Tryd.prog 84 #[.slice (some ⟨g, 0, none⟩) L.length cap] w fun e w' => e = .returned (.int .i64 (mnF L L.length)) ∧ w = w' := by
  have h0 := hc 0 hp
  have HC := Lib.hid hc
  have hp1 : (1 : Int) ≤ L.length := by omega
  clear hc
  go_enter Tryd.func84, Tryd.ntmps84
  go_wp2
  clear h0
  go_loop [3, 4] (fun m i => ∃ k : Nat, 1 ≤ k ∧ k ≤ L.length ∧ i = .int .i64 k ∧ m = .int .i64 (mnF L k)) (fun _ i => L.length - (intOf i).toNat)
  case atStart => exact ⟨1, Nat.le_refl _, hp, rfl, by rw [mnF_one]⟩
  case round =>
    obtain ⟨k, hk1, hk, rfl, rfl⟩ := hrel
    obtain ⟨a, ha⟩ : ∃ a, a = mnF L k := ⟨_, rfl⟩
    rw [← ha]
    by_cases hlt : (k : Int) < L.length
    · have hkl : k < L.length := by omega
      have hk0 : (0 : Int) ≤ k := by omega
      obtain ⟨z, hz⟩ : ∃ z, z = el L k := ⟨_, rfl⟩
      have hcell : w.cell? ⟨g, k, none⟩ = some (.int .i64 z) := by rw [hz]; exact HC.out k hkl
      have HN : Hid (mnF L (k + 1) = min a z) := by show mnF L (k + 1) = _; rw [ha, hz]; rfl
      clear ha hz
      go_wp2
      all_goals go_round
      all_goals first
        | exact ⟨k + 1, by omega, by omega, by go_num, congrArg (Value.int .i64) (by rw [HN.out]; omega)⟩
        | exact ⟨k + 1, by omega, by omega, by go_num, congrArg (Value.int .i64) (by rw [HN.out]; split <;> omega)⟩
        | (simp [intOf]; omega)
    · have hkl : k = L.length := by omega
      subst hkl
      go_wp2
      go_ret
      first | exact ⟨rfl, rfl⟩ | exact ⟨ret_int ha, rfl⟩

set_option maxHeartbeats 1600000 in
theorem diam2_some (n : Int) (b off cap : Nat) (zs : List Int) (w : World) (hb : b < w.heap.size) (hc : Cells w b off zs) (hg : isG n zs = true) :
    Calls Tryd.prog 56 #[.agg #[.int .i64 n, .slice (some ⟨b, off, none⟩) zs.length cap]] w fun e w' => e = .returned (.tuple #[.int .i64 (mxF (rcF zs zs.length) zs.length), .int .i64 (mnF (rcF zs zs.length) zs.length)]) ∧ Below w.heap.size w w' := by
  obtain ⟨p1, p2, p3, -, -⟩ := isG_parts hg
  have hm62 : zs.length ≤ 62 := by omega
  have D0 : Below w.heap.size w (w.alloc (.cells #[.int .i64 n, .slice (some ⟨b, off, none⟩) zs.length cap] 28)) := (Below.refl _ _).alloc (Nat.le_refl _) _
  have hfr := l02Rc_some n b off cap zs (w.alloc (.cells #[.int .i64 n, .slice (some ⟨b, off, none⟩) zs.length cap] 28)) (Nat.lt_of_lt_of_le hb D0.size) (hc.below D0 hb) hg
  clear hc hg
  go_enter Tryd.func56, Tryd.ntmps56
  go_wp2_with fail
  refine hfr.mono ?_
  rintro e w1 ⟨ud, rfl, hO1, hb1⟩
  have E1 := Lib.hid (D0.trans (hb1.mono (by simp)))
  obtain ⟨gd, cd, rfl⟩ : ∃ gd cd, ud = .slice (some ⟨gd, 0, none⟩) zs.length cd := by
    rcases hO1.form with ⟨_, h0⟩ | ⟨gd, cd, h1, h2, h3⟩
    · have h4 := congrArg List.length h0
      rw [rcF_length, List.length_nil] at h4
      omega
    · rw [rcF_length] at h1
      exact ⟨gd, cd, h1⟩
  obtain ⟨L, hL⟩ : ∃ L, L = rcF zs zs.length := ⟨_, rfl⟩
  have HLL := Lib.hid hL
  have HCD : Hid (∀ W, Below w1.heap.size w1 W → ∀ k, k < zs.length → W.cell? ⟨gd, k, none⟩ = some (.int .i64 (el L k))) := fun W hW k hk => by
    have h := hO1.below hW
    unfold Own at h; rw [rcF_length] at h
    rw [hL]
    exact (World.ownsRow.cellAt h k (by omega)).trans (map_at _ k (by rw [rcF_length]; omega))
  have hc0 := HCD.out w1 (Below.refl _ _) 0 (by omega)
  have hp0 : (0 : Int) < zs.length := by omega
  clear hb1 hfr hO1 hL p3
  go_wp2
  go_quiet (fail)
  go_wp2
  go_loopw [5, 6, 7] (fun a c i wr => ∃ k : Nat, 1 ≤ k ∧ k ≤ zs.length ∧ i = .int .i64 k ∧ a = .int .i64 (mxF L k) ∧ c = .int .i64 (mnF L k) ∧ Below w1.heap.size w1 wr) (fun _ _ i _ => zs.length - (intOf i).toNat)
  case atStart => exact ⟨1, Nat.le_refl _, by omega, rfl, by rw [mxF_one], by rw [mnF_one], drewN_below (Below.refl _ _) _⟩
  case round =>
    clear hc0
    obtain ⟨k, hk1, hk, rfl, rfl, rfl, hB⟩ := hrel
    obtain ⟨a, ha⟩ : ∃ a, a = mxF L k := ⟨_, rfl⟩
    obtain ⟨c, hc⟩ : ∃ c, c = mnF L k := ⟨_, rfl⟩
    rw [← ha, ← hc]
    by_cases hlt : (k : Int) < zs.length
    · have hkl : k < zs.length := by omega
      have hk0 : (0 : Int) ≤ k := by omega
      obtain ⟨z, hz⟩ : ∃ z, z = el L k := ⟨_, rfl⟩
      have hcell : wr.cell? ⟨gd, k, none⟩ = some (.int .i64 z) := by rw [hz]; exact HCD.out wr hB k hkl
      have HN1 : Hid (mxF L (k + 1) = max a z) := by show mxF L (k + 1) = _; rw [ha, hz]; rfl
      have HN2 : Hid (mnF L (k + 1) = min c z) := by show mnF L (k + 1) = _; rw [hc, hz]; rfl
      have HBB := Lib.hid hB
      clear ha hz hc hB
      go_wp2
      all_goals go_roundw
      all_goals first
        | exact ⟨k + 1, by omega, by omega, by go_num, congrArg (Value.int .i64) (by rw [HN1.out]; omega), congrArg (Value.int .i64) (by rw [HN2.out]; omega), HBB.out⟩
        | exact ⟨k + 1, by omega, by omega, by go_num, congrArg (Value.int .i64) (by rw [HN1.out]; split <;> omega), congrArg (Value.int .i64) (by rw [HN2.out]; split <;> omega), HBB.out⟩
        | (simp [intOf]; omega)
    · have hkl : k = zs.length := by omega
      subst hkl
      have EF := E1.out.trans (hB.mono E1.out.size)
      have HA := Lib.hid ha; have HCC := Lib.hid hc
      clear ha hc
      go_wp2
      go_ret2
      exact ⟨by rw [← HLL.out, ← HA.out, ← HCC.out]; rfl, EF⟩

set_option maxHeartbeats 1600000 in
theorem implDm_yes (n : Int) (b off cap : Nat) (zs : List Int) (w : World) (hb : b < w.heap.size) (hc : Cells w b off zs) (hg : isG n zs = true) (hl : zs.length ≤ 9223372036854775807) (hT : Tab w) :
    Calls Tryd.prog 74 #[.agg #[.int .i64 n, .slice (some ⟨b, off, none⟩) zs.length cap]] w fun e w' => e = .returned (.tuple #[.int .i64 (dmD n zs), .int .i64 (dmR n zs), .int .i64 (dmC n zs)]) ∧ Below w.heap.size w w' := by
  have D0 : Below w.heap.size w (w.alloc (.cells #[.int .i64 n, .slice (some ⟨b, off, none⟩) zs.length cap] 28)) := (Below.refl _ _).alloc (Nat.le_refl _) _
  have hco := implConn_yes n b off cap zs (w.alloc (.cells #[.int .i64 n, .slice (some ⟨b, off, none⟩) zs.length cap] 28)) (Nat.lt_of_lt_of_le hb D0.size) (hc.below D0 hb) hg hl (hT.belowAll D0)
  have HG0 := Lib.hid (GBox.new (n := n) (cap := cap) hb hc)
  have HG := Lib.hid hg
  have HT := Lib.hid (hT.belowAll D0)
  have hpz : 0 < zs.length := by have := isG_parts hg; omega
  cases hcn : connB zs with
  | false =>
    rw [hcn] at hco
    have e1 : Hid (dmD n zs = 0 ∧ dmR n zs = 0 ∧ dmC n zs = 5) := by show _ ∧ _ ∧ _; simp [dmD, dmR, dmC, hg, hcn]
    clear hg hc hcn hT
    go_enter Tryd.func74, Tryd.ntmps74
    go_wp2_with (first | (go_at_call 81; with_reducible refine hco.mono ?_; rintro e w1 ⟨rfl, hb1⟩; have D1 := D0.trans (hb1.mono (by simp))))
    refine bodyPost_ret (results_tmp3 rfl _ _ _) rfl ⟨by rw [e1.out.1, e1.out.2.1, e1.out.2.2]; rfl, D1⟩
  | true =>
    rw [hcn] at hco
    have e1 : Hid (dmD n zs = mxF (rcF zs zs.length) zs.length ∧ dmR n zs = mnF (rcF zs zs.length) zs.length ∧ dmC n zs = 0) := by show _ ∧ _ ∧ _; simp [dmD, dmR, dmC, hg, hcn]
    clear hg hc hcn hT
    go_enter Tryd.func74, Tryd.ntmps74
    go_wp2_with (first | (go_at_call 81; with_reducible refine hco.mono ?_; rintro e w1 ⟨rfl, hb1⟩; have D1 := D0.trans (hb1.mono (by simp)); have G1 := HG0.out.below (hb1.mono (by simp)); have b0 := G1.b0; have b1 := G1.b1))
    have hrc := implRc_yes n b off cap zs w1 G1.lb G1.cells HG.out hl (HT.out.belowAll hb1)
    clear hb1 hco
    refine hrc.mono ?_
    rintro e w2 ⟨⟨ud, rfl, hO1⟩, hb2⟩
    have D2 := Lib.hid (D1.trans (hb2.mono D1.size))
    obtain ⟨gd, cd, rfl⟩ : ∃ gd cd, ud = .slice (some ⟨gd, 0, none⟩) (rcF zs zs.length).length cd := by
      rcases hO1.form with ⟨_, h0⟩ | ⟨gd, cd, h1, h2, h3⟩
      · have h4 := congrArg List.length h0
        rw [rcF_length, List.length_nil] at h4
        omega
      · exact ⟨gd, cd, h1⟩
    have hcell : ∀ k, k < (rcF zs zs.length).length → w2.cell? ⟨gd, k, none⟩ = some (.int .i64 (el (rcF zs zs.length) k)) := fun k hk =>
      (World.ownsRow.cellAt hO1 k (by omega)).trans (map_at _ k (by omega))
    have hmx := max_some gd cd (rcF zs zs.length) w2 (by rw [rcF_length]; exact hpz) (by rw [rcF_length]; exact hl) hcell
    have hmn := min_some gd cd (rcF zs zs.length) w2 (by rw [rcF_length]; exact hpz) (by rw [rcF_length]; exact hl) hcell
    have E2 : Hid (dmD n zs = mxF (rcF zs zs.length) (rcF zs zs.length).length ∧ dmR n zs = mnF (rcF zs zs.length) (rcF zs zs.length).length ∧ dmC n zs = 0) := by show _ ∧ _ ∧ _; rw [rcF_length]; exact e1.out
    obtain ⟨L, hL⟩ : ∃ L, L = rcF zs zs.length := ⟨_, rfl⟩
    rw [← hL] at hmx hmn E2 ⊢
    clear hb2 hrc hO1 hcell hL D1 G1 b0 b1 e1
    go_wp2_with (first | (go_at_call 83; with_reducible refine hmx.mono ?_; rintro e w3 ⟨rfl, rfl⟩) | (go_at_call 84; with_reducible refine hmn.mono ?_; rintro e w4 ⟨rfl, rfl⟩))
    refine bodyPost_ret (results_tmp3 rfl _ _ _) rfl ⟨by rw [E2.out.1, E2.out.2.1, E2.out.2.2]; rfl, D2.out⟩
set_option maxHeartbeats 400000 in
theorem implDm_no (n : Int) (v : Value) (zs : List Int) (w : World) (h : Sl w v zs) (hg : isG n zs = false) (hl : zs.length ≤ 9223372036854775807) (hT : Tab w) :
    Calls Tryd.prog 74 #[.agg #[.int .i64 n, v]] w fun e w' => e = .returned (.tuple #[.int .i64 0, .int .i64 0, .int .i64 1]) ∧ Below w.heap.size w w' := by
  have D0 : Below w.heap.size w (w.alloc (.cells #[.int .i64 n, v] 28)) := (Below.refl _ _).alloc (Nat.le_refl _) _
  have his := implConn_no n v zs _ (h.below D0) hg hl (hT.belowAll D0)
  clear hg h hT
  go_enter Tryd.func74, Tryd.ntmps74
  go_wp2_with (go_at_call 81; refine his.mono ?_; rintro e w1 ⟨rfl, hb1⟩)
  refine bodyPost_ret (results_tmp3 rfl _ _ _) rfl ⟨rfl, D0.trans (hb1.mono (by simp))⟩
theorem implDm_any (n : Int) (v : Value) (zs : List Int) (w : World) (h : Sl w v zs) (hl : zs.length ≤ 9223372036854775807) (hT : Tab w) :
    Calls Tryd.prog 74 #[.agg #[.int .i64 n, v]] w fun e w' => e = .returned (.tuple #[.int .i64 (dmD n zs), .int .i64 (dmR n zs), .int .i64 (dmC n zs)]) ∧ Below w.heap.size w w' := by
  cases hg : isG n zs
  · rw [show dmD n zs = 0 by simp [dmD, hg], show dmR n zs = 0 by simp [dmR, hg], show dmC n zs = 1 by simp [dmC, hg]]
    exact implDm_no n v zs w h hg hl hT
  · obtain ⟨b, off, cap, rfl, hb, hc⟩ := sl_some h (by have := (isG_parts hg).2.2.1; have := (isG_parts hg).1; omega)
    exact implDm_yes n b off cap zs w hb hc hg hl hT
end Go.Proofs.YtlodaeoikkjbkaaDoor
