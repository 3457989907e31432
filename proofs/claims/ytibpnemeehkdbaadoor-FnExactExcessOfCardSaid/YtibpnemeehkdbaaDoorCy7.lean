/-
  impl.levelWith, impl.cycleThrough, spec.l07Far: the distance without an edge.
-/
import Derived.Test.YtibpnemeehkdbaaDoorLv1
import Derived.Test.YtibpnemeehkdbaaDoorLm
namespace Go.Proofs.YtibpnemeehkdbaaDoor
set_option maxRecDepth 100000
set_option maxRecDepth 100000
open Go.RowKit

theorem hasM_any (r : Nat) (b : Nat) (w : World) (hr : (r : Int) ≤ 9223372036854775807) (hb : b < 62) :
    Calls Tryd.prog 69 #[.int .i64 r, .int .i64 b] w fun e w' => e = .returned (.bool (r.testBit b)) ∧ w = w' := by
  have HS : Hid ((bits .and .i64 ((r : Int) / 2 ^ b) 1 == 1) = r.testBit b) := by
    have := shr_bit (r : Int) b (by omega) hr
    unfold bt at this
    rw [Int.toNat_natCast] at this
    exact this
  have hb0 : (0 : Int) ≤ b := by omega
  have hb1 : (b : Int) < 62 := by omega
  have hr0 : (0 : Int) ≤ r := by omega
  go_enter Tryd.func69, Tryd.ntmps69
  go_wp2
  go_ret
  exact ⟨congrArg (fun x => Ending.returned (Value.bool x)) HS.out, rfl⟩

theorem natsV_at7 {ls : List Nat} {k r : Nat} (h : ls[k]? = some r) : (natsV ls)[k]? = some (.int .i64 (r : Int)) := by unfold natsV; simp [h]
theorem lev_far {R : Nat → Nat → Bool} {n v m : Nat} (h : ∀ w, lev R n v m w = false) : ∀ k w, lev R n v (m + k) w = false
  | 0, w => h w
  | k + 1, w => by
    cases hl : lev R n v (m + k + 1) w with
    | false => rw [← hl]
    | true =>
      obtain ⟨_, _, x, _, hx, _⟩ := lev_succ_iff.1 hl
      rw [lev_far h k x] at hx; cases hx
theorem lev_out {R : Nat → Nat → Bool} {n v m : Nat} (h : ∀ w, lev R n v m w = false) {d w : Nat} (hd : m ≤ d) : lev R n v d w = false := by
  have := lev_far h (d - m) w
  rw [show m + (d - m) = d by omega] at this; exact this
theorem dOf_bd {R : Nat → Nat → Bool} {n v w : Nat} (hv : v < n) : -1 ≤ dOf R n v w ∧ dOf R n v w < n := by
  by_cases h : ∃ d, lev R n v d w = true
  · obtain ⟨d, hd⟩ := h
    have h1 := lev_few hv hd
    rw [dOf_lev hv hd]; omega
  · rw [dOf_none fun d => by
      cases hl : lev R n v d w with
      | false => rfl
      | true => exact absurd ⟨d, hl⟩ h]
    omega

/-- The distance from a to v without the edges from a to those of the row wo. -/
def cyD (zs : List Int) (a wo v : Nat) : Int := dOf (Rw zs a wo) zs.length a v
/-- The least length of a cycle with the edge of a and b. -/
def cyc (zs : List Int) (a b : Nat) : Int := if 0 ≤ cyD zs a (2 ^ b) b then cyD zs a (2 ^ b) b + 1 else 63

set_option maxHeartbeats 1600000 in
theorem levelWith_some (zs : List Int) (a wo v gl capl B : Nat) (ls : List Nat) (w : World) (hown : w.ownsRow B 2 1 (.slice (some ⟨gl, 0, none⟩) ls.length capl) ls.length (natsV ls)) (hok : LvOk zs a wo ls) (ha : a < zs.length) (h62 : zs.length ≤ 62) (hv : v < zs.length) :
    Calls Tryd.prog 65 #[.slice (some ⟨gl, 0, none⟩) ls.length capl, .int .i64 v] w fun e w' => e = .returned (.tuple #[.int .i64 (if 0 ≤ cyD zs a wo v then cyD zs a wo v else 0), .bool (decide (0 ≤ cyD zs a wo v))]) ∧ w = w' := by
  have HOWN := Lib.hid hown; have HOK := Lib.hid hok
  have hlen := hok.len
  have hp62 : 2 ^ zs.length ≤ 2 ^ 62 := Nat.pow_le_pow_right (by decide) h62
  have HNO : Hid ((∀ j, j < ls.length → lev (Rw zs a wo) zs.length a j v = false) → cyD zs a wo v = -1) := fun h => dOf_none fun d => by
    by_cases hd : d < ls.length
    · exact h d hd
    · exact lev_out HOK.out.last (by omega)
  have HYE : Hid (∀ d, lev (Rw zs a wo) zs.length a d v = true → cyD zs a wo v = d) := fun d h => dOf_lev ha h
  generalize cyD zs a wo v = D at HNO HYE ⊢
  obtain ⟨d1, hd1⟩ : ∃ d1, d1 = if 0 ≤ D then D else 0 := ⟨_, rfl⟩
  obtain ⟨d2, hd2⟩ : ∃ d2, d2 = decide (0 ≤ D) := ⟨_, rfl⟩
  rw [← hd1, ← hd2]
  have HD1 := Lib.hid hd1; have HD2 := Lib.hid hd2
  clear hown hok hd1 hd2
  go_enter Tryd.func65, Tryd.ntmps65
  go_wp2
  go_loopw [6, 7, 10] (fun _ _ i wr => ∃ k : Nat, k ≤ ls.length ∧ i = .int .i64 k ∧ Hid (∀ j, j < k → lev (Rw zs a wo) zs.length a j v = false) ∧ wr = w) (fun _ _ i _ => ls.length - (intOf i).toNat)
  case atStart => exact ⟨0, Nat.zero_le _, rfl, fun j h => absurd h (Nat.not_lt_zero _), rfl⟩
  case round =>
    obtain ⟨k, hk, rfl, HL, rfl⟩ := hrel
    by_cases hlt : (k : Int) < ls.length
    · have hkl : k < ls.length := by omega
      have hk0 : (0 : Int) ≤ k := by omega
      obtain ⟨r, hr⟩ : ∃ r, ls[k]? = some r := ⟨_, List.getElem?_eq_getElem hkl⟩
      have hcl := (World.ownsRow.cellAt HOWN.out k (by omega)).trans (natsV_at7 hr)
      obtain ⟨hr1, hr2⟩ := HOK.out.bit k r hr
      have HM := Lib.hid (fun W => hasM_any r v W (by omega) (by omega))
      have HBT := Lib.hid (hr2 v)
      clear hr hr2
      cases hbt : lev (Rw zs a wo) zs.length a k v with
      | true =>
        have HM2 : Hid (∀ W, Calls Tryd.prog 69 #[.int .i64 r, .int .i64 v] W fun e w' => e = .returned (.bool true) ∧ W = w') := fun W => by
          have h := HM.out W; rw [HBT.out, hbt] at h; exact h
        have HE := Lib.hid (HYE.out k hbt)
        clear hbt
        go_wp2_with (go_at_call 69; refine (HM2.out _).mono ?_; rintro e w' ⟨rfl, rfl⟩)
        go_ret2
        refine ⟨?_, by first | rfl | trivial⟩
        rw [HD1.out, HD2.out, HE.out, if_pos (by omega), decide_eq_true (by omega)]
        try rfl
      | false =>
        have HM2 : Hid (∀ W, Calls Tryd.prog 69 #[.int .i64 r, .int .i64 v] W fun e w' => e = .returned (.bool false) ∧ W = w') := fun W => by
          have h := HM.out W; rw [HBT.out, hbt] at h; exact h
        have HL2 : Hid (∀ j, j < k + 1 → lev (Rw zs a wo) zs.length a j v = false) := fun j hj => by
          by_cases e : j = k
          · rw [e]; exact hbt
          · exact HL.out j (by omega)
        clear hbt
        go_wp2_with (go_at_call 69; refine (HM2.out _).mono ?_; rintro e w' ⟨rfl, rfl⟩)
        go_roundw
        case rel => exact ⟨k + 1, by omega, by go_num, HL2, by first | rfl | trivial⟩
        case measure => simp [intOf]; omega
    · have hkl : k = ls.length := by omega
      subst hkl
      have HE := Lib.hid (HNO.out HL.out)
      go_wp2
      go_ret2
      refine ⟨?_, by first | rfl | trivial⟩
      rw [HD1.out, HD2.out, HE.out]; rfl

theorem levelRows_form (b off cap : Nat) (zs : List Int) (v wo : Nat) (w : World) (hb : b < w.heap.size) (hc : Cells w b off zs) (hT : Tab w) (hg : isG zs.length zs = true) (hv : v < zs.length) :
    Calls Tryd.prog 66 #[.agg #[.int .i64 zs.length, .slice (some ⟨b, off, none⟩) zs.length cap], .int .i64 v, .int .i64 wo] w fun e w' => ∃ (ls : List Nat) (gl capl : Nat), e = .returned (.slice (some ⟨gl, 0, none⟩) ls.length capl) ∧ w'.ownsRow w.heap.size 2 1 (.slice (some ⟨gl, 0, none⟩) ls.length capl) ls.length (natsV ls) ∧ LvOk zs v wo ls ∧ Below w.heap.size w w' := by
  refine (levelRows_some zs.length b off cap zs v wo w hb hc hT hg hv).mono ?_
  rintro e w' ⟨⟨u, ls, rfl, hown, hok⟩, hbw⟩
  have hpos : 0 < ls.length := by
    refine Nat.pos_of_ne_zero fun e => ?_
    have h := hok.last v
    rw [e, lev_zero] at h
    simp at h
  rcases hown.2 with ⟨_, h0⟩ | ⟨g, cp, cur, rfl, _⟩
  · omega
  · exact ⟨ls, g, cp, rfl, hown, hok, hbw⟩

set_option maxHeartbeats 1600000 in
theorem cycle_some (b off cap : Nat) (zs : List Int) (x y : Nat) (w : World) (hb : b < w.heap.size) (hc : Cells w b off zs) (hT : Tab w) (hg : isG zs.length zs = true) (hx : x < zs.length) (hy : y < zs.length) :
    Calls Tryd.prog 45 #[.agg #[.int .i64 zs.length, .slice (some ⟨b, off, none⟩) zs.length cap], .int .i64 x, .int .i64 y] w fun e w' => e = .returned (.int .i64 (cyc zs x y)) ∧ Below w.heap.size w w' := by
  obtain ⟨g1, g2, -, -, -⟩ := isG_parts hg
  have h62 : zs.length ≤ 62 := by omega
  have D0 : Below w.heap.size w (w.alloc (.cells #[.int .i64 zs.length, .slice (some ⟨b, off, none⟩) zs.length cap] 28)) := (Below.refl _ _).alloc (Nat.le_refl _) _
  have HG0 := Lib.hid (GBox.new (n := zs.length) (cap := cap) hb hc)
  have HT := Lib.hid hT
  have HG := Lib.hid hg
  have HLR : Hid (∀ W, Below w.heap.size w W → Calls Tryd.prog 66 #[.agg #[.int .i64 zs.length, .slice (some ⟨b, off, none⟩) zs.length cap], .int .i64 x, .int .i64 (2 ^ y)] W fun e w' => ∃ (ls : List Nat) (gl capl : Nat), e = .returned (.slice (some ⟨gl, 0, none⟩) ls.length capl) ∧ w'.ownsRow W.heap.size 2 1 (.slice (some ⟨gl, 0, none⟩) ls.length capl) ls.length (natsV ls) ∧ LvOk zs x (2 ^ y) ls ∧ Below W.heap.size W w') := fun W h => by
    have := levelRows_form b off cap zs x (2 ^ y) W (Nat.lt_of_lt_of_le hb h.size) (hc.below h hb) (HT.out.belowAll h) HG.out hx
    rw [show ((2 ^ y : Nat) : Int) = (2 : Int) ^ y by simp] at this
    exact this
  have HLW : Hid (∀ (ls : List Nat) (gl capl B : Nat) (W : World), W.ownsRow B 2 1 (.slice (some ⟨gl, 0, none⟩) ls.length capl) ls.length (natsV ls) → LvOk zs x (2 ^ y) ls → Calls Tryd.prog 65 #[.slice (some ⟨gl, 0, none⟩) ls.length capl, .int .i64 y] W fun e w' => e = .returned (.tuple #[.int .i64 (if 0 ≤ cyD zs x (2 ^ y) y then cyD zs x (2 ^ y) y else 0), .bool (decide (0 ≤ cyD zs x (2 ^ y) y))]) ∧ W = w') := fun ls gl capl B W h1 h2 =>
    levelWith_some zs x (2 ^ y) y gl capl B ls W h1 h2 hx h62 hy
  have hbd := dOf_bd (R := Rw zs x (2 ^ y)) (w := y) hx
  rw [show dOf (Rw zs x (2 ^ y)) zs.length x y = cyD zs x (2 ^ y) y from rfl] at hbd
  unfold cyc
  generalize cyD zs x (2 ^ y) y = D at *
  have hy0 : (0 : Int) ≤ y := by omega
  have hym : (y : Int) < 62 := by omega
  have hpw := pow_bounds y (by omega)
  have hwr := i64_pow (y : Int) (by omega)
  rw [Int.toNat_natCast] at hwr
  obtain ⟨Wb, hWb⟩ : ∃ Wb, Wb = w.alloc (.cells #[.int .i64 zs.length, .slice (some ⟨b, off, none⟩) zs.length cap] 28) := ⟨_, rfl⟩
  have HDB := Lib.hid D0
  rw [← hWb] at HDB
  have hbox : Wb.heap[w.heap.size]? = some (.cells #[.int .i64 zs.length, .slice (some ⟨b, off, none⟩) zs.length cap] 28 (0, 0)) := by rw [hWb]; exact World.alloc_heap_new w _
  obtain ⟨b0, b1, -, -⟩ := two_cells hbox
  clear hc hT hg D0 HG0 hbox
  by_cases hD : 0 ≤ D
  · rw [if_pos hD]
    rw [if_pos hD, decide_eq_true hD] at HLW
    go_enter Tryd.func45, Tryd.ntmps45
    go_wp2_with fail
    rw [← hWb]
    clear hWb
    go_region_with (first | (go_at_call 66; refine (HLR.out _ HDB.out.drew).mono ?_; rintro e w5 ⟨ls, gl, capl, rfl, hown, hok, hb5⟩) | (go_at_call 65; refine (HLW.out _ _ _ _ _ hown hok).mono ?_; rintro e w6 ⟨rfl, rfl⟩))
    all_goals
      have E5 := HDB.out.trans (((Below.refl _ _).drew).trans (hb5.mono (by have := HDB.out.size; simp; omega)))
      clear hown hok hb5
      go_wp2_with fail
      go_ret
      exact ⟨rfl, E5⟩
  · rw [if_neg hD]
    rw [if_neg hD, decide_eq_false hD] at HLW
    go_enter Tryd.func45, Tryd.ntmps45
    go_wp2_with fail
    rw [← hWb]
    clear hWb
    go_region_with (first | (go_at_call 66; refine (HLR.out _ HDB.out.drew).mono ?_; rintro e w5 ⟨ls, gl, capl, rfl, hown, hok, hb5⟩) | (go_at_call 65; refine (HLW.out _ _ _ _ _ hown hok).mono ?_; rintro e w6 ⟨rfl, rfl⟩))
    all_goals
      have E5 := HDB.out.trans (((Below.refl _ _).drew).trans (hb5.mono (by have := HDB.out.size; simp; omega)))
      clear hown hok hb5
      go_wp2_with fail
      go_ret
      exact ⟨rfl, E5⟩
end Go.Proofs.YtibpnemeehkdbaaDoor
