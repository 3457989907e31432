/-
  spec.l04Points.
-/
import Derived.Test.YtbfdhnecadgfdaaDoorUa
namespace Go.Proofs.YtbfdhnecadgfdaaDoor
set_option maxRecDepth 100000
open Go.RowKit

theorem cell_one_new2 (w : World) (o : Obj) (x : Value) (t : TypeId) : ∀ j u, [x][j]? = some u → ((w.alloc o).alloc (.cells #[x] t)).cell? ((⟨w.heap.size + 1, 0, none⟩ : Addr).add j) = some u := by
  have h := cell_one_new (w.alloc o) x t
  simpa using h
/-- The world with a list of three numbers and a slice of it more. -/
def rowW (w : World) (a b c : Int) : World := (w.alloc (.cells #[.int .i64 a, .int .i64 b, .int .i64 c] 2)).alloc (.cells #[.slice (some ⟨w.heap.size, 0, none⟩) 3 3] 22)
theorem rowW_size (w : World) (a b c : Int) : (rowW w a b c).heap.size = w.heap.size + 2 := by simp [rowW]
theorem rowW_below (w : World) (a b c : Int) : Below w.heap.size w (rowW w a b c) := ((Below.refl _ _).alloc (Nat.le_refl _) _).alloc (by simp) _
theorem rowW_own (w : World) (a b c : Int) : Own (rowW w a b c) w.heap.size (.slice (some ⟨w.heap.size, 0, none⟩) 3 3) [a, b, c] := by
  have h : Own (w.alloc (.cells (intsA [a, b, c]) 2)) w.heap.size (.slice (some ⟨w.heap.size, 0, none⟩) 3 3) [a, b, c] := Own.of_blk (Blk.new w [a, b, c]) (Nat.le_refl _) (by simp [maxLen])
  exact h.below ((Below.refl _ _).alloc (Nat.le_refl _) _)
theorem rowW_block (w : World) (a b c : Int) : (rowW w a b c).heap[w.heap.size + 1]? = some (.cells #[.slice (some ⟨w.heap.size, 0, none⟩) 3 3] 22 (0, 0)) := heap_new_at _ _ _ (by simp)
theorem rowW_first (w : World) (a b c : Int) : TS (rowW w a b c) w.heap.size (.slice (some ⟨w.heap.size + 1, 0, none⟩) 1 1) [[a, b, c]] :=
  ⟨[.slice (some ⟨w.heap.size, 0, none⟩) 3 3], ⟨rfl, .inr ⟨w.heap.size + 1, 1, #[.slice (some ⟨w.heap.size, 0, none⟩) 3 3], rfl, Nat.le_succ _, rowW_block w a b c, Nat.le_refl _, by unfold maxLen; omega, rfl, rfl⟩⟩, rfl, fun i hi => by
    have : i = 0 := by simp at hi; omega
    subst this
    exact ⟨_, rfl, rowW_own w a b c, .inr (by simp [Value.ownBlock]), fun e => by simp [elS] at e⟩⟩
theorem ts_form {w : World} {B : Nat} {v : Value} {Ts : List (List Int)} (h : TS w B v Ts) : ∃ p l c, v = .slice p l c := by
  rcases h.form with ⟨h, _⟩ | ⟨b, cap, h, _⟩
  · exact ⟨_, _, _, h⟩
  · exact ⟨_, _, _, h⟩
/-- One list of three numbers more. -/
theorem TSc.row3 {w w3 : World} {B : Nat} {v v3 : Value} {Ts : List (List Int)} {cs : List Value} {a b c : Int} (h : TSc w B v Ts cs) (hB : B ≤ w.heap.size)
    (hown : w3.ownsRow B 22 1 v3 (Ts.length + 1) (cs ++ [.slice (some ⟨w.heap.size, 0, none⟩) 3 3])) (hg : (rowW w a b c).grownBy w3 v.ownBlock) (hloc : v3.ownBlock = v.ownBlock ∨ v3.ownBlock = some (rowW w a b c).heap.size) :
    TS w3 B v3 (Ts ++ [[a, b, c]]) ∧ Below B w w3 := by
  refine ⟨(h.below (rowW_below w a b c)).snoc ((rowW_own w a b c).base hB) ?_ (fun e => by simp at e) hown hg hloc, ((rowW_below w a b c).mono hB).grown hg (by rw [rowW_size]; omega) (fun q e => (World.ownsRow.lt h.1 q e).1)⟩
  cases hv : v.ownBlock with
  | none => exact .inr (by simp [Value.ownBlock])
  | some q => exact .inr fun e => by (have := (World.ownsRow.lt h.1 q hv).2; simp [Value.ownBlock] at e; omega)

/-- What l04Points has gathered ahead of its second loop, and in it. -/
def ptsA (k : Nat) : List (List Int) := [[0, 0, 1]] ++ ((List.range k).map fun z : Nat => [0, 1, (z : Int)])
def ptsB (q y z : Nat) : List (List Int) := ptsA q ++ ((List.range y).flatMap fun y : Nat => (List.range q).map fun z : Nat => [1, (y : Int), (z : Int)]) ++ ((List.range z).map fun z : Nat => [1, (y : Int), (z : Int)])
theorem ptsA_zero : ptsA 0 = [[0, 0, 1]] := rfl
theorem ptsA_succ (k : Nat) : ptsA (k + 1) = ptsA k ++ [[0, 1, (k : Int)]] := by unfold ptsA; rw [List.range_succ, List.map_append, List.append_assoc]; rfl
theorem ptsA_length (k : Nat) : (ptsA k).length = 1 + k := by simp [ptsA]; omega
theorem ptsB_zero (q : Nat) : ptsB q 0 0 = ptsA q := by simp [ptsB]
theorem ptsB_succ (q y z : Nat) : ptsB q y (z + 1) = ptsB q y z ++ [[1, (y : Int), (z : Int)]] := by unfold ptsB; rw [List.range_succ, List.map_append, ← List.append_assoc]; rfl
theorem ptsB_next (q y : Nat) : ptsB q y q = ptsB q (y + 1) 0 := by unfold ptsB; rw [List.range_succ, List.flatMap_append]; simp
theorem ptsB_end (q : Nat) : ptsB q q 0 = ptsL q := by simp [ptsB, ptsA, ptsL]
theorem ptsB_length (q z : Nat) : ∀ y, (ptsB q y z).length = 1 + q + y * q + z
  | 0 => by simp [ptsB, ptsA]; omega
  | y + 1 => by
    have h := ptsB_length q z y
    simp only [ptsB, ptsA, List.length_append, List.length_map, List.length_range, List.length_cons, List.length_nil] at h ⊢
    rw [List.range_succ, List.flatMap_append, List.length_append, Nat.add_mul]
    simp at h ⊢
    omega

/-- What l04Points leaves. -/
def LRet (B : Nat) (Ts : List (List Int)) (e : Ending) (w' : World) : Prop := ∃ v, e = .returned v ∧ TS w' B v Ts

set_option maxHeartbeats 3200000 in
set_option maxRecDepth 100000 in
theorem specPoints_any (q : Nat) (w : World) (hq : q ≤ 7) :
    Calls Tryd.prog 43 #[.int .i64 q] w fun e w' => LRet w.heap.size (ptsL q) e w' ∧ Below w.heap.size w w' := by
  obtain ⟨j0, hi, hz0, hz1, hz2⟩ := info_parts mkS_info
  have HJ := Lib.hid hi; have HJ0 := Lib.hid hz0; have HJ1 := Lib.hid hz1; have HJ2 := Lib.hid hz2
  clear hi hz0 hz1 hz2
  have HT0 := Lib.hid (rowW_first w 0 0 1)
  have D0 := rowW_below w 0 0 1
  obtain ⟨w1, hw1⟩ : ∃ w1, w1 = rowW w 0 0 1 := ⟨_, rfl⟩
  rw [← hw1] at HT0 D0
  unfold rowW at hw1
  go_enter Tryd.func43, Tryd.ntmps43
  go_wp2_with fail
  rw [← hw1]
  clear hw1
  have e1 := D0.size
  go_loopw [3, 4] (fun l c wr => ∃ z : Nat, z ≤ q ∧ c = .int .i64 z ∧ Hid (TS wr w.heap.size l (ptsA z)) ∧ Below w.heap.size w wr) (fun _ c _ => q - (intOf c).toNat)
  case atStart => exact ⟨0, Nat.zero_le _, rfl, HT0, D0⟩
  case round =>
    obtain ⟨z, hz, rfl, HT, hE⟩ := hrel
    obtain ⟨la, ll, lc, hleq⟩ := ts_form HT.out
    subst hleq
    by_cases hlt : (z : Int) < q
    · have hzq : z < q := by omega
      obtain ⟨cs, hTc⟩ := HT.out
      have HTC := Lib.hid hTc
      have HT2 := Lib.hid (hTc.below (rowW_below wr 0 1 z))
      have hlenP := ptsA_length z
      have sE := hE.size
      clear hTc HT
      go_wp2_with (at_builtin; refine wpList_append_own_at _ rfl (.tmp 14) (.tmp 17) 28 rfl w.heap.size 22 j0 (.slice none 0 0) 1 24 Tryd.underlying28 HJ.out HJ0.out HJ1.out HJ2.out rfl (by decide) _ _ _ rfl HT2.out.1 ⟨wr.heap.size + 1, 0, none⟩ 1 1 [.slice (some ⟨wr.heap.size, 0, none⟩) 3 3] rfl rfl (cell_one_new2 _ _ _ _) (by simp [Value.oneCell']) (by unfold maxLen; omega) (by omega) (by simp; omega) ?_; intro l3 w3 hown3 hgr3 _ hloc; have HO3 := Lib.hid hown3; have HG3 := Lib.hid hgr3; have HL3 := Lib.hid hloc; clear hown3 hgr3 hloc)
      obtain ⟨hs3, hb3⟩ := HTC.out.row3 sE HO3.out HG3.out HL3.out
      rw [← ptsA_succ] at hs3
      have HS3 := Lib.hid hs3
      have hE3 := hE.trans hb3
      clear HTC HT2 HO3 HG3 HL3 hs3 hb3 hE
      go_wp2_with fail
      go_roundw
      case rel => exact ⟨z + 1, by omega, by go_num, HS3, hE3⟩
      case measure => simp [intOf]; omega
    · obtain rfl : z = q := by omega
      have HB0 : Hid (TS wr w.heap.size (.slice la ll lc) (ptsB z 0 0)) := by show TS _ _ _ _; rw [ptsB_zero]; exact HT.out
      go_wp2_with fail
      obtain ⟨wo, rfl⟩ : ∃ wo : World, wo = wr := ⟨_, rfl⟩
      go_loopw [3, 5] (fun l c wr => ∃ y : Nat, y ≤ z ∧ c = .int .i64 y ∧ Hid (TS wr w.heap.size l (ptsB z y 0)) ∧ Below w.heap.size w wr) (fun _ c _ => z - (intOf c).toNat)
      case atStart => exact ⟨0, Nat.zero_le _, rfl, HB0, hE⟩
      case round =>
        obtain ⟨y, hy, rfl, HY, hE1⟩ := hrel
        obtain ⟨ma, ml, mc, hmeq⟩ := ts_form HY.out
        subst hmeq
        by_cases hly : (y : Int) < z
        · have hyz : y < z := by omega
          go_wp2_with fail
          obtain ⟨wm, rfl⟩ : ∃ wm : World, wm = wr := ⟨_, rfl⟩
          go_loopw [3, 6] (fun l c wr => ∃ x : Nat, x ≤ z ∧ c = .int .i64 x ∧ Hid (TS wr w.heap.size l (ptsB z y x)) ∧ Below w.heap.size w wr) (fun _ c _ => z - (intOf c).toNat)
          case atStart => exact ⟨0, Nat.zero_le _, rfl, HY, hE1⟩
          case round =>
            obtain ⟨x, hx, rfl, HX, hE2⟩ := hrel
            obtain ⟨na, nl, nc, hneq⟩ := ts_form HX.out
            subst hneq
            by_cases hlx : (x : Int) < z
            · have hxz : x < z := by omega
              obtain ⟨cs, hTc⟩ := HX.out
              have HTC := Lib.hid hTc
              have HT2 := Lib.hid (hTc.below (rowW_below wr 1 y x))
              have hlenP : (ptsB z y x).length ≤ 100 := by
                rw [ptsB_length]
                have : y * z ≤ 7 * 7 := Nat.mul_le_mul (by omega) (by omega)
                omega
              have sE := hE2.size
              clear hTc HX
              go_wp2_with (at_builtin; refine wpList_append_own_at _ rfl (.tmp 29) (.tmp 33) 28 rfl w.heap.size 22 j0 (.slice none 0 0) 1 24 Tryd.underlying28 HJ.out HJ0.out HJ1.out HJ2.out rfl (by decide) _ _ _ rfl HT2.out.1 ⟨wr.heap.size + 1, 0, none⟩ 1 1 [.slice (some ⟨wr.heap.size, 0, none⟩) 3 3] rfl rfl (cell_one_new2 _ _ _ _) (by simp [Value.oneCell']) (by unfold maxLen; omega) (by omega) (by simp; omega) ?_; intro l3 w3 hown3 hgr3 _ hloc; have HO3 := Lib.hid hown3; have HG3 := Lib.hid hgr3; have HL3 := Lib.hid hloc; clear hown3 hgr3 hloc)
              obtain ⟨hs3, hb3⟩ := HTC.out.row3 sE HO3.out HG3.out HL3.out
              rw [← ptsB_succ] at hs3
              have HS3 := Lib.hid hs3
              have hE3 := hE2.trans hb3
              clear HTC HT2 HO3 HG3 HL3 hs3 hb3 hE2
              go_wp2_with fail
              go_roundw
              case rel => exact ⟨x + 1, by omega, by go_num, HS3, hE3⟩
              case measure => simp [intOf]; omega
            · obtain rfl : x = z := by omega
              have HX1 := HX.out
              rw [ptsB_next] at HX1
              have HX2 := Lib.hid HX1
              clear HX1
              go_wp2_with fail
              go_roundw
              case rel => exact ⟨y + 1, by omega, by go_num, HX2, hE2⟩
              case measure => simp [intOf]; omega
        · obtain rfl : y = z := by omega
          have HY1 := HY.out
          rw [ptsB_end] at HY1
          have HY2 := Lib.hid HY1
          clear HY1
          go_wp2_with fail
          go_ret
          exact ⟨⟨_, rfl, HY2.out⟩, hE1⟩
end Go.Proofs.YtbfdhnecadgfdaaDoor
