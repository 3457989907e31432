/-
  impl.areJoinedTuples.
-/
import Derived.Test.YtbfdhnecadgfdaaDoorUo
import Derived.BigRegion
namespace Go.Proofs.YtbfdhnecadgfdaaDoor
set_option maxRecDepth 100000
open Go.RowKit

def prodsT (a b : List Int) : List Int := [el a 0 * el b 0, el a 0 * el b 1, el a 1 * el b 0]
def jT (q : Int) (a b : List Int) (i : Nat) : Bool := Int.tmod (el a (i + 1) + el b (i + 1) - el (prodsT a b) i) q == 0
def joinT (q : Int) (a b : List Int) (i : Nat) : Bool := (List.range i).all (jT q a b)
theorem joinT_succ (q : Int) (a b : List Int) (i : Nat) : joinT q a b (i + 1) = (joinT q a b i && jT q a b i) := by unfold joinT; rw [List.range_succ, List.all_append]; simp
theorem joinT_no {q : Int} {a b : List Int} {i n : Nat} (hi : i < n) (h : jT q a b i = false) : joinT q a b n = false := by
  cases e : joinT q a b n with
  | false => rfl
  | true => have := List.all_eq_true.1 e i (List.mem_range.2 hi); rw [h] at this; cases this

set_option maxHeartbeats 3200000 in
set_option maxRecDepth 100000 in
theorem joined_any (q : Int) (k g1 c1 g2 c2 : Nat) (a b : List Int) (w : World) (hq : 2 ≤ q ∧ q ≤ 7) (hk : 2 ≤ k ∧ k ≤ 4) (ha : a.length = k) (hb : b.length = k) (hg1 : g1 < w.heap.size) (hg2 : g2 < w.heap.size) (hc1 : Cells w g1 0 a) (hc2 : Cells w g2 0 b)
    (ba : ∀ i, 0 ≤ el a i ∧ el a i ≤ 6) (bb : ∀ i, 0 ≤ el b i ∧ el b i ≤ 6) :
    Calls Tryd.prog 56 #[.int .i64 q, .slice (some ⟨g1, 0, none⟩) k c1, .slice (some ⟨g2, 0, none⟩) k c2] w fun e w' => e = .returned (.bool (joinT q a b (k - 1))) ∧ Below w.heap.size w w' := by
  have x0 : w.cell? ⟨g1, 0, none⟩ = some (.int .i64 (el a 0)) := hc1 0 (by omega)
  have x1 : w.cell? ⟨g1, 1, none⟩ = some (.int .i64 (el a 1)) := hc1 1 (by omega)
  have y0 : w.cell? ⟨g2, 0, none⟩ = some (.int .i64 (el b 0)) := hc2 0 (by omega)
  have y1 : w.cell? ⟨g2, 1, none⟩ = some (.int .i64 (el b 1)) := hc2 1 (by omega)
  obtain ⟨p1, p2⟩ := prod_bd (ba 0).1 (ba 0).2 (bb 0).1 (bb 0).2
  obtain ⟨p3, p4⟩ := prod_bd (ba 0).1 (ba 0).2 (bb 1).1 (bb 1).2
  obtain ⟨p5, p6⟩ := prod_bd (ba 1).1 (ba 1).2 (bb 0).1 (bb 0).2
  have HPR : Hid (prodsT a b = [el a 0 * el b 0, el a 0 * el b 1, el a 1 * el b 0]) := rfl
  obtain ⟨P, hP⟩ : ∃ P, P = prodsT a b := ⟨_, rfl⟩
  have HC1 := Lib.hid hc1; have HC2 := Lib.hid hc2; have HA := Lib.hid ha; have HB := Lib.hid hb; have HBA := Lib.hid ba; have HBB := Lib.hid bb
  clear hc1 hc2 ha hb ba bb
  obtain ⟨a0, e0⟩ : ∃ x, x = el a 0 := ⟨_, rfl⟩
  obtain ⟨a1, e1⟩ : ∃ x, x = el a 1 := ⟨_, rfl⟩
  obtain ⟨b0, f0⟩ : ∃ x, x = el b 0 := ⟨_, rfl⟩
  obtain ⟨b1, f1⟩ : ∃ x, x = el b 1 := ⟨_, rfl⟩
  rw [← e0] at x0 p1 p2 p3 p4; rw [← e1] at x1 p5 p6; rw [← f0] at y0 p1 p2 p5 p6; rw [← f1] at y1 p3 p4
  rw [← e0, ← e1, ← f0, ← f1] at HPR
  clear e0 e1 f0 f1
  have k1 : (1 : Int) < k := by omega
  have k0 : (0 : Int) < k := by omega
  have HP := Lib.hid hP
  clear hP
  go_enter Tryd.func56, Tryd.ntmps56
  go_wp2_with fail
  go_region
  go_wp2_with fail
  have HPE : Hid (P = [a0 * b0, a0 * b1, a1 * b0]) := by show _ = _; rw [HP.out]; exact HPR.out
  obtain ⟨W, hW⟩ : ∃ W, W = (w.alloc (.cells #[.int .i64 (a0 * b0), .int .i64 (a0 * b1), .int .i64 (a1 * b0)] 2)).drew := ⟨_, rfl⟩
  have HK0 : Hid (Blk W w.heap.size P) := by
    show Blk _ _ _
    rw [hW, HPE.out]
    exact Blk.new w [a0 * b0, a0 * b1, a1 * b0]
  have E0 : Below w.heap.size w W := by rw [hW]; exact ((Below.refl _ _).alloc (Nat.le_refl _) _).drew
  have HPB : Hid (∀ i, i < 3 → 0 ≤ el P i ∧ el P i ≤ 36) := fun i hi => by
    rw [HPE.out]
    match i, hi with
    | 0, _ => exact ⟨p1, p2⟩
    | 1, _ => exact ⟨p3, p4⟩
    | 2, _ => exact ⟨p5, p6⟩
  have HPL : Hid (P.length = 3) := by show _ = _; rw [HPE.out]; rfl
  obtain ⟨n, hn⟩ : ∃ n, n = k - 1 := ⟨_, rfl⟩
  rw [← hW, ← hn]
  have hn1 : n + 1 ≤ k := by omega
  have hn2 : n ≤ 3 := by omega
  have HN := Lib.hid hn
  clear hW hn p1 p2 p3 p4 p5 p6 x0 x1 y0 y1 HPE HPR
  go_loopw [38] (fun c wr => ∃ i : Nat, i ≤ n ∧ c = .int .i64 i ∧ Hid (joinT q a b i = true) ∧ Hid (Blk wr w.heap.size P) ∧ Below w.heap.size w wr) (fun c _ => n - (intOf c).toNat)
  case atStart => exact ⟨0, Nat.zero_le _, rfl, rfl, HK0, E0⟩
  case round =>
    obtain ⟨i, hi, rfl, HJ, HK, hE⟩ := hrel
    by_cases hlt : (i : Int) < n
    · have hin : i < n := by omega
      have hi0 : (0 : Int) ≤ i := by omega
      have c0 := HK.out.cell (i := i) (by rw [HPL.out]; omega)
      have d1 := (hE.cell (p := ⟨g1, i + 1, none⟩) hg1).trans (by have := HC1.out (i + 1) (by rw [HA.out]; omega); simpa using this)
      have d2 := (hE.cell (p := ⟨g2, i + 1, none⟩) hg2).trans (by have := HC2.out (i + 1) (by rw [HB.out]; omega); simpa using this)
      obtain ⟨u1, u2⟩ := HPB.out i (by omega)
      obtain ⟨v1, v2⟩ := HBA.out (i + 1)
      obtain ⟨t1, t2⟩ := HBB.out (i + 1)
      obtain ⟨x, ex⟩ : ∃ x, x = el a (i + 1) := ⟨_, rfl⟩
      obtain ⟨y, ey⟩ : ∃ x, x = el b (i + 1) := ⟨_, rfl⟩
      obtain ⟨z, ez⟩ : ∃ x, x = el P i := ⟨_, rfl⟩
      have hjt : jT q a b i = (Int.tmod (x + y - z) q == 0) := by unfold jT; rw [ex, ey, ez, HP.out]
      rw [← ex] at d1 v1 v2; rw [← ey] at d2 t1 t2; rw [← ez] at c0 u1 u2
      clear ex ey ez
      have hik : (i : Int) + 1 < k := by omega
      have hin0 : (0 : Int) ≤ (i : Int) + 1 := by omega
      have V2 : IntKind.i64.wrap (x + y) = x + y := IntWalk.i64_in _ (by omega)
      have V3 : IntKind.i64.wrap (x + y - z) = x + y - z := IntWalk.i64_in _ (by clear V2; omega)
      have V1 : IntKind.i64.wrap ((i : Int) + 1) = (i : Int) + 1 := IntWalk.i64_in _ (by clear V2 V3; omega)
      have V4 : ((i : Int) + 1).toNat = i + 1 := by clear V1 V2 V3; omega
      cases hr : jT q a b i with
      | true =>
        have HJ2 : Hid (joinT q a b (i + 1) = true) := by show _ = _; rw [joinT_succ, HJ.out, hr]; rfl
        rw [hjt] at hr
        have hz : Int.tmod (x + y - z) q = 0 := by simpa using hr
        clear hr hjt
        go_wp2_with fail
        go_quiet (fail)
        clear V1 V2 V3 V4
        go_wp2_with fail
        go_roundw
        case rel => exact ⟨i + 1, by omega, by go_num, HJ2, HK, drewN_below hE _⟩
        case measure => simp [intOf]; omega
      | false =>
        have HNO := Lib.hid (joinT_no hin hr)
        rw [hjt] at hr
        have hz : ¬ Int.tmod (x + y - z) q = 0 := by simpa using hr
        clear hjt
        go_wp2_with fail
        go_quiet (fail)
        clear V1 V2 V3 V4
        go_wp2_with fail
        go_ret
        exact ⟨ret_bool (by rw [← HN.out]; exact HNO.out.symm), drewN_below hE _⟩
    · obtain rfl : i = n := by omega
      go_wp2_with fail
      go_ret
      exact ⟨ret_bool (by rw [← HN.out]; exact HJ.out.symm), hE⟩
end Go.Proofs.YtbfdhnecadgfdaaDoor
