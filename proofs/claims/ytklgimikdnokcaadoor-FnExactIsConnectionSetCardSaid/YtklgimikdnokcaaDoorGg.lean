/-
  impl.groupWith. (A plain seat.)
-/
import Derived.Test.YtklgimikdnokcaaDoorGe
namespace Go.Proofs.YtklgimikdnokcaaDoor
set_option maxRecDepth 100000
open Go.RowKit

set_option maxHeartbeats 800000 in
theorem groupWith_inv (a b : Int) (v : Value) (w : World) (h : isGr a b = false) :
    Calls Tryd.prog 31 #[gv a b, v] w fun e w' => e = .returned (.tuple #[.nilIface, .int .i64 1]) ∧ Below w.heap.size w w' := by
  have D0 : Below w.heap.size w (w.alloc (.cells #[.int .i64 a, .int .i64 b] 27)) := (Below.refl _ _).alloc (Nat.le_refl _) _
  have hc := groupBehind_no a b (w.alloc (.cells #[.int .i64 a, .int .i64 b] 27)) h
  unfold gv at *
  go_enter Tryd.func31, Tryd.ntmps31
  go_wp2_with (go_at_call 53; refine hc.mono ?_; rintro e w1 ⟨rfl, hb⟩)
  go_ret2
  exact ⟨rfl, D0.trans (hb.mono (by simp))⟩


set_option maxHeartbeats 1600000 in
theorem groupWith_0 (p : Nat) (v : Value) (zs : List Int) (w : World) (hg : gOk 0 p = true) (hs : Sl w v zs) (hl : zs.length ≤ 9223372036854775807) (he : elOk (gOrd 0 p) zs zs.length = true) :
    Calls Tryd.prog 31 #[gv 0 p, v] w fun e w' => e = .returned (.tuple #[gIf 0 p, .int .i64 0]) ∧ Below w.heap.size w w' := by
  have D0 : Below w.heap.size w (w.alloc (.cells #[.int .i64 0, .int .i64 p] 27)) := (Below.refl _ _).alloc (Nat.le_refl _) _
  have hc := groupBehind_0 p (w.alloc (.cells #[.int .i64 0, .int .i64 p] 27)) hg
  have HO := Lib.hid (fun W => order_0 p W hg)
  have HR := Lib.hid (fun W h => areRests_any (gOrd 0 p) v zs W h hl)
  rw [he] at HR
  have HS := Lib.hid hs
  clear hs he hg
  unfold gv gIf at *
  go_enter Tryd.func31, Tryd.ntmps31
  go_wp2_with (first | (go_at_call 53; refine hc.mono ?_; rintro e w1 ⟨rfl, hb⟩) | (go_at_call 85; refine (HO.out _).mono ?_; rintro e w2 ⟨rfl, hb2⟩) | (go_at_call 43; refine (HR.out _ (((HS.out.below D0).below (hb.mono (Nat.le_refl _))).below (hb2.mono (Nat.le_refl _)))).mono ?_; rintro e w3 ⟨rfl, rfl⟩))
  go_ret2
  exact ⟨rfl, D0.trans ((hb.trans (hb2.mono hb.size)).mono (by simp))⟩

set_option maxHeartbeats 1600000 in
theorem groupBad_0 (p : Nat) (v : Value) (zs : List Int) (w : World) (hg : gOk 0 p = true) (hs : Sl w v zs) (hl : zs.length ≤ 9223372036854775807) (he : elOk (gOrd 0 p) zs zs.length = false) :
    Calls Tryd.prog 31 #[gv 0 p, v] w fun e w' => e = .returned (.tuple #[.nilIface, .int .i64 2]) ∧ Below w.heap.size w w' := by
  have D0 : Below w.heap.size w (w.alloc (.cells #[.int .i64 0, .int .i64 p] 27)) := (Below.refl _ _).alloc (Nat.le_refl _) _
  have hc := groupBehind_0 p (w.alloc (.cells #[.int .i64 0, .int .i64 p] 27)) hg
  have HO := Lib.hid (fun W => order_0 p W hg)
  have HR := Lib.hid (fun W h => areRests_any (gOrd 0 p) v zs W h hl)
  rw [he] at HR
  have HS := Lib.hid hs
  clear hs he hg
  unfold gv gIf at *
  go_enter Tryd.func31, Tryd.ntmps31
  go_wp2_with (first | (go_at_call 53; refine hc.mono ?_; rintro e w1 ⟨rfl, hb⟩) | (go_at_call 85; refine (HO.out _).mono ?_; rintro e w2 ⟨rfl, hb2⟩) | (go_at_call 43; refine (HR.out _ (((HS.out.below D0).below (hb.mono (Nat.le_refl _))).below (hb2.mono (Nat.le_refl _)))).mono ?_; rintro e w3 ⟨rfl, rfl⟩))
  go_ret2
  exact ⟨rfl, D0.trans ((hb.trans (hb2.mono hb.size)).mono (by simp))⟩

set_option maxHeartbeats 1600000 in
theorem groupWith_1 (p : Nat) (v : Value) (zs : List Int) (w : World) (hg : gOk 1 p = true) (hs : Sl w v zs) (hl : zs.length ≤ 9223372036854775807) (he : elOk (gOrd 1 p) zs zs.length = true) :
    Calls Tryd.prog 31 #[gv 1 p, v] w fun e w' => e = .returned (.tuple #[gIf 1 p, .int .i64 0]) ∧ Below w.heap.size w w' := by
  have D0 : Below w.heap.size w (w.alloc (.cells #[.int .i64 1, .int .i64 p] 27)) := (Below.refl _ _).alloc (Nat.le_refl _) _
  have hc := groupBehind_1 p (w.alloc (.cells #[.int .i64 1, .int .i64 p] 27)) hg
  have HO := Lib.hid (fun W => order_1 p W hg)
  have HR := Lib.hid (fun W h => areRests_any (gOrd 1 p) v zs W h hl)
  rw [he] at HR
  have HS := Lib.hid hs
  clear hs he hg
  unfold gv gIf at *
  go_enter Tryd.func31, Tryd.ntmps31
  go_wp2_with (first | (go_at_call 53; refine hc.mono ?_; rintro e w1 ⟨rfl, hb⟩) | (go_at_call 88; refine (HO.out _).mono ?_; rintro e w2 ⟨rfl, hb2⟩) | (go_at_call 43; refine (HR.out _ (((HS.out.below D0).below (hb.mono (Nat.le_refl _))).below (hb2.mono (Nat.le_refl _)))).mono ?_; rintro e w3 ⟨rfl, rfl⟩))
  go_ret2
  exact ⟨rfl, D0.trans ((hb.trans (hb2.mono hb.size)).mono (by simp))⟩

set_option maxHeartbeats 1600000 in
theorem groupBad_1 (p : Nat) (v : Value) (zs : List Int) (w : World) (hg : gOk 1 p = true) (hs : Sl w v zs) (hl : zs.length ≤ 9223372036854775807) (he : elOk (gOrd 1 p) zs zs.length = false) :
    Calls Tryd.prog 31 #[gv 1 p, v] w fun e w' => e = .returned (.tuple #[.nilIface, .int .i64 2]) ∧ Below w.heap.size w w' := by
  have D0 : Below w.heap.size w (w.alloc (.cells #[.int .i64 1, .int .i64 p] 27)) := (Below.refl _ _).alloc (Nat.le_refl _) _
  have hc := groupBehind_1 p (w.alloc (.cells #[.int .i64 1, .int .i64 p] 27)) hg
  have HO := Lib.hid (fun W => order_1 p W hg)
  have HR := Lib.hid (fun W h => areRests_any (gOrd 1 p) v zs W h hl)
  rw [he] at HR
  have HS := Lib.hid hs
  clear hs he hg
  unfold gv gIf at *
  go_enter Tryd.func31, Tryd.ntmps31
  go_wp2_with (first | (go_at_call 53; refine hc.mono ?_; rintro e w1 ⟨rfl, hb⟩) | (go_at_call 88; refine (HO.out _).mono ?_; rintro e w2 ⟨rfl, hb2⟩) | (go_at_call 43; refine (HR.out _ (((HS.out.below D0).below (hb.mono (Nat.le_refl _))).below (hb2.mono (Nat.le_refl _)))).mono ?_; rintro e w3 ⟨rfl, rfl⟩))
  go_ret2
  exact ⟨rfl, D0.trans ((hb.trans (hb2.mono hb.size)).mono (by simp))⟩

set_option maxHeartbeats 1600000 in
theorem groupWith_2 (p : Nat) (v : Value) (zs : List Int) (w : World) (hg : gOk 2 p = true) (hs : Sl w v zs) (hl : zs.length ≤ 9223372036854775807) (he : elOk (gOrd 2 p) zs zs.length = true) :
    Calls Tryd.prog 31 #[gv 2 p, v] w fun e w' => e = .returned (.tuple #[gIf 2 p, .int .i64 0]) ∧ Below w.heap.size w w' := by
  have D0 : Below w.heap.size w (w.alloc (.cells #[.int .i64 2, .int .i64 p] 27)) := (Below.refl _ _).alloc (Nat.le_refl _) _
  have hc := groupBehind_2 p (w.alloc (.cells #[.int .i64 2, .int .i64 p] 27)) hg
  have HO := Lib.hid (fun W => order_2 p W hg)
  have HR := Lib.hid (fun W h => areRests_any (gOrd 2 p) v zs W h hl)
  rw [he] at HR
  have HS := Lib.hid hs
  clear hs he hg
  unfold gv gIf at *
  go_enter Tryd.func31, Tryd.ntmps31
  go_wp2_with (first | (go_at_call 53; refine hc.mono ?_; rintro e w1 ⟨rfl, hb⟩) | (go_at_call 91; refine (HO.out _).mono ?_; rintro e w2 ⟨rfl, hb2⟩) | (go_at_call 43; refine (HR.out _ (((HS.out.below D0).below (hb.mono (Nat.le_refl _))).below (hb2.mono (Nat.le_refl _)))).mono ?_; rintro e w3 ⟨rfl, rfl⟩))
  go_ret2
  exact ⟨rfl, D0.trans ((hb.trans (hb2.mono hb.size)).mono (by simp))⟩

set_option maxHeartbeats 1600000 in
theorem groupBad_2 (p : Nat) (v : Value) (zs : List Int) (w : World) (hg : gOk 2 p = true) (hs : Sl w v zs) (hl : zs.length ≤ 9223372036854775807) (he : elOk (gOrd 2 p) zs zs.length = false) :
    Calls Tryd.prog 31 #[gv 2 p, v] w fun e w' => e = .returned (.tuple #[.nilIface, .int .i64 2]) ∧ Below w.heap.size w w' := by
  have D0 : Below w.heap.size w (w.alloc (.cells #[.int .i64 2, .int .i64 p] 27)) := (Below.refl _ _).alloc (Nat.le_refl _) _
  have hc := groupBehind_2 p (w.alloc (.cells #[.int .i64 2, .int .i64 p] 27)) hg
  have HO := Lib.hid (fun W => order_2 p W hg)
  have HR := Lib.hid (fun W h => areRests_any (gOrd 2 p) v zs W h hl)
  rw [he] at HR
  have HS := Lib.hid hs
  clear hs he hg
  unfold gv gIf at *
  go_enter Tryd.func31, Tryd.ntmps31
  go_wp2_with (first | (go_at_call 53; refine hc.mono ?_; rintro e w1 ⟨rfl, hb⟩) | (go_at_call 91; refine (HO.out _).mono ?_; rintro e w2 ⟨rfl, hb2⟩) | (go_at_call 43; refine (HR.out _ (((HS.out.below D0).below (hb.mono (Nat.le_refl _))).below (hb2.mono (Nat.le_refl _)))).mono ?_; rintro e w3 ⟨rfl, rfl⟩))
  go_ret2
  exact ⟨rfl, D0.trans ((hb.trans (hb2.mono hb.size)).mono (by simp))⟩

theorem groupWith_any (k p : Nat) (v : Value) (zs : List Int) (w : World) (hg : gOk k p = true) (hs : Sl w v zs) (hl : zs.length ≤ 9223372036854775807) (he : elOk (gOrd k p) zs zs.length = true) :
    Calls Tryd.prog 31 #[gv k p, v] w fun e w' => e = .returned (.tuple #[gIf k p, .int .i64 0]) ∧ Below w.heap.size w w' := by
  match k, hg, he with
  | 0, hg, he => exact groupWith_0 p v zs w hg hs hl he
  | 1, hg, he => exact groupWith_1 p v zs w hg hs hl he
  | 2, hg, he => exact groupWith_2 p v zs w hg hs hl he
  | k + 3, hg, _ => simp [gOk] at hg

/-- Where the code is not 0, the answer is nil. -/
theorem groupWith_no (a b : Int) (v : Value) (zs : List Int) (w : World) (hs : Sl w v zs) (hl : zs.length ≤ 9223372036854775807) (h : elC a b zs ≠ 0) :
    Calls Tryd.prog 31 #[gv a b, v] w fun e w' => e = .returned (.tuple #[.nilIface, .int .i64 (elC a b zs)]) ∧ Below w.heap.size w w' := by
  cases hi : isGr a b
  · rw [elC_no zs hi]; exact groupWith_inv a b v w hi
  · obtain ⟨k, p, rfl, rfl, hg⟩ := isGr_nat hi
    have he : elOk (gOrd k p) zs zs.length = false := by
      cases he : elOk (gOrd k p) zs zs.length with
      | false => rfl
      | true => exact absurd (elC_yes hg he) h
    rw [elC_bad hg he]
    match k, hg, he with
    | 0, hg, he => exact groupBad_0 p v zs w hg hs hl he
    | 1, hg, he => exact groupBad_1 p v zs w hg hs hl he
    | 2, hg, he => exact groupBad_2 p v zs w hg hs hl he
    | k + 3, hg, _ => simp [gOk] at hg
end Go.Proofs.YtklgimikdnokcaaDoor
