/-
  impl.groupWithSet, spec.l05Given. (A tied seat.)
-/
import Derived.Test.YtklgimikdnokcaaDoorKd
namespace Go.Proofs.YtklgimikdnokcaaDoor
set_option maxRecDepth 100000
open Go.RowKit

/-- The code of a group and a connection set. -/
def giC (a b : Int) (zs : List Int) : Int := if elC a b zs = 0 then (if clE a.toNat b.toNat zs = zs then 0 else 5) else elC a b zs
theorem giC_code {a b : Int} {zs : List Int} (h : elC a b zs ≠ 0) : giC a b zs = elC a b zs := by unfold giC; exact if_neg h
theorem giC_set {k p : Nat} {zs : List Int} (h : elC k p zs = 0) (hn : ¬ clE k p zs = zs) : giC k p zs = 5 := by unfold giC; rw [if_pos h, Int.toNat_natCast, Int.toNat_natCast, if_neg hn]
theorem giC_yes {k p : Nat} {zs : List Int} (h : elC k p zs = 0) (hn : clE k p zs = zs) : giC k p zs = 0 := by unfold giC; rw [if_pos h, Int.toNat_natCast, Int.toNat_natCast, if_pos hn]
theorem giC_zero {a b : Int} {zs : List Int} (h : giC a b zs = 0) : ∃ k p : Nat, a = k ∧ b = p ∧ gOk k p = true ∧ elOk (gOrd k p) zs zs.length = true ∧ clE k p zs = zs := by
  by_cases he : elC a b zs = 0
  · obtain ⟨k, p, rfl, rfl, hg, hj⟩ := elC_zero he
    by_cases hn : clE k p zs = zs
    · exact ⟨k, p, rfl, rfl, hg, hj, hn⟩
    · rw [giC_set he hn] at h; cases h
  · rw [giC_code he] at h; exact absurd h he

set_option maxHeartbeats 800000 in
theorem groupSet_code (a b : Int) (v : Value) (zs : List Int) (w : World) (hs : Sl w v zs) (hl : zs.length ≤ 9223372036854775807) (h : elC a b zs ≠ 0) :
    Calls Tryd.prog 38 #[gv a b, v] w fun e w' => e = .returned (.tuple #[.nilIface, .int .i64 (elC a b zs)]) ∧ Below w.heap.size w w' := by
  have D0 : Below w.heap.size w (w.alloc (.cells #[.int .i64 a, .int .i64 b] 27)) := (Below.refl _ _).alloc (Nat.le_refl _) _
  have hc := groupWith_no a b v zs (w.alloc (.cells #[.int .i64 a, .int .i64 b] 27)) (hs.below D0) hl h
  obtain ⟨c, hcc⟩ : ∃ c, c = elC a b zs := ⟨_, rfl⟩
  rw [← hcc] at hc h ⊢
  have e0 : (c == 0) = false := by simpa using h
  clear hcc h hs
  unfold gv at *
  go_enter Tryd.func38, Tryd.ntmps38
  go_wp2_with (go_at_call 31; with_reducible refine hc.mono ?_; rintro e w1 ⟨rfl, hb⟩)
  go_ret2
  exact ⟨rfl, D0.trans (hb.mono D0.size)⟩

set_option maxHeartbeats 800000 in
theorem groupSet_0 (p : Nat) (v : Value) (zs : List Int) (w : World) (hs : Sl w v zs) (hl : zs.length ≤ 9223372036854775807) (h : gOk 0 p = true) (hj : elOk (gOrd 0 p) zs zs.length = true) (hT : Tab w) (hq : clE 0 p zs = zs) :
    Calls Tryd.prog 38 #[gv 0 p, v] w fun e w' => e = .returned (.tuple #[gIf 0 p, .int .i64 0]) ∧ Below w.heap.size w w' := by
  have D0 : Below w.heap.size w (w.alloc (.cells #[.int .i64 0, .int .i64 p] 27)) := (Below.refl _ _).alloc (Nat.le_refl _) _
  have hc := groupWith_0 p v zs (w.alloc (.cells #[.int .i64 0, .int .i64 p] 27)) h (hs.below D0) hl hj
  have HCL := Lib.hid (fun W hsw hTW => implSet_0 p v zs W h hj hsw hl hTW)
  rw [decide_eq_true hq] at HCL
  have HS := Lib.hid (hs.below D0)
  have HT := Lib.hid (hT.belowAll D0)
  clear hs h hj hT hq
  simp only [gv, gIf] at *
  go_enter Tryd.func38, Tryd.ntmps38
  go_wp2_with fail
  refine hc.mono ?_
  rintro e w1 ⟨rfl, hb⟩
  have s1 := hb.size
  have hs1 := HS.out.below hb
  have hT1 := HT.out.belowAll hb
  rw [World.size_alloc] at hb s1
  go_wp2_with fail
  refine (HCL.out w1 hs1 hT1).mono ?_
  rintro e w2 ⟨rfl, hb2⟩
  have E2 := D0.trans ((hb.trans (hb2.mono s1)).mono (by omega))
  clear hb hb2 hs1 hc
  go_wp2_with fail
  go_ret2
  exact ⟨rfl, E2⟩

set_option maxHeartbeats 800000 in
theorem groupSetBad_0 (p : Nat) (v : Value) (zs : List Int) (w : World) (hs : Sl w v zs) (hl : zs.length ≤ 9223372036854775807) (h : gOk 0 p = true) (hj : elOk (gOrd 0 p) zs zs.length = true) (hT : Tab w) (hq : ¬ clE 0 p zs = zs) :
    Calls Tryd.prog 38 #[gv 0 p, v] w fun e w' => e = .returned (.tuple #[.nilIface, .int .i64 5]) ∧ Below w.heap.size w w' := by
  have D0 : Below w.heap.size w (w.alloc (.cells #[.int .i64 0, .int .i64 p] 27)) := (Below.refl _ _).alloc (Nat.le_refl _) _
  have hc := groupWith_0 p v zs (w.alloc (.cells #[.int .i64 0, .int .i64 p] 27)) h (hs.below D0) hl hj
  have HCL := Lib.hid (fun W hsw hTW => implSet_0 p v zs W h hj hsw hl hTW)
  rw [decide_eq_false hq] at HCL
  have HS := Lib.hid (hs.below D0)
  have HT := Lib.hid (hT.belowAll D0)
  clear hs h hj hT hq
  simp only [gv, gIf] at *
  go_enter Tryd.func38, Tryd.ntmps38
  go_wp2_with fail
  refine hc.mono ?_
  rintro e w1 ⟨rfl, hb⟩
  have s1 := hb.size
  have hs1 := HS.out.below hb
  have hT1 := HT.out.belowAll hb
  rw [World.size_alloc] at hb s1
  go_wp2_with fail
  refine (HCL.out w1 hs1 hT1).mono ?_
  rintro e w2 ⟨rfl, hb2⟩
  have E2 := D0.trans ((hb.trans (hb2.mono s1)).mono (by omega))
  clear hb hb2 hs1 hc
  go_wp2_with fail
  go_ret2
  exact ⟨rfl, E2⟩

set_option maxHeartbeats 800000 in
theorem groupSet_1 (p : Nat) (v : Value) (zs : List Int) (w : World) (hs : Sl w v zs) (hl : zs.length ≤ 9223372036854775807) (h : gOk 1 p = true) (hj : elOk (gOrd 1 p) zs zs.length = true) (hT : Tab w) (hq : clE 1 p zs = zs) :
    Calls Tryd.prog 38 #[gv 1 p, v] w fun e w' => e = .returned (.tuple #[gIf 1 p, .int .i64 0]) ∧ Below w.heap.size w w' := by
  have D0 : Below w.heap.size w (w.alloc (.cells #[.int .i64 1, .int .i64 p] 27)) := (Below.refl _ _).alloc (Nat.le_refl _) _
  have hc := groupWith_1 p v zs (w.alloc (.cells #[.int .i64 1, .int .i64 p] 27)) h (hs.below D0) hl hj
  have HCL := Lib.hid (fun W hsw hTW => implSet_1 p v zs W h hj hsw hl hTW)
  rw [decide_eq_true hq] at HCL
  have HS := Lib.hid (hs.below D0)
  have HT := Lib.hid (hT.belowAll D0)
  clear hs h hj hT hq
  simp only [gv, gIf] at *
  go_enter Tryd.func38, Tryd.ntmps38
  go_wp2_with fail
  refine hc.mono ?_
  rintro e w1 ⟨rfl, hb⟩
  have s1 := hb.size
  have hs1 := HS.out.below hb
  have hT1 := HT.out.belowAll hb
  rw [World.size_alloc] at hb s1
  go_wp2_with fail
  refine (HCL.out w1 hs1 hT1).mono ?_
  rintro e w2 ⟨rfl, hb2⟩
  have E2 := D0.trans ((hb.trans (hb2.mono s1)).mono (by omega))
  clear hb hb2 hs1 hc
  go_wp2_with fail
  go_ret2
  exact ⟨rfl, E2⟩

set_option maxHeartbeats 800000 in
theorem groupSetBad_1 (p : Nat) (v : Value) (zs : List Int) (w : World) (hs : Sl w v zs) (hl : zs.length ≤ 9223372036854775807) (h : gOk 1 p = true) (hj : elOk (gOrd 1 p) zs zs.length = true) (hT : Tab w) (hq : ¬ clE 1 p zs = zs) :
    Calls Tryd.prog 38 #[gv 1 p, v] w fun e w' => e = .returned (.tuple #[.nilIface, .int .i64 5]) ∧ Below w.heap.size w w' := by
  have D0 : Below w.heap.size w (w.alloc (.cells #[.int .i64 1, .int .i64 p] 27)) := (Below.refl _ _).alloc (Nat.le_refl _) _
  have hc := groupWith_1 p v zs (w.alloc (.cells #[.int .i64 1, .int .i64 p] 27)) h (hs.below D0) hl hj
  have HCL := Lib.hid (fun W hsw hTW => implSet_1 p v zs W h hj hsw hl hTW)
  rw [decide_eq_false hq] at HCL
  have HS := Lib.hid (hs.below D0)
  have HT := Lib.hid (hT.belowAll D0)
  clear hs h hj hT hq
  simp only [gv, gIf] at *
  go_enter Tryd.func38, Tryd.ntmps38
  go_wp2_with fail
  refine hc.mono ?_
  rintro e w1 ⟨rfl, hb⟩
  have s1 := hb.size
  have hs1 := HS.out.below hb
  have hT1 := HT.out.belowAll hb
  rw [World.size_alloc] at hb s1
  go_wp2_with fail
  refine (HCL.out w1 hs1 hT1).mono ?_
  rintro e w2 ⟨rfl, hb2⟩
  have E2 := D0.trans ((hb.trans (hb2.mono s1)).mono (by omega))
  clear hb hb2 hs1 hc
  go_wp2_with fail
  go_ret2
  exact ⟨rfl, E2⟩

set_option maxHeartbeats 800000 in
theorem groupSet_2 (p : Nat) (v : Value) (zs : List Int) (w : World) (hs : Sl w v zs) (hl : zs.length ≤ 9223372036854775807) (h : gOk 2 p = true) (hj : elOk (gOrd 2 p) zs zs.length = true) (hT : Tab w) (hq : clE 2 p zs = zs) :
    Calls Tryd.prog 38 #[gv 2 p, v] w fun e w' => e = .returned (.tuple #[gIf 2 p, .int .i64 0]) ∧ Below w.heap.size w w' := by
  have D0 : Below w.heap.size w (w.alloc (.cells #[.int .i64 2, .int .i64 p] 27)) := (Below.refl _ _).alloc (Nat.le_refl _) _
  have hc := groupWith_2 p v zs (w.alloc (.cells #[.int .i64 2, .int .i64 p] 27)) h (hs.below D0) hl hj
  have HCL := Lib.hid (fun W hsw hTW => implSet_2 p v zs W h hj hsw hl hTW)
  rw [decide_eq_true hq] at HCL
  have HS := Lib.hid (hs.below D0)
  have HT := Lib.hid (hT.belowAll D0)
  clear hs h hj hT hq
  simp only [gv, gIf] at *
  go_enter Tryd.func38, Tryd.ntmps38
  go_wp2_with fail
  refine hc.mono ?_
  rintro e w1 ⟨rfl, hb⟩
  have s1 := hb.size
  have hs1 := HS.out.below hb
  have hT1 := HT.out.belowAll hb
  rw [World.size_alloc] at hb s1
  go_wp2_with fail
  refine (HCL.out w1 hs1 hT1).mono ?_
  rintro e w2 ⟨rfl, hb2⟩
  have E2 := D0.trans ((hb.trans (hb2.mono s1)).mono (by omega))
  clear hb hb2 hs1 hc
  go_wp2_with fail
  go_ret2
  exact ⟨rfl, E2⟩

set_option maxHeartbeats 800000 in
theorem groupSetBad_2 (p : Nat) (v : Value) (zs : List Int) (w : World) (hs : Sl w v zs) (hl : zs.length ≤ 9223372036854775807) (h : gOk 2 p = true) (hj : elOk (gOrd 2 p) zs zs.length = true) (hT : Tab w) (hq : ¬ clE 2 p zs = zs) :
    Calls Tryd.prog 38 #[gv 2 p, v] w fun e w' => e = .returned (.tuple #[.nilIface, .int .i64 5]) ∧ Below w.heap.size w w' := by
  have D0 : Below w.heap.size w (w.alloc (.cells #[.int .i64 2, .int .i64 p] 27)) := (Below.refl _ _).alloc (Nat.le_refl _) _
  have hc := groupWith_2 p v zs (w.alloc (.cells #[.int .i64 2, .int .i64 p] 27)) h (hs.below D0) hl hj
  have HCL := Lib.hid (fun W hsw hTW => implSet_2 p v zs W h hj hsw hl hTW)
  rw [decide_eq_false hq] at HCL
  have HS := Lib.hid (hs.below D0)
  have HT := Lib.hid (hT.belowAll D0)
  clear hs h hj hT hq
  simp only [gv, gIf] at *
  go_enter Tryd.func38, Tryd.ntmps38
  go_wp2_with fail
  refine hc.mono ?_
  rintro e w1 ⟨rfl, hb⟩
  have s1 := hb.size
  have hs1 := HS.out.below hb
  have hT1 := HT.out.belowAll hb
  rw [World.size_alloc] at hb s1
  go_wp2_with fail
  refine (HCL.out w1 hs1 hT1).mono ?_
  rintro e w2 ⟨rfl, hb2⟩
  have E2 := D0.trans ((hb.trans (hb2.mono s1)).mono (by omega))
  clear hb hb2 hs1 hc
  go_wp2_with fail
  go_ret2
  exact ⟨rfl, E2⟩

/-- Where the code is not 0, the answer is nil. -/
theorem groupSet_no (a b : Int) (v : Value) (zs : List Int) (w : World) (hs : Sl w v zs) (hl : zs.length ≤ 9223372036854775807) (hT : Tab w) (h : giC a b zs ≠ 0) :
    Calls Tryd.prog 38 #[gv a b, v] w fun e w' => e = .returned (.tuple #[.nilIface, .int .i64 (giC a b zs)]) ∧ Below w.heap.size w w' := by
  by_cases he : elC a b zs = 0
  · obtain ⟨k, p, rfl, rfl, hg, hj⟩ := elC_zero he
    by_cases hn : clE k p zs = zs
    · exact absurd (giC_yes he hn) h
    · rw [giC_set he hn]
      match k, hg, hj, hn with
      | 0, hg, hj, hn => exact groupSetBad_0 p v zs w hs hl hg hj hT hn
      | 1, hg, hj, hn => exact groupSetBad_1 p v zs w hs hl hg hj hT hn
      | 2, hg, hj, hn => exact groupSetBad_2 p v zs w hs hl hg hj hT hn
      | k + 3, hg, _, _ => simp [gOk] at hg
  · rw [giC_code he]
    exact groupSet_code a b v zs w hs hl he

set_option maxHeartbeats 800000 in
theorem l05Given_code (a b : Int) (v : Value) (zs : List Int) (w : World) (hs : Sl w v zs) (hl : zs.length ≤ 9223372036854775807) (h : elC a b zs ≠ 0) :
    Calls Tryd.prog 36 #[gv a b, v] w fun e w' => e = .returned (.int .i64 (elC a b zs)) ∧ Below w.heap.size w w' := by
  have D0 : Below w.heap.size w (w.alloc (.cells #[.int .i64 a, .int .i64 b] 27)) := (Below.refl _ _).alloc (Nat.le_refl _) _
  have hc := l05Elements_any a b v zs (w.alloc (.cells #[.int .i64 a, .int .i64 b] 27)) (hs.below D0) hl
  obtain ⟨c, hcc⟩ : ∃ c, c = elC a b zs := ⟨_, rfl⟩
  rw [← hcc] at hc h ⊢
  have e0 : (c == 0) = false := by simpa using h
  clear hcc h hs
  unfold gv at *
  go_enter Tryd.func36, Tryd.ntmps36
  go_wp2_with (go_at_call 33; with_reducible refine hc.mono ?_; rintro e w1 ⟨rfl, hb⟩)
  go_ret
  exact ⟨rfl, D0.trans (hb.mono D0.size)⟩

set_option maxHeartbeats 800000 in
theorem l05Given_near (k p : Nat) (v : Value) (zs : List Int) (w : World) (c : Int) (hs : Sl w v zs) (hl : zs.length ≤ 9223372036854775807) (h : gOk k p = true) (hj : elOk (gOrd k p) zs zs.length = true) (d : Bool) (hd : decide (clE k p zs = zs) = d) (hcd : c = if d then 0 else 5) :
    Calls Tryd.prog 36 #[gv k p, v] w fun e w' => e = .returned (.int .i64 c) ∧ Below w.heap.size w w' := by
  have D0 : Below w.heap.size w (w.alloc (.cells #[.int .i64 k, .int .i64 p] 27)) := (Below.refl _ _).alloc (Nat.le_refl _) _
  have HB0 := Lib.hid (World.alloc_heap_new w (.cells #[.int .i64 k, .int .i64 p] 27))
  have hc := l05Elements_any k p v zs (w.alloc (.cells #[.int .i64 k, .int .i64 p] 27)) (hs.below D0) hl
  rw [elC_yes h hj] at hc
  have HCL := Lib.hid (fun W hsw => l05Set_any k p v zs W h hj hsw hl)
  rw [hd] at HCL
  have HS := Lib.hid (hs.below D0)
  clear hs h hj hd
  simp only [gv] at *
  cases d
  all_goals
    simp only [if_true, Bool.false_eq_true, if_false] at hcd
    subst hcd
    go_enter Tryd.func36, Tryd.ntmps36
    go_wp2_with fail
    refine hc.mono ?_
    rintro e w1 ⟨rfl, hb⟩
    have s1 := hb.size
    have hs1 := HS.out.below hb
    rw [World.size_alloc] at hb s1
    obtain ⟨r0, r1, -, -⟩ := two_cells ((hb.block w.heap.size (by omega)).trans HB0.out)
    go_wp2_with fail
    refine (HCL.out w1 hs1).mono ?_
    rintro e w2 ⟨rfl, hb2⟩
    have E2 := D0.trans ((hb.trans (hb2.mono s1)).mono (by omega))
    clear hb hb2 hs1
    go_wp2_with fail
    go_ret
    exact ⟨rfl, E2⟩

theorem l05Given_any (a b : Int) (v : Value) (zs : List Int) (w : World) (hs : Sl w v zs) (hl : zs.length ≤ 9223372036854775807) :
    Calls Tryd.prog 36 #[gv a b, v] w fun e w' => e = .returned (.int .i64 (giC a b zs)) ∧ Below w.heap.size w w' := by
  by_cases he : elC a b zs = 0
  · obtain ⟨k, p, rfl, rfl, hg, hj⟩ := elC_zero he
    by_cases hn : clE k p zs = zs
    · rw [giC_yes he hn]; exact l05Given_near k p v zs w 0 hs hl hg hj true (decide_eq_true hn) rfl
    · rw [giC_set he hn]; exact l05Given_near k p v zs w 5 hs hl hg hj false (decide_eq_false hn) rfl
  · rw [giC_code he]; exact l05Given_code a b v zs w hs hl he
end Go.Proofs.YtklgimikdnokcaaDoor
