/-
  spec.l05Set; IsConnectionSet: both programs. (A tied seat.)
-/
import Derived.Test.YtklgimikdnokcaaDoorKc
namespace Go.Proofs.YtklgimikdnokcaaDoor
set_option maxRecDepth 100000
open Go.RowKit

set_option maxHeartbeats 1600000 in
theorem l05Set_len (k p : Nat) (v : Value) (js : List Int) (w : World) (h : gOk k p = true) (hj : elOk (gOrd k p) js js.length = true) (hs : Sl w v js) (hl : js.length ≤ 9223372036854775807) (hne : (clE k p js).length ≠ js.length) :
    Calls Tryd.prog 34 #[gv k p, v] w fun e w' => e = .returned (.bool false) ∧ Below w.heap.size w w' := by
  have D0 : Below w.heap.size w (w.alloc (.cells #[.int .i64 k, .int .i64 p] 27)) := (Below.refl _ _).alloc (Nat.le_refl _) _
  have hc := l05Closed_any k p v js (w.alloc (.cells #[.int .i64 k, .int .i64 p] 27)) h hj (hs.below D0) hl
  have hf := slForm hs
  obtain ⟨L, hL⟩ : ∃ L, L = clE k p js := ⟨_, rfl⟩
  rw [← hL] at hc hne
  clear hs h hj hL
  obtain ⟨qa, qc, rfl⟩ : ∃ a c, v = .slice a js.length c := ⟨_, _, hf⟩
  clear hf
  have hbn : ((L.length : Int) != js.length) = true := by rw [bne_iff_ne]; omega
  simp only [gv] at *
  go_enter Tryd.func34, Tryd.ntmps34
  go_wp2_with fail
  refine hc.mono ?_
  rintro e w1 ⟨⟨u, rfl, hO⟩, hb⟩
  obtain ⟨ua, uc, rfl⟩ : ∃ a c, u = .slice a L.length c := ⟨_, _, slForm hO.sl⟩
  go_wp2_with fail
  go_ret
  exact ⟨rfl, D0.trans (hb.mono D0.size)⟩

set_option maxHeartbeats 1600000 in
theorem l05Set_zero (k p : Nat) (a : Option Addr) (c : Nat) (w : World) (h : gOk k p = true) (h0 : clE k p [] = []) :
    Calls Tryd.prog 34 #[gv k p, .slice a 0 c] w fun e w' => e = .returned (.bool true) ∧ Below w.heap.size w w' := by
  have D0 : Below w.heap.size w (w.alloc (.cells #[.int .i64 k, .int .i64 p] 27)) := (Below.refl _ _).alloc (Nat.le_refl _) _
  have hc := l05Closed_any k p (.slice a 0 c) [] (w.alloc (.cells #[.int .i64 k, .int .i64 p] 27)) h rfl (.inl ⟨_, _, rfl, rfl⟩) (by simp)
  rw [h0] at hc
  clear h h0
  simp only [gv] at *
  go_enter Tryd.func34, Tryd.ntmps34
  go_wp2_with fail
  refine hc.mono ?_
  rintro e w1 ⟨⟨u, rfl, hO⟩, hb⟩
  obtain ⟨ua, uc, rfl⟩ : ∃ a c, u = .slice a 0 c := ⟨_, _, slForm hO.sl⟩
  go_wp2_with fail
  go_loopw [6] (fun i wr => i = .int .i64 0 ∧ Below w.heap.size w wr) (fun _ _ => 0)
  case atStart => exact ⟨rfl, D0.trans (hb.mono D0.size)⟩
  case round =>
    obtain ⟨rfl, hE⟩ := hrel
    go_wp2_with fail
    go_ret
    exact ⟨rfl, hE⟩

set_option maxHeartbeats 1600000 in
theorem l05Set_some (k p b2 o2 c2 n : Nat) (js : List Int) (w : World) (h : gOk k p = true) (hj : elOk (gOrd k p) js js.length = true) (hn2 : js.length = n) (h0 : 0 < n) (hb2 : b2 < w.heap.size) (hc2 : Cells w b2 o2 js) (hl : n ≤ 9223372036854775807) (hlen : (clE k p js).length = n) :
    Calls Tryd.prog 34 #[gv k p, .slice (some ⟨b2, o2, none⟩) n c2] w fun e w' => e = .returned (.bool (decide (clE k p js = js))) ∧ Below w.heap.size w w' := by
  have D0 : Below w.heap.size w (w.alloc (.cells #[.int .i64 k, .int .i64 p] 27)) := (Below.refl _ _).alloc (Nat.le_refl _) _
  have hc := l05Closed_any k p (.slice (some ⟨b2, o2, none⟩) n c2) js (w.alloc (.cells #[.int .i64 k, .int .i64 p] 27)) h hj (by rw [← hn2]; exact .inr ⟨b2, o2, c2, rfl, Nat.lt_of_lt_of_le hb2 D0.size, hc2.below D0 hb2⟩) (by omega)
  have HC2 := Lib.hid hc2
  have HN2 := Lib.hid hn2
  obtain ⟨xs, hL⟩ : ∃ L, L = clE k p js := ⟨_, rfl⟩
  rw [← hL] at hc hlen ⊢
  have HN1 := Lib.hid hlen
  clear h hj hL hc2 hn2 hlen
  simp only [gv] at *
  go_enter Tryd.func34, Tryd.ntmps34
  go_wp2_with fail
  refine hc.mono ?_
  rintro e w1 ⟨⟨u, rfl, hO⟩, hb1⟩
  obtain ⟨b1, o1, c1, rfl, hb1', hc1⟩ : ∃ b o c, u = .slice (some ⟨b, o, none⟩) n c ∧ b < w1.heap.size ∧ Cells w1 b o xs := by
    rcases hO.sl with ⟨_, _, _, e⟩ | ⟨b, o, c, e, h1, h2⟩
    · have := HN1.out; rw [e] at this; simp at this; omega
    · exact ⟨b, o, c, by rw [e, HN1.out], h1, h2⟩
  have HC1 := Lib.hid hc1
  have E1 := D0.trans (hb1.mono D0.size)
  clear hO hc1 hb1 hc
  go_wp2_with fail
  go_loopw [6] (fun i wr => ∃ t : Nat, t ≤ n ∧ i = .int .i64 t ∧ Hid (xs.take t = js.take t) ∧ Below w1.heap.size w1 wr) (fun i _ => n - (intOf i).toNat)
  case atStart => exact ⟨0, Nat.zero_le _, rfl, rfl, Below.refl _ _⟩
  case round =>
    obtain ⟨t, ht, rfl, HE, hb⟩ := hrel
    have hw1 := E1.size
    by_cases hlt : (t : Int) < n
    · have hk1 : t < xs.length := by have := HN1.out; omega
      have hk2 : t < js.length := by have := HN2.out; omega
      have hz1 : wr.cell? ⟨b1, o1 + t, none⟩ = some (.int .i64 (el xs t)) := (hb.cell (p := ⟨b1, o1 + t, none⟩) hb1').trans (HC1.out t hk1)
      have hz2 : wr.cell? ⟨b2, o2 + t, none⟩ = some (.int .i64 (el js t)) := (hb.cell (p := ⟨b2, o2 + t, none⟩) (by simp; omega)).trans ((E1.cell (p := ⟨b2, o2 + t, none⟩) hb2).trans (HC2.out t hk2))
      have hk0 : (0 : Int) ≤ t := by omega
      by_cases he : el xs t = el js t
      · have HO : Hid (xs.take (t + 1) = js.take (t + 1)) := take_eq_succ xs js t hk1 hk2 HE.out he
        have hne : (el xs t != el js t) = false := by simpa using he
        clear he
        go_wp2_with fail
        go_quiet (fail)
        go_wp2_with fail
        go_roundw
        case rel => exact ⟨t + 1, by omega, by go_num, HO, drewN_below hb _⟩
        case measure => simp [intOf]; omega
      · have hne : (el xs t != el js t) = true := by simpa using he
        have hd : decide (xs = js) = false := by simp; intro e; exact he (by rw [e])
        have HD := Lib.hid hd; clear hd he
        go_wp2_with fail
        go_quiet (fail)
        go_wp2_with fail
        go_ret
        exact ⟨ret_bool HD.out.symm, E1.trans ((drewN_below hb _).mono E1.size)⟩
    · have hkl : t = n := by omega
      subst hkl
      have hd : decide (xs = js) = true := by
        have h1 := HE.out
        rw [List.take_of_length_le (by have := HN1.out; omega), List.take_of_length_le (by have := HN2.out; omega)] at h1
        simpa using h1
      have HD := Lib.hid hd; clear hd
      go_wp2_with fail
      go_ret
      exact ⟨ret_bool HD.out.symm, E1.trans (hb.mono E1.size)⟩

theorem l05Set_any (k p : Nat) (v : Value) (js : List Int) (w : World) (h : gOk k p = true) (hj : elOk (gOrd k p) js js.length = true) (hs : Sl w v js) (hl : js.length ≤ 9223372036854775807) :
    Calls Tryd.prog 34 #[gv k p, v] w fun e w' => e = .returned (.bool (decide (clE k p js = js))) ∧ Below w.heap.size w w' := by
  by_cases hlen : (clE k p js).length = js.length
  · by_cases h0 : js.length = 0
    · obtain rfl := List.eq_nil_of_length_eq_zero h0
      have hn : clE k p [] = [] := List.eq_nil_of_length_eq_zero (by rw [hlen]; rfl)
      have hf := slForm hs
      rw [hf, hn]
      exact l05Set_zero k p _ _ w h hn
    · rcases hs with ⟨_, _, _, rfl⟩ | ⟨b2, o2, c2, rfl, hb2, hc2⟩
      · simp at h0
      · exact l05Set_some k p b2 o2 c2 js.length js w h hj rfl (by omega) hb2 hc2 hl hlen
  · have hd : decide (clE k p js = js) = false := by simp; intro e; exact hlen (by rw [e])
    rw [hd]
    exact l05Set_len k p v js w h hj hs hl hlen

/-- Whether a list is a connection set. -/
def isC (a b : Int) (zs : List Int) : Bool := decide (elC a b zs = 0) && decide (clE a.toNat b.toNat zs = zs)
theorem isC_no {a b : Int} {zs : List Int} (h : elC a b zs ≠ 0) : isC a b zs = false := by unfold isC; rw [decide_eq_false h]; rfl
theorem isC_yes {k p : Nat} {zs : List Int} (h : elC k p zs = 0) : isC k p zs = decide (clE k p zs = zs) := by unfold isC; rw [decide_eq_true h, Bool.true_and, Int.toNat_natCast, Int.toNat_natCast]

set_option maxHeartbeats 800000 in
theorem specIsC_no (a b : Int) (v : Value) (zs : List Int) (w : World) (hs : Sl w v zs) (hl : zs.length ≤ 9223372036854775807) (h : elC a b zs ≠ 0) :
    Calls Tryd.prog 16 #[gv a b, v] w fun e w' => e = .returned (.tuple #[.bool false, .int .i64 (elC a b zs)]) ∧ Below w.heap.size w w' := by
  have D0 : Below w.heap.size w (w.alloc (.cells #[.int .i64 a, .int .i64 b] 27)) := (Below.refl _ _).alloc (Nat.le_refl _) _
  have hc := l05Elements_any a b v zs (w.alloc (.cells #[.int .i64 a, .int .i64 b] 27)) (hs.below D0) hl
  obtain ⟨c, hcc⟩ : ∃ c, c = elC a b zs := ⟨_, rfl⟩
  rw [← hcc] at hc h ⊢
  have e0 : (c == 0) = false := by simpa using h
  clear hcc h hs
  unfold gv at *
  go_enter Tryd.func16, Tryd.ntmps16
  go_wp2_with (go_at_call 33; with_reducible refine hc.mono ?_; rintro e w1 ⟨rfl, hb⟩)
  go_ret2
  exact ⟨rfl, D0.trans (hb.mono D0.size)⟩

set_option maxHeartbeats 800000 in
theorem implIsC_no (a b : Int) (v : Value) (zs : List Int) (w : World) (hs : Sl w v zs) (hl : zs.length ≤ 9223372036854775807) (h : elC a b zs ≠ 0) :
    Calls Tryd.prog 17 #[gv a b, v] w fun e w' => e = .returned (.tuple #[.bool false, .int .i64 (elC a b zs)]) ∧ Below w.heap.size w w' := by
  have D0 : Below w.heap.size w (w.alloc (.cells #[.int .i64 a, .int .i64 b] 27)) := (Below.refl _ _).alloc (Nat.le_refl _) _
  have hc := groupWith_no a b v zs (w.alloc (.cells #[.int .i64 a, .int .i64 b] 27)) (hs.below D0) hl h
  obtain ⟨c, hcc⟩ : ∃ c, c = elC a b zs := ⟨_, rfl⟩
  rw [← hcc] at hc h ⊢
  have e0 : (c == 0) = false := by simpa using h
  clear hcc h hs
  unfold gv at *
  go_enter Tryd.func17, Tryd.ntmps17
  go_wp2_with (go_at_call 31; with_reducible refine hc.mono ?_; rintro e w1 ⟨rfl, hb⟩)
  go_ret2
  exact ⟨rfl, D0.trans (hb.mono D0.size)⟩

set_option maxHeartbeats 800000 in
theorem specIsC_yes (k p : Nat) (v : Value) (zs : List Int) (w : World) (hs : Sl w v zs) (hl : zs.length ≤ 9223372036854775807) (h : gOk k p = true) (hj : elOk (gOrd k p) zs zs.length = true) :
    Calls Tryd.prog 16 #[gv k p, v] w fun e w' => e = .returned (.tuple #[.bool (decide (clE k p zs = zs)), .int .i64 0]) ∧ Below w.heap.size w w' := by
  have D0 : Below w.heap.size w (w.alloc (.cells #[.int .i64 k, .int .i64 p] 27)) := (Below.refl _ _).alloc (Nat.le_refl _) _
  have HB0 := Lib.hid (World.alloc_heap_new w (.cells #[.int .i64 k, .int .i64 p] 27))
  have hc := l05Elements_any k p v zs (w.alloc (.cells #[.int .i64 k, .int .i64 p] 27)) (hs.below D0) hl
  rw [elC_yes h hj] at hc
  have HCL := Lib.hid (fun W hsw => l05Set_any k p v zs W h hj hsw hl)
  have HS := Lib.hid (hs.below D0)
  obtain ⟨d, hd⟩ : ∃ d, d = decide (clE k p zs = zs) := ⟨_, rfl⟩
  rw [← hd] at HCL ⊢
  clear hs h hj hd
  simp only [gv] at *
  go_enter Tryd.func16, Tryd.ntmps16
  go_wp2_with fail
  refine hc.mono ?_
  rintro e w1 ⟨rfl, hb⟩
  have s1 := hb.size
  have hs1 := HS.out.below hb
  rw [World.size_alloc] at hb s1
  obtain ⟨r0, r1, -, -⟩ := two_cells ((hb.block w.heap.size (by omega)).trans HB0.out)
  go_wp2_with fail
  refine (HCL.out w1 hs1).mono ?_
  rintro e w2 ⟨rfl, hb2⟩
  have E2 := D0.trans ((hb.trans (hb2.mono s1)).mono (by omega))
  clear hb hb2 hs1 hc
  go_wp2_with fail
  go_ret2
  exact ⟨rfl, E2⟩

set_option maxHeartbeats 800000 in
theorem implIsC_0 (p : Nat) (v : Value) (zs : List Int) (w : World) (hs : Sl w v zs) (hl : zs.length ≤ 9223372036854775807) (h : gOk 0 p = true) (hj : elOk (gOrd 0 p) zs zs.length = true) (hT : Tab w) :
    Calls Tryd.prog 17 #[gv 0 p, v] w fun e w' => e = .returned (.tuple #[.bool (decide (clE 0 p zs = zs)), .int .i64 0]) ∧ Below w.heap.size w w' := by
  have D0 : Below w.heap.size w (w.alloc (.cells #[.int .i64 0, .int .i64 p] 27)) := (Below.refl _ _).alloc (Nat.le_refl _) _
  have hc := groupWith_0 p v zs (w.alloc (.cells #[.int .i64 0, .int .i64 p] 27)) h (hs.below D0) hl hj
  have HCL := Lib.hid (fun W hsw hTW => implSet_0 p v zs W h hj hsw hl hTW)
  have HS := Lib.hid (hs.below D0)
  have HT := Lib.hid (hT.belowAll D0)
  obtain ⟨d, hd⟩ : ∃ d, d = decide (clE 0 p zs = zs) := ⟨_, rfl⟩
  rw [← hd] at HCL ⊢
  clear hs h hj hT hd
  simp only [gv, gIf] at *
  go_enter Tryd.func17, Tryd.ntmps17
  go_wp2_with fail
  refine hc.mono ?_
  rintro e w1 ⟨rfl, hb⟩
  have s1 := hb.size
  have hs1 := HS.out.below hb
  have hT1 := HT.out.belowAll hb
  rw [World.size_alloc] at hb s1
  go_wp2_with fail
  refine (HCL.out w1 hs1 hT1).mono ?_
  rintro e w2 ⟨rfl, hb2⟩
  have E2 := D0.trans ((hb.trans (hb2.mono s1)).mono (by omega))
  clear hb hb2 hs1 hc
  go_wp2_with fail
  go_ret2
  exact ⟨rfl, E2⟩

set_option maxHeartbeats 800000 in
theorem implIsC_1 (p : Nat) (v : Value) (zs : List Int) (w : World) (hs : Sl w v zs) (hl : zs.length ≤ 9223372036854775807) (h : gOk 1 p = true) (hj : elOk (gOrd 1 p) zs zs.length = true) (hT : Tab w) :
    Calls Tryd.prog 17 #[gv 1 p, v] w fun e w' => e = .returned (.tuple #[.bool (decide (clE 1 p zs = zs)), .int .i64 0]) ∧ Below w.heap.size w w' := by
  have D0 : Below w.heap.size w (w.alloc (.cells #[.int .i64 1, .int .i64 p] 27)) := (Below.refl _ _).alloc (Nat.le_refl _) _
  have hc := groupWith_1 p v zs (w.alloc (.cells #[.int .i64 1, .int .i64 p] 27)) h (hs.below D0) hl hj
  have HCL := Lib.hid (fun W hsw hTW => implSet_1 p v zs W h hj hsw hl hTW)
  have HS := Lib.hid (hs.below D0)
  have HT := Lib.hid (hT.belowAll D0)
  obtain ⟨d, hd⟩ : ∃ d, d = decide (clE 1 p zs = zs) := ⟨_, rfl⟩
  rw [← hd] at HCL ⊢
  clear hs h hj hT hd
  simp only [gv, gIf] at *
  go_enter Tryd.func17, Tryd.ntmps17
  go_wp2_with fail
  refine hc.mono ?_
  rintro e w1 ⟨rfl, hb⟩
  have s1 := hb.size
  have hs1 := HS.out.below hb
  have hT1 := HT.out.belowAll hb
  rw [World.size_alloc] at hb s1
  go_wp2_with fail
  refine (HCL.out w1 hs1 hT1).mono ?_
  rintro e w2 ⟨rfl, hb2⟩
  have E2 := D0.trans ((hb.trans (hb2.mono s1)).mono (by omega))
  clear hb hb2 hs1 hc
  go_wp2_with fail
  go_ret2
  exact ⟨rfl, E2⟩

set_option maxHeartbeats 800000 in
theorem implIsC_2 (p : Nat) (v : Value) (zs : List Int) (w : World) (hs : Sl w v zs) (hl : zs.length ≤ 9223372036854775807) (h : gOk 2 p = true) (hj : elOk (gOrd 2 p) zs zs.length = true) (hT : Tab w) :
    Calls Tryd.prog 17 #[gv 2 p, v] w fun e w' => e = .returned (.tuple #[.bool (decide (clE 2 p zs = zs)), .int .i64 0]) ∧ Below w.heap.size w w' := by
  have D0 : Below w.heap.size w (w.alloc (.cells #[.int .i64 2, .int .i64 p] 27)) := (Below.refl _ _).alloc (Nat.le_refl _) _
  have hc := groupWith_2 p v zs (w.alloc (.cells #[.int .i64 2, .int .i64 p] 27)) h (hs.below D0) hl hj
  have HCL := Lib.hid (fun W hsw hTW => implSet_2 p v zs W h hj hsw hl hTW)
  have HS := Lib.hid (hs.below D0)
  have HT := Lib.hid (hT.belowAll D0)
  obtain ⟨d, hd⟩ : ∃ d, d = decide (clE 2 p zs = zs) := ⟨_, rfl⟩
  rw [← hd] at HCL ⊢
  clear hs h hj hT hd
  simp only [gv, gIf] at *
  go_enter Tryd.func17, Tryd.ntmps17
  go_wp2_with fail
  refine hc.mono ?_
  rintro e w1 ⟨rfl, hb⟩
  have s1 := hb.size
  have hs1 := HS.out.below hb
  have hT1 := HT.out.belowAll hb
  rw [World.size_alloc] at hb s1
  go_wp2_with fail
  refine (HCL.out w1 hs1 hT1).mono ?_
  rintro e w2 ⟨rfl, hb2⟩
  have E2 := D0.trans ((hb.trans (hb2.mono s1)).mono (by omega))
  clear hb hb2 hs1 hc
  go_wp2_with fail
  go_ret2
  exact ⟨rfl, E2⟩

theorem specIsC_any (a b : Int) (v : Value) (zs : List Int) (w : World) (hs : Sl w v zs) (hl : zs.length ≤ 9223372036854775807) :
    Calls Tryd.prog 16 #[gv a b, v] w fun e w' => e = .returned (.tuple #[.bool (isC a b zs), .int .i64 (elC a b zs)]) ∧ Below w.heap.size w w' := by
  by_cases h : elC a b zs = 0
  · obtain ⟨k, p, rfl, rfl, hg, hj⟩ := elC_zero h
    rw [isC_yes h, h]
    exact specIsC_yes k p v zs w hs hl hg hj
  · rw [isC_no h]
    exact specIsC_no a b v zs w hs hl h

theorem implIsC_any (a b : Int) (v : Value) (zs : List Int) (w : World) (hs : Sl w v zs) (hl : zs.length ≤ 9223372036854775807) (hT : Tab w) :
    Calls Tryd.prog 17 #[gv a b, v] w fun e w' => e = .returned (.tuple #[.bool (isC a b zs), .int .i64 (elC a b zs)]) ∧ Below w.heap.size w w' := by
  by_cases h : elC a b zs = 0
  · obtain ⟨k, p, rfl, rfl, hg, hj⟩ := elC_zero h
    rw [isC_yes h, h]
    match k, hg, hj with
    | 0, hg, hj => exact implIsC_0 p v zs w hs hl hg hj hT
    | 1, hg, hj => exact implIsC_1 p v zs w hs hl hg hj hT
    | 2, hg, hj => exact implIsC_2 p v zs w hs hl hg hj hT
    | k + 3, hg, _ => simp [gOk] at hg
  · rw [isC_no h]
    exact implIsC_no a b v zs w hs hl h

end Go.Proofs.YtklgimikdnokcaaDoor
