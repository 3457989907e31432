/-
  ClosedSet: both programs. (A tied seat.)
-/
import Derived.Test.YtklgimikdnokcaaDoorKa
import Derived.Test.YtklgimikdnokcaaDoorKb
import Derived.Test.YtklgimikdnokcaaDoorEz
import Derived.Test.YtklgimikdnokcaaDoorGg
namespace Go.Proofs.YtklgimikdnokcaaDoor
set_option maxRecDepth 100000
open Go.RowKit

/-- The closed set and its code. -/
def clC (a b : Int) (zs : List Int) : Int := if elC a b zs = 0 then (if 62 < zs.length then 2 else 0) else elC a b zs
def clL (a b : Int) (zs : List Int) : List Int := if elC a b zs = 0 ∧ zs.length ≤ 62 then clE a.toNat b.toNat zs else []
theorem clC_code {a b : Int} {zs : List Int} (h : elC a b zs ≠ 0) : clC a b zs = elC a b zs ∧ clL a b zs = [] := by
  unfold clC clL
  exact ⟨if_neg h, if_neg fun e => h e.1⟩
theorem clC_long {a b : Int} {zs : List Int} (h : elC a b zs = 0) (hl : 62 < zs.length) : clC a b zs = 2 ∧ clL a b zs = [] := by
  unfold clC clL
  exact ⟨by rw [if_pos h, if_pos hl], if_neg fun e => by omega⟩
theorem clC_yes {k p : Nat} {zs : List Int} (h : elC k p zs = 0) (hl : zs.length ≤ 62) : clC k p zs = 0 ∧ clL k p zs = clE k p zs := by
  unfold clC clL
  exact ⟨by rw [if_pos h, if_neg (by omega)], by rw [if_pos ⟨h, hl⟩, Int.toNat_natCast, Int.toNat_natCast]⟩
theorem clL_length (a b : Int) (zs : List Int) : (clL a b zs).length ≤ 62 := by
  unfold clL
  split
  · rename_i h
    obtain ⟨k, p, rfl, rfl, hg, _⟩ := elC_zero h.1
    exact clE_length hg
  · simp

set_option maxHeartbeats 800000 in
theorem l05List_code (a b : Int) (v : Value) (zs : List Int) (w : World) (hs : Sl w v zs) (hl : zs.length ≤ 9223372036854775807) (h : elC a b zs ≠ 0) :
    Calls Tryd.prog 29 #[gv a b, v] w fun e w' => e = .returned (.int .i64 (elC a b zs)) ∧ Below w.heap.size w w' := by
  have D0 : Below w.heap.size w (w.alloc (.cells #[.int .i64 a, .int .i64 b] 27)) := (Below.refl _ _).alloc (Nat.le_refl _) _
  have hc := l05Elements_any a b v zs (w.alloc (.cells #[.int .i64 a, .int .i64 b] 27)) (hs.below D0) hl
  have hf := slForm hs
  obtain ⟨c, hcc⟩ : ∃ c, c = elC a b zs := ⟨_, rfl⟩
  rw [← hcc] at hc h ⊢
  have e0 : (c == 0) = false := by simpa using h
  clear hcc h
  clear hs
  rw [hf] at hc ⊢
  clear hf
  unfold gv at *
  go_enter Tryd.func29, Tryd.ntmps29
  go_wp2_with (go_at_call 33; with_reducible refine hc.mono ?_; rintro e w1 ⟨rfl, hb⟩)
  go_ret
  exact ⟨rfl, D0.trans (hb.mono D0.size)⟩

set_option maxHeartbeats 800000 in
theorem l05List_long (a b : Int) (v : Value) (zs : List Int) (w : World) (hs : Sl w v zs) (hl : zs.length ≤ 9223372036854775807) (h : elC a b zs = 0) (h62 : 62 < zs.length) :
    Calls Tryd.prog 29 #[gv a b, v] w fun e w' => e = .returned (.int .i64 (2)) ∧ Below w.heap.size w w' := by
  have D0 : Below w.heap.size w (w.alloc (.cells #[.int .i64 a, .int .i64 b] 27)) := (Below.refl _ _).alloc (Nat.le_refl _) _
  have hc := l05Elements_any a b v zs (w.alloc (.cells #[.int .i64 a, .int .i64 b] 27)) (hs.below D0) hl
  have hf := slForm hs
  rw [h] at hc
  clear h
  have h2 : (62 : Int) < zs.length := by omega
  clear hs
  rw [hf] at hc ⊢
  clear hf
  unfold gv at *
  go_enter Tryd.func29, Tryd.ntmps29
  go_wp2_with (go_at_call 33; with_reducible refine hc.mono ?_; rintro e w1 ⟨rfl, hb⟩)
  go_ret
  exact ⟨rfl, D0.trans (hb.mono D0.size)⟩

set_option maxHeartbeats 800000 in
theorem l05List_yes (a b : Int) (v : Value) (zs : List Int) (w : World) (hs : Sl w v zs) (hl : zs.length ≤ 9223372036854775807) (h : elC a b zs = 0) (h62 : zs.length ≤ 62) :
    Calls Tryd.prog 29 #[gv a b, v] w fun e w' => e = .returned (.int .i64 (0)) ∧ Below w.heap.size w w' := by
  have D0 : Below w.heap.size w (w.alloc (.cells #[.int .i64 a, .int .i64 b] 27)) := (Below.refl _ _).alloc (Nat.le_refl _) _
  have hc := l05Elements_any a b v zs (w.alloc (.cells #[.int .i64 a, .int .i64 b] 27)) (hs.below D0) hl
  have hf := slForm hs
  rw [h] at hc
  clear h
  have h2 : ¬ (62 : Int) < zs.length := by omega
  clear hs
  rw [hf] at hc ⊢
  clear hf
  unfold gv at *
  go_enter Tryd.func29, Tryd.ntmps29
  go_wp2_with (go_at_call 33; with_reducible refine hc.mono ?_; rintro e w1 ⟨rfl, hb⟩)
  go_ret
  exact ⟨rfl, D0.trans (hb.mono D0.size)⟩

theorem l05List_any (a b : Int) (v : Value) (zs : List Int) (w : World) (hs : Sl w v zs) (hl : zs.length ≤ 9223372036854775807) :
    Calls Tryd.prog 29 #[gv a b, v] w fun e w' => e = .returned (.int .i64 (clC a b zs)) ∧ Below w.heap.size w w' := by
  by_cases h : elC a b zs = 0
  · by_cases h2 : 62 < zs.length
    · rw [(clC_long h h2).1]; exact l05List_long a b v zs w hs hl h h2
    · unfold clC; rw [if_pos h, if_neg h2]; exact l05List_yes a b v zs w hs hl h (by omega)
  · rw [(clC_code h).1]; exact l05List_code a b v zs w hs hl h

set_option maxHeartbeats 800000 in
theorem specClosed_no (a b : Int) (v : Value) (zs : List Int) (w : World) (hs : Sl w v zs) (hl : zs.length ≤ 9223372036854775807) (h : clC a b zs ≠ 0) :
    Calls Tryd.prog 9 #[gv a b, v] w fun e w' => LRes w.heap.size [] (clC a b zs) e w' ∧ Below w.heap.size w w' := by
  have D0 : Below w.heap.size w (w.alloc (.cells #[.int .i64 a, .int .i64 b] 27)) := (Below.refl _ _).alloc (Nat.le_refl _) _
  have hc := l05List_any a b v zs (w.alloc (.cells #[.int .i64 a, .int .i64 b] 27)) (hs.below D0) hl
  obtain ⟨c, hcc⟩ : ∃ c, c = clC a b zs := ⟨_, rfl⟩
  rw [← hcc] at hc h ⊢
  have e0 : (c == 0) = false := by simpa using h
  clear hcc h hs
  unfold gv at *
  go_enter Tryd.func9, Tryd.ntmps9
  go_wp2_with (go_at_call 29; with_reducible refine hc.mono ?_; rintro e w1 ⟨rfl, hb⟩)
  go_ret2
  exact ⟨⟨_, rfl, Own.nil _ _⟩, D0.trans (hb.mono D0.size)⟩

set_option maxHeartbeats 800000 in
theorem specClosed_yes (k p : Nat) (v : Value) (zs : List Int) (w : World) (hs : Sl w v zs) (hl : zs.length ≤ 62) (h : gOk k p = true) (hj : elOk (gOrd k p) zs zs.length = true) :
    Calls Tryd.prog 9 #[gv k p, v] w fun e w' => LRes w.heap.size (clE k p zs) 0 e w' ∧ Below w.heap.size w w' := by
  have D0 : Below w.heap.size w (w.alloc (.cells #[.int .i64 k, .int .i64 p] 27)) := (Below.refl _ _).alloc (Nat.le_refl _) _
  have HB0 := Lib.hid (World.alloc_heap_new w (.cells #[.int .i64 k, .int .i64 p] 27))
  have hc := l05List_any k p v zs (w.alloc (.cells #[.int .i64 k, .int .i64 p] 27)) (hs.below D0) (by omega)
  rw [(clC_yes (elC_yes h hj) hl).1] at hc
  have HCL := Lib.hid (fun W hsw => l05Closed_any k p v zs W h hj hsw (by omega))
  have HS := Lib.hid (hs.below D0)
  clear hs h hj
  simp only [gv] at *
  go_enter Tryd.func9, Tryd.ntmps9
  go_wp2_with fail
  refine hc.mono ?_
  rintro e w1 ⟨rfl, hb⟩
  have s1 := hb.size
  have hs1 := HS.out.below hb
  rw [World.size_alloc] at hb s1
  obtain ⟨r0, r1, -, -⟩ := two_cells ((hb.block w.heap.size (by omega)).trans HB0.out)
  go_wp2_with fail
  refine (HCL.out w1 hs1).mono ?_
  rintro e w2 ⟨⟨u, rfl, hO⟩, hb2⟩
  have HO := Lib.hid hO
  have E2 := D0.trans ((hb.trans (hb2.mono s1)).mono (by omega))
  clear hb hb2 hO hs1 hc
  go_wp2_with fail
  go_ret2
  exact ⟨⟨_, rfl, HO.out.base (by omega)⟩, E2⟩

theorem specClosed_any (a b : Int) (v : Value) (zs : List Int) (w : World) (hs : Sl w v zs) (hl : zs.length ≤ 9223372036854775807) :
    Calls Tryd.prog 9 #[gv a b, v] w fun e w' => LRes w.heap.size (clL a b zs) (clC a b zs) e w' ∧ Below w.heap.size w w' := by
  by_cases h : elC a b zs = 0
  · by_cases h2 : 62 < zs.length
    · have := specClosed_no a b v zs w hs hl (by rw [(clC_long h h2).1]; decide)
      rw [(clC_long h h2).2]; exact this
    · obtain ⟨k, p, rfl, rfl, hg, hj⟩ := elC_zero h
      rw [(clC_yes h (by omega)).1, (clC_yes h (by omega)).2]
      exact specClosed_yes k p v zs w hs (by omega) hg hj
  · have := specClosed_no a b v zs w hs hl (by rw [(clC_code h).1]; exact h)
    rw [(clC_code h).2]; exact this

set_option maxHeartbeats 800000 in
theorem implClosed_no (a b : Int) (v : Value) (zs : List Int) (w : World) (hs : Sl w v zs) (hl : zs.length ≤ 9223372036854775807) (h : elC a b zs ≠ 0) :
    Calls Tryd.prog 12 #[gv a b, v] w fun e w' => LRes w.heap.size [] (elC a b zs) e w' ∧ Below w.heap.size w w' := by
  have D0 : Below w.heap.size w (w.alloc (.cells #[.int .i64 a, .int .i64 b] 27)) := (Below.refl _ _).alloc (Nat.le_refl _) _
  have hc := groupWith_no a b v zs (w.alloc (.cells #[.int .i64 a, .int .i64 b] 27)) (hs.below D0) hl h
  obtain ⟨c, hcc⟩ : ∃ c, c = elC a b zs := ⟨_, rfl⟩
  rw [← hcc] at hc h ⊢
  have e0 : (c == 0) = false := by simpa using h
  clear hcc h hs
  unfold gv at *
  go_enter Tryd.func12, Tryd.ntmps12
  go_wp2_with (go_at_call 31; with_reducible refine hc.mono ?_; rintro e w1 ⟨rfl, hb⟩)
  go_ret2
  exact ⟨⟨_, rfl, Own.nil _ _⟩, D0.trans (hb.mono D0.size)⟩

set_option maxHeartbeats 800000 in
theorem implClosed_long (k p : Nat) (v : Value) (zs : List Int) (w : World) (hs : Sl w v zs) (hl : zs.length ≤ 9223372036854775807) (h62 : 62 < zs.length) (h : gOk k p = true) (hj : elOk (gOrd k p) zs zs.length = true) :
    Calls Tryd.prog 12 #[gv k p, v] w fun e w' => LRes w.heap.size [] 2 e w' ∧ Below w.heap.size w w' := by
  have D0 : Below w.heap.size w (w.alloc (.cells #[.int .i64 k, .int .i64 p] 27)) := (Below.refl _ _).alloc (Nat.le_refl _) _
  have hc := groupWith_any k p v zs (w.alloc (.cells #[.int .i64 k, .int .i64 p] 27)) h (hs.below D0) hl hj
  have hf := slForm hs
  clear hs h hj
  rw [hf] at hc ⊢
  clear hf
  have h2 : (62 : Int) < zs.length := by omega
  simp only [gv] at *
  go_enter Tryd.func12, Tryd.ntmps12
  go_wp2_with (go_at_call 31; with_reducible refine hc.mono ?_; rintro e w1 ⟨rfl, hb⟩)
  go_ret2
  exact ⟨⟨_, rfl, Own.nil _ _⟩, D0.trans (hb.mono D0.size)⟩

set_option maxHeartbeats 800000 in
theorem implClosed_0 (p : Nat) (v : Value) (zs : List Int) (w : World) (hs : Sl w v zs) (hl : zs.length ≤ 62) (h : gOk 0 p = true) (hj : elOk (gOrd 0 p) zs zs.length = true) (hT : Tab w) :
    Calls Tryd.prog 12 #[gv 0 p, v] w fun e w' => LRes w.heap.size (clE 0 p zs) 0 e w' ∧ Below w.heap.size w w' := by
  have D0 : Below w.heap.size w (w.alloc (.cells #[.int .i64 0, .int .i64 p] 27)) := (Below.refl _ _).alloc (Nat.le_refl _) _
  have hc := groupWith_0 p v zs (w.alloc (.cells #[.int .i64 0, .int .i64 p] 27)) h (hs.below D0) (by omega) hj
  have HCL := Lib.hid (fun W hsw hTW => implCl_0 p v zs W h hj hsw (by omega) hTW)
  have HS := Lib.hid (hs.below D0)
  have HT := Lib.hid (hT.belowAll D0)
  have hf := slForm hs
  clear hs h hj hT
  obtain ⟨qa, qc, rfl⟩ : ∃ a c, v = .slice a zs.length c := ⟨_, _, hf⟩
  clear hf
  have h2 : ¬ (62 : Int) < zs.length := by omega
  simp only [gv, gIf] at *
  go_enter Tryd.func12, Tryd.ntmps12
  go_wp2_with fail
  refine hc.mono ?_
  rintro e w1 ⟨rfl, hb⟩
  have s1 := hb.size
  have hs1 := HS.out.below hb
  have hT1 := HT.out.belowAll hb
  rw [World.size_alloc] at hb s1
  go_wp2_with fail
  refine (HCL.out w1 hs1 hT1).mono ?_
  rintro e w2 ⟨⟨u, rfl, hO⟩, hb2⟩
  have HO := Lib.hid hO
  have E2 := D0.trans ((hb.trans (hb2.mono s1)).mono (by omega))
  clear hb hb2 hO hs1 hc
  go_wp2_with fail
  go_ret2
  exact ⟨⟨_, rfl, HO.out.base (by omega)⟩, E2⟩

set_option maxHeartbeats 800000 in
theorem implClosed_1 (p : Nat) (v : Value) (zs : List Int) (w : World) (hs : Sl w v zs) (hl : zs.length ≤ 62) (h : gOk 1 p = true) (hj : elOk (gOrd 1 p) zs zs.length = true) (hT : Tab w) :
    Calls Tryd.prog 12 #[gv 1 p, v] w fun e w' => LRes w.heap.size (clE 1 p zs) 0 e w' ∧ Below w.heap.size w w' := by
  have D0 : Below w.heap.size w (w.alloc (.cells #[.int .i64 1, .int .i64 p] 27)) := (Below.refl _ _).alloc (Nat.le_refl _) _
  have hc := groupWith_1 p v zs (w.alloc (.cells #[.int .i64 1, .int .i64 p] 27)) h (hs.below D0) (by omega) hj
  have HCL := Lib.hid (fun W hsw hTW => implCl_1 p v zs W h hj hsw (by omega) hTW)
  have HS := Lib.hid (hs.below D0)
  have HT := Lib.hid (hT.belowAll D0)
  have hf := slForm hs
  clear hs h hj hT
  obtain ⟨qa, qc, rfl⟩ : ∃ a c, v = .slice a zs.length c := ⟨_, _, hf⟩
  clear hf
  have h2 : ¬ (62 : Int) < zs.length := by omega
  simp only [gv, gIf] at *
  go_enter Tryd.func12, Tryd.ntmps12
  go_wp2_with fail
  refine hc.mono ?_
  rintro e w1 ⟨rfl, hb⟩
  have s1 := hb.size
  have hs1 := HS.out.below hb
  have hT1 := HT.out.belowAll hb
  rw [World.size_alloc] at hb s1
  go_wp2_with fail
  refine (HCL.out w1 hs1 hT1).mono ?_
  rintro e w2 ⟨⟨u, rfl, hO⟩, hb2⟩
  have HO := Lib.hid hO
  have E2 := D0.trans ((hb.trans (hb2.mono s1)).mono (by omega))
  clear hb hb2 hO hs1 hc
  go_wp2_with fail
  go_ret2
  exact ⟨⟨_, rfl, HO.out.base (by omega)⟩, E2⟩

set_option maxHeartbeats 800000 in
theorem implClosed_2 (p : Nat) (v : Value) (zs : List Int) (w : World) (hs : Sl w v zs) (hl : zs.length ≤ 62) (h : gOk 2 p = true) (hj : elOk (gOrd 2 p) zs zs.length = true) (hT : Tab w) :
    Calls Tryd.prog 12 #[gv 2 p, v] w fun e w' => LRes w.heap.size (clE 2 p zs) 0 e w' ∧ Below w.heap.size w w' := by
  have D0 : Below w.heap.size w (w.alloc (.cells #[.int .i64 2, .int .i64 p] 27)) := (Below.refl _ _).alloc (Nat.le_refl _) _
  have hc := groupWith_2 p v zs (w.alloc (.cells #[.int .i64 2, .int .i64 p] 27)) h (hs.below D0) (by omega) hj
  have HCL := Lib.hid (fun W hsw hTW => implCl_2 p v zs W h hj hsw (by omega) hTW)
  have HS := Lib.hid (hs.below D0)
  have HT := Lib.hid (hT.belowAll D0)
  have hf := slForm hs
  clear hs h hj hT
  obtain ⟨qa, qc, rfl⟩ : ∃ a c, v = .slice a zs.length c := ⟨_, _, hf⟩
  clear hf
  have h2 : ¬ (62 : Int) < zs.length := by omega
  simp only [gv, gIf] at *
  go_enter Tryd.func12, Tryd.ntmps12
  go_wp2_with fail
  refine hc.mono ?_
  rintro e w1 ⟨rfl, hb⟩
  have s1 := hb.size
  have hs1 := HS.out.below hb
  have hT1 := HT.out.belowAll hb
  rw [World.size_alloc] at hb s1
  go_wp2_with fail
  refine (HCL.out w1 hs1 hT1).mono ?_
  rintro e w2 ⟨⟨u, rfl, hO⟩, hb2⟩
  have HO := Lib.hid hO
  have E2 := D0.trans ((hb.trans (hb2.mono s1)).mono (by omega))
  clear hb hb2 hO hs1 hc
  go_wp2_with fail
  go_ret2
  exact ⟨⟨_, rfl, HO.out.base (by omega)⟩, E2⟩

theorem implClosed_any (a b : Int) (v : Value) (zs : List Int) (w : World) (hs : Sl w v zs) (hl : zs.length ≤ 9223372036854775807) (hT : Tab w) :
    Calls Tryd.prog 12 #[gv a b, v] w fun e w' => LRes w.heap.size (clL a b zs) (clC a b zs) e w' ∧ Below w.heap.size w w' := by
  by_cases h : elC a b zs = 0
  · obtain ⟨k, p, rfl, rfl, hg, hj⟩ := elC_zero h
    by_cases h2 : 62 < zs.length
    · rw [(clC_long h h2).1, (clC_long h h2).2]
      exact implClosed_long k p v zs w hs hl h2 hg hj
    · rw [(clC_yes h (by omega)).1, (clC_yes h (by omega)).2]
      match k, hg, hj with
      | 0, hg, hj => exact implClosed_0 p v zs w hs (by omega) hg hj hT
      | 1, hg, hj => exact implClosed_1 p v zs w hs (by omega) hg hj hT
      | 2, hg, hj => exact implClosed_2 p v zs w hs (by omega) hg hj hT
      | k + 3, hg, _ => simp [gOk] at hg
  · rw [(clC_code h).1, (clC_code h).2]
    exact implClosed_no a b v zs w hs hl h
end Go.Proofs.YtklgimikdnokcaaDoor
